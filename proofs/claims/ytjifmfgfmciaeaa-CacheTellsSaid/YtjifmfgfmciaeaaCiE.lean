/-
  Package cache: look: what a cache, which it brings up to date, tells of two texts, and what counts that. Nothing that was there is changed, but for the list of parts that was handed in.
-/
import Derived.Test.YtjifmfgfmciaeaaCiD
import Derived.Test.YtjifmfgfmciaeaaRge
import Derived.Deep.QuietTactic
namespace Go.Proofs.Ytjifmfgfmciaeaa
open Go.RowKit

/-- what is told, and which count is counted -/
def LookIs (c : Ca) (l r s : ByteArray) (j : Nat) (b : Int) (P : List (List Sl)) : Prop :=
  (j = 3 ∧ getC c l r = (s, { c with parts := P, hits := more c.hits 1 }, b)) ∨ (j = 4 ∧ P = c.parts ∧ getC c l r = (s, { c with misses := more c.misses 1 }, b)) ∨ (j = 5 ∧ P = c.parts ∧ getC c l r = (s, { c with clashes := more c.clashes 1 }, b))
def LookTold (w0 w : World) (r g : Nat) (c : Ca) (l rr : ByteArray) (e : Ending) (w' : World) : Prop :=
  ∃ (s : ByteArray) (j : Nat) (b : Int) (cs : Array Value) (P : List (List Sl)), e = .returned (.tuple #[.string s, .func (.func 43) #[.agg #[.pointer (some ⟨r, j, none⟩)]] #[], .int .i64 b]) ∧ OwnP w0 w' g cs P ∧ w.grownBy w' (some g) ∧ P.length = c.parts.length ∧ LookIs c l rr s j b P

set_option maxHeartbeats 8000000 in
set_option maxRecDepth 100000 in
theorem look_any (w0 w : World) (r g n cap : Nat) (cs : Array Value) (c : Ca) (l rr : ByteArray) (hbx : Blk w r 28 #[.int .i64 c.width, .int .i64 c.room, .slice (some ⟨g, 0, none⟩) n cap, .int .i64 c.hits, .int .i64 c.misses, .int .i64 c.clashes, .int .i64 c.evicted]) (hP : OwnP w0 w g cs c.parts) (hn : c.parts.length = n) (hR : RightC c) (hf : CaFit c) (hl : l.size ≤ 4096) (hr : rr.size ≤ 4096) :
    Calls Try.prog 36 #[.pointer (some ⟨r, 0, none⟩), .string l, .string rr] w (LookTold w0 w r g c l rr) := by
  subst hn
  have HP := Lib.hid hP
  have HR := Lib.hid hR
  have HF := Lib.hid hf
  have HBX := Lib.hid hbx
  have HLL := Lib.hid hl
  have HRR := Lib.hid hr
  have hlen := hf.len
  have n1 := hR.n1
  obtain ⟨p, q, hpq⟩ : ∃ p q, bothK l rr c.width = (p, q) := ⟨_, _, rfl⟩
  have HPQ := Lib.hid hpq
  have HWF : Hid ((Lit.int .u64 p).wf = true) := Lib.hid (by have := (key_fit l rr c.width hl hr).1; rw [hpq] at this; exact this)
  obtain ⟨i, hi⟩ : ∃ i, partN c.parts.length (p, q) = i := ⟨_, rfl⟩
  have HI := Lib.hid hi
  have hilt : i < c.parts.length := by rw [← hi]; exact Nat.mod_lt _ n1
  obtain ⟨L, hL⟩ : ∃ L, c.parts[i]? = some L := ⟨_, List.getElem?_eq_getElem hilt⟩
  have HL := Lib.hid hL
  have hLc := hf.each L (List.mem_of_getElem? hL)
  have l1 : L.length ≤ 1000 := hLc.1
  have HFL := Lib.hid (fitS_of hLc.2)
  have HRL : Hid (rightB L = true) := Lib.hid (by have := (hR.part i hilt).1; rwa [part_is hL] at this)
  obtain ⟨y, M, bg, hgm⟩ : ∃ y M b, getM L (p, q) = (y, M, b) := ⟨_, _, _, rfl⟩
  have HGM := Lib.hid hgm
  obtain ⟨y0, y1, y2, y3, y4, y5, y6⟩ := box7 hbx (Below.refl _ _)
  clear hbx hP hR hf hl hr hpq hi hL hLc hgm
  go_enter Try.func36, Try.ntmps36
  go_wp2_with fail
  refine (both_v l rr c.width _ p q HPQ.out HLL.out HRR.out).mono ?_
  rintro e w2 ⟨rfl, hb2⟩
  have HB2 := Lib.hid hb2
  clear hb2 y0 y1 y2 y3 y4 y5 y6
  go_upto_region 2 with (fail)
  have hb5 : Blk (w2.alloc (.cells #[.int .u64 p, .int .i64 q] 61)) w2.heap.size 61 #[.int .u64 p, .int .i64 q] := Blk.new w2 _ _
  have hw5 : Below w2.heap.size w2 (w2.alloc (.cells #[.int .u64 p, .int .i64 q] 61)) := (Below.refl _ _).alloc (Nat.le_refl _) _
  obtain ⟨w3, hwe⟩ : ∃ w3, w3 = w2.alloc (.cells #[.int .u64 p, .int .i64 q] 61) := ⟨_, rfl⟩
  obtain ⟨gk, hgk⟩ : ∃ gk, gk = w2.heap.size := ⟨_, rfl⟩
  rw [← hwe] at hb5 hw5 ⊢
  rw [← hgk] at hb5 ⊢
  have HK3 := Lib.hid hb5
  have HB3 := Lib.hid (below_step HB2.out hw5)
  have HCB : Hid (∀ W, Below w3.heap.size w3 W → W.cell? ⟨r, 0, none⟩ = some (.int .i64 c.width) ∧ W.cell? ⟨r, 1, none⟩ = some (.int .i64 c.room) ∧ W.cell? ⟨r, 2, none⟩ = some (.slice (some ⟨g, 0, none⟩) c.parts.length cap) ∧ W.cell? ⟨r, 3, none⟩ = some (.int .i64 c.hits) ∧ W.cell? ⟨r, 4, none⟩ = some (.int .i64 c.misses) ∧ W.cell? ⟨r, 5, none⟩ = some (.int .i64 c.clashes) ∧ W.cell? ⟨r, 6, none⟩ = some (.int .i64 c.evicted)) := Lib.hid fun W hW => box7 HBX.out (below_step HB3.out hW)
  have HCK : Hid (∀ W, Below w3.heap.size w3 W → W.cell? ⟨gk, 0, none⟩ = some (.int .u64 p) ∧ W.cell? ⟨gk, 1, none⟩ = some (.int .i64 q)) := Lib.hid fun W hW => ⟨(Blk.below HK3.out hW HK3.out.lt).cell 0, (Blk.below HK3.out hW HK3.out.lt).cell 1⟩
  clear hb5 hw5 hwe hgk
  refine wp_region_noPanic ?_
  refine wp_region_held_drew (S := fun W => Below w3.heap.size w3 W) (by kernel_rfl) ((Below.refl w3.heap.size w3).drew) (fun hS0 => ?_)
  change wpAnyH _ _ _ _ _ 6 #[false, false, false, false, false, false] _ (World.drew _)
  refine wpAnyH_take (i := 0) (v := .pointer (some ⟨r, 0, none⟩)) rfl (by kernel_rfl) (by kernel_rfl) (by kernel_rfl) (fun _ _ _ h => h) (Or.inl ⟨by rfl, fun w' hS' => by exact op_move rfl rfl⟩) hS0 ?_
  change wpAnyH _ _ _ _ _ _ _ (Act.put _ (some 21) (.pointer (some ⟨r, 0, none⟩))) _
  simp only [Act.put, List.setIfInBounds_toArray, List.set_cons_zero, List.set_cons_succ]
  refine wpAnyH_take (i := 1) (v := .pointer (some ⟨r, 0, none⟩)) rfl (by kernel_rfl) (by kernel_rfl) (by kernel_rfl) (fun _ _ _ h => h) (Or.inl ⟨by rfl, fun w' hS' => by go_simp⟩) hS0 ?_
  change wpAnyH _ _ _ _ _ _ _ (Act.put _ (some 22) (.pointer (some ⟨r, 0, none⟩))) _
  simp only [Act.put, List.setIfInBounds_toArray, List.set_cons_zero, List.set_cons_succ]
  refine wpAnyH_take (i := 2) (v := .agg #[.int .i64 c.width, .int .i64 c.room, .slice (some ⟨g, 0, none⟩) c.parts.length cap, .int .i64 c.hits, .int .i64 c.misses, .int .i64 c.clashes, .int .i64 c.evicted]) rfl (by kernel_rfl) (by kernel_rfl) (by kernel_rfl) (fun _ _ _ h => h) (Or.inl ⟨by rfl, fun w' hS' => by obtain ⟨y0, y1, y2, y3, y4, y5, y6⟩ := HCB.out _ hS'; go_simp⟩) hS0 ?_
  change wpAnyH _ _ _ _ _ _ _ (Act.put _ (some 23) (.agg #[.int .i64 c.width, .int .i64 c.room, .slice (some ⟨g, 0, none⟩) c.parts.length cap, .int .i64 c.hits, .int .i64 c.misses, .int .i64 c.clashes, .int .i64 c.evicted])) _
  simp only [Act.put, List.setIfInBounds_toArray, List.set_cons_zero, List.set_cons_succ]
  refine wpAnyH_take (i := 3) (v := .agg #[.int .u64 p, .int .i64 q]) rfl (by kernel_rfl) (by kernel_rfl) (by kernel_rfl) (fun _ _ _ h => h) (Or.inl ⟨by rfl, fun w' hS' => by obtain ⟨k0, k1⟩ := HCK.out _ hS'; go_simp⟩) hS0 ?_
  change wpAnyH _ _ _ _ _ _ _ (Act.put _ (some 24) (.agg #[.int .u64 p, .int .i64 q])) _
  simp only [Act.put, List.setIfInBounds_toArray, List.set_cons_zero, List.set_cons_succ]
  refine wpAnyH_ready (rs := [4]) (by kernel_rfl) (by simp) (AllReadyH.cons rfl (fun K hK => ?_) (AllReadyH.nil))
  · skip
    go_simp
    refine (partOf_any c.width c.room c.hits c.misses c.clashes c.evicted (some ⟨g, 0, none⟩) c.parts.length cap p q _ n1 (by omega) HWF.out).mono ?_
    rintro e W1 ⟨rfl, hb3⟩
    rw [HI.out]
    refine hK.out _ _ (hS0.trans (hb3.mono hS0.size)) (fun hS2 => ?_)
    clear hK K
    simp only [List.setIfInBounds_toArray, List.set_cons_zero, List.set_cons_succ]
    refine wpAnyH_take (i := 5) (v := .int .i64 (i : Int)) rfl (by kernel_rfl) (by kernel_rfl) (by kernel_rfl) (fun _ _ _ h => h) (Or.inl ⟨by rfl, fun w' hS' => by exact op_assign rfl rfl⟩) hS2 ?_
    change wpAnyH _ _ _ _ _ _ _ (Act.put _ (some 10) (.int .i64 (i : Int))) _
    simp only [Act.put, List.setIfInBounds_toArray, List.set_cons_zero, List.set_cons_succ]
    refine wpAnyH_done (by kernel_rfl) ?_ _
    refine NoPanic.normal ?_
    have hS6 := hS2
    obtain ⟨w6, hw6, HS6⟩ : ∃ w6, w6 = _ ∧ Hid (Below w3.heap.size w3 w6) := ⟨_, rfl, Lib.hid hS6⟩
    rw [← hw6]
    clear hw6 hS6
    have HB6 : Hid (Below w.heap.size w w6) := Lib.hid (below_step HB3.out HS6.out)
    have HP6 := Lib.hid (HP.out.up HB6.out)
    have HK6 := Lib.hid (Blk.below HK3.out HS6.out HK3.out.lt)
    have HCB : Hid (∀ W, Below w6.heap.size w6 W → W.cell? ⟨r, 0, none⟩ = some (.int .i64 c.width) ∧ W.cell? ⟨r, 1, none⟩ = some (.int .i64 c.room) ∧ W.cell? ⟨r, 2, none⟩ = some (.slice (some ⟨g, 0, none⟩) c.parts.length cap) ∧ W.cell? ⟨r, 3, none⟩ = some (.int .i64 c.hits) ∧ W.cell? ⟨r, 4, none⟩ = some (.int .i64 c.misses) ∧ W.cell? ⟨r, 5, none⟩ = some (.int .i64 c.clashes) ∧ W.cell? ⟨r, 6, none⟩ = some (.int .i64 c.evicted)) := Lib.hid fun W hW => box7 HBX.out (below_step HB6.out hW)
    have HCK : Hid (∀ W, Below w6.heap.size w6 W → W.cell? ⟨gk, 0, none⟩ = some (.int .u64 p) ∧ W.cell? ⟨gk, 1, none⟩ = some (.int .i64 q)) := Lib.hid fun W hW => ⟨(Blk.below HK6.out hW HK6.out.lt).cell 0, (Blk.below HK6.out hW HK6.out.lt).cell 1⟩
    obtain ⟨B, cl, hrow, hSB, hcl, hnew⟩ := HP6.out.rows i L HL.out
    have HROW := Lib.hid hrow
    have HCE : Hid (∀ W, Below w6.heap.size w6 W → W.cell? ⟨g, i, none⟩ = some (.slice B L.length cl)) := Lib.hid fun W hW => ((Blk.below HP6.out.blk hW HP6.out.blk.lt).cell i).trans HROW.out
    have HSU : Hid (∀ W, Below w6.heap.size w6 W → SlotsAt W B L) := Lib.hid fun W hW => hSB.up hW
    have hai := add_zero_block g i
    clear hrow hSB hcl hnew
    go_wp2_with fail
    go_cut [11, 12, 13] (fun s11 s12 s13 wx => FoundIn w6 y M bg s11 s12 s13 wx)
    case first =>
        refine wp_region_noPanic ?_
        refine wp_region_held_drew (S := fun W => Below w6.heap.size w6 W) (by kernel_rfl) ((Below.refl w6.heap.size w6).drew) (fun hS0 => ?_)
        change wpAnyH _ _ _ _ _ 17 #[false, false, false, false, false, false, false, false, false, false, false, false, false, false, false, false, false] _ (World.drew _)
        refine wpAnyH_take (i := 0) (v := .pointer (some ⟨r, 0, none⟩)) rfl (by kernel_rfl) (by kernel_rfl) (by kernel_rfl) (fun _ _ _ h => h) (Or.inl ⟨by rfl, fun w' hS' => by exact op_move rfl rfl⟩) hS0 ?_
        change wpAnyH _ _ _ _ _ _ _ (Act.put _ (some 27) (.pointer (some ⟨r, 0, none⟩))) _
        simp only [Act.put, List.setIfInBounds_toArray, List.set_cons_zero, List.set_cons_succ]
        refine wpAnyH_take (i := 1) (v := .pointer (some ⟨r, 0, none⟩)) rfl (by kernel_rfl) (by kernel_rfl) (by kernel_rfl) (fun _ _ _ h => h) (Or.inl ⟨by rfl, fun w' hS' => by go_simp⟩) hS0 ?_
        change wpAnyH _ _ _ _ _ _ _ (Act.put _ (some 28) (.pointer (some ⟨r, 0, none⟩))) _
        simp only [Act.put, List.setIfInBounds_toArray, List.set_cons_zero, List.set_cons_succ]
        refine wpAnyH_take (i := 2) (v := .pointer (some ⟨r, 2, none⟩)) rfl (by kernel_rfl) (by kernel_rfl) (by kernel_rfl) (fun _ _ _ h => h) (Or.inl ⟨by rfl, fun w' hS' => by go_simp⟩) hS0 ?_
        change wpAnyH _ _ _ _ _ _ _ (Act.put _ (some 29) (.pointer (some ⟨r, 2, none⟩))) _
        simp only [Act.put, List.setIfInBounds_toArray, List.set_cons_zero, List.set_cons_succ]
        refine wpAnyH_take (i := 3) (v := .slice (some ⟨g, 0, none⟩) c.parts.length cap) rfl (by kernel_rfl) (by kernel_rfl) (by kernel_rfl) (fun _ _ _ h => h) (Or.inl ⟨by rfl, fun w' hS' => by obtain ⟨y0, y1, y2, y3, y4, y5, y6⟩ := HCB.out _ hS'; go_simp⟩) hS0 ?_
        change wpAnyH _ _ _ _ _ _ _ (Act.put _ (some 30) (.slice (some ⟨g, 0, none⟩) c.parts.length cap)) _
        simp only [Act.put, List.setIfInBounds_toArray, List.set_cons_zero, List.set_cons_succ]
        refine wpAnyH_take (i := 4) (v := .int .i64 (i : Int)) rfl (by kernel_rfl) (by kernel_rfl) (by kernel_rfl) (fun _ _ _ h => h) (Or.inl ⟨by rfl, fun w' hS' => by exact op_move rfl rfl⟩) hS0 ?_
        change wpAnyH _ _ _ _ _ _ _ (Act.put _ (some 31) (.int .i64 (i : Int))) _
        simp only [Act.put, List.setIfInBounds_toArray, List.set_cons_zero, List.set_cons_succ]
        refine wpAnyH_take (i := 5) (v := .pointer (some ⟨g, i, none⟩)) rfl (by kernel_rfl) (by kernel_rfl) (by kernel_rfl) (fun _ _ _ h => h) (Or.inl ⟨by rfl, fun w' hS' => by go_simp⟩) hS0 ?_
        change wpAnyH _ _ _ _ _ _ _ (Act.put _ (some 32) (.pointer (some ⟨g, i, none⟩))) _
        simp only [Act.put, List.setIfInBounds_toArray, List.set_cons_zero, List.set_cons_succ]
        refine wpAnyH_take (i := 6) (v := .slice B L.length cl) rfl (by kernel_rfl) (by kernel_rfl) (by kernel_rfl) (fun _ _ _ h => h) (Or.inl ⟨by rfl, fun w' hS' => by have k2 := HCE.out _ hS'; go_simp⟩) hS0 ?_
        change wpAnyH _ _ _ _ _ _ _ (Act.put _ (some 33) (.slice B L.length cl)) _
        simp only [Act.put, List.setIfInBounds_toArray, List.set_cons_zero, List.set_cons_succ]
        refine wpAnyH_take (i := 7) (v := .agg #[.int .u64 p, .int .i64 q]) rfl (by kernel_rfl) (by kernel_rfl) (by kernel_rfl) (fun _ _ _ h => h) (Or.inl ⟨by rfl, fun w' hS' => by obtain ⟨k0, k1⟩ := HCK.out _ hS'; go_simp⟩) hS0 ?_
        change wpAnyH _ _ _ _ _ _ _ (Act.put _ (some 34) (.agg #[.int .u64 p, .int .i64 q])) _
        simp only [Act.put, List.setIfInBounds_toArray, List.set_cons_zero, List.set_cons_succ]
        refine wpAnyH_ready (rs := [8, 13]) (by kernel_rfl) (by simp) (AllReadyH.cons rfl (fun K hK => ?_) (AllReadyH.cons rfl (fun K hK => ?_) (AllReadyH.nil)))
        · skip
          go_simp
          refine (get_any B L L.length cl p q _ y M bg HGM.out (HSU.out _ hS0) rfl (by omega) HFL.out).mono ?_
          rintro e W1 ⟨A4, n5, c6, rfl, hn8, hs7, hb3, hc9, hw10⟩
          refine hK.out _ _ (hS0.trans (hb3.mono hS0.size)) (fun hS2 => ?_)
          clear hK K
          simp only [List.setIfInBounds_toArray, List.set_cons_zero, List.set_cons_succ]
          refine wpAnyH_take (i := 9) (v := .tuple #[.agg #[.int .u64 y.sum, .int .i64 y.len, .string y.left, .string y.right, .string y.val], .slice A4 n5 c6, .int .i64 bg]) rfl (by kernel_rfl) (by kernel_rfl) (by kernel_rfl) (fun _ _ _ h => h) (Or.inl ⟨by rfl, fun w' hS' => by exact op_move rfl rfl⟩) hS2 ?_
          change wpAnyH _ _ _ _ _ _ _ (Act.put _ (some 26) (.tuple #[.agg #[.int .u64 y.sum, .int .i64 y.len, .string y.left, .string y.right, .string y.val], .slice A4 n5 c6, .int .i64 bg])) _
          simp only [Act.put, List.setIfInBounds_toArray, List.set_cons_zero, List.set_cons_succ]
          refine wpAnyH_take (i := 10) (v := .agg #[.int .u64 y.sum, .int .i64 y.len, .string y.left, .string y.right, .string y.val]) rfl (by kernel_rfl) (by kernel_rfl) (by kernel_rfl) (fun _ _ _ h => h) (Or.inl ⟨by rfl, fun w' hS' => by go_simp⟩) hS2 ?_
          change wpAnyH _ _ _ _ _ _ _ (Act.put _ (some 36) (.agg #[.int .u64 y.sum, .int .i64 y.len, .string y.left, .string y.right, .string y.val])) _
          simp only [Act.put, List.setIfInBounds_toArray, List.set_cons_zero, List.set_cons_succ]
          refine wpAnyH_take (i := 11) (v := .slice A4 n5 c6) rfl (by kernel_rfl) (by kernel_rfl) (by kernel_rfl) (fun _ _ _ h => h) (Or.inl ⟨by rfl, fun w' hS' => by go_simp⟩) hS2 ?_
          change wpAnyH _ _ _ _ _ _ _ (Act.put _ (some 37) (.slice A4 n5 c6)) _
          simp only [Act.put, List.setIfInBounds_toArray, List.set_cons_zero, List.set_cons_succ]
          refine wpAnyH_take (i := 12) (v := .int .i64 bg) rfl (by kernel_rfl) (by kernel_rfl) (by kernel_rfl) (fun _ _ _ h => h) (Or.inl ⟨by rfl, fun w' hS' => by go_simp⟩) hS2 ?_
          change wpAnyH _ _ _ _ _ _ _ (Act.put _ (some 38) (.int .i64 bg)) _
          simp only [Act.put, List.setIfInBounds_toArray, List.set_cons_zero, List.set_cons_succ]
          refine wpAnyH_ready (rs := [13]) (by kernel_rfl) (by simp) (AllReadyH.cons rfl (fun K hK => ?_) (AllReadyH.nil))
          · skip
            obtain ⟨gs12, W11, hr15, hk16, hb14, hg17⟩ := op_allocS W1
            refine step_op_run (hr15 _ _ rfl) rfl ?_
            refine hK.out _ _ (hS2.trans (hb14.mono hS2.size)) (fun hS13 => ?_)
            clear hK K
            change wpAnyH _ _ _ _ _ _ _ (Act.put _ (some 11) (.pointer (some ⟨gs12, 0, none⟩))) _
            simp only [Act.put, List.setIfInBounds_toArray, List.set_cons_zero, List.set_cons_succ]
            refine wpAnyH_ready (rs := [14]) (by kernel_rfl) (by simp) (AllReadyH.cons rfl (fun K hK => ?_) (AllReadyH.nil))
            · skip
              obtain ⟨W18, hr20, hk21, hgr22⟩ := op_store gs12 y zeroS _ hk16
              refine step_op_skip (hr20 _ _ _ _ rfl rfl rfl) rfl ?_
              refine hK.out _ _ (hS13.grown hgr22 hS13.size (fun b e => by injection e with e; rw [← e]; exact Nat.le_trans (hS2).size hg17)) (fun hS19 => ?_)
              clear hK K
              change wpAnyH _ _ _ _ _ _ _ (Act.put _ none (undef)) _
              simp only [Act.put]
              refine wpAnyH_take (i := 15) (v := .slice A4 n5 c6) rfl (by kernel_rfl) (by kernel_rfl) (by kernel_rfl) (fun _ _ _ h => h) (Or.inl ⟨by rfl, fun w' hS' => by exact op_assign rfl rfl⟩) hS19 ?_
              change wpAnyH _ _ _ _ _ _ _ (Act.put _ (some 12) (.slice A4 n5 c6)) _
              simp only [Act.put, List.setIfInBounds_toArray, List.set_cons_zero, List.set_cons_succ]
              refine wpAnyH_take (i := 16) (v := .int .i64 bg) rfl (by kernel_rfl) (by kernel_rfl) (by kernel_rfl) (fun _ _ _ h => h) (Or.inl ⟨by rfl, fun w' hS' => by exact op_assign rfl rfl⟩) hS19 ?_
              change wpAnyH _ _ _ _ _ _ _ (Act.put _ (some 13) (.int .i64 bg)) _
              simp only [Act.put, List.setIfInBounds_toArray, List.set_cons_zero, List.set_cons_succ]
              refine wpAnyH_done (by kernel_rfl) ?_ _
              refine NoPanic.normal ?_
              go_wp2_with fail
              go_meet
              refine ⟨gs12, A4, n5, c6, rfl, rfl, rfl, hk21, hn8, ?_, hc9, hS19, Nat.le_trans (hS2).size hg17, fun a ha => Nat.le_trans (hS0).size (hw10 a ha)⟩
              refine RowAt.kept_ne (hs7.up hb14) hgr22 (fun a ha hm0 e => ?_)
              obtain ⟨a', ea, hlt, _⟩ := hs7 hm0
              rw [ha] at ea
              injection ea with ea
              subst ea
              have h2 := hg17
              omega
        · skip
          obtain ⟨gs24, W23, hr27, hk28, hb26, hg29⟩ := op_allocS w6.drew
          refine step_op_run (hr27 _ _ rfl) rfl ?_
          refine hK.out _ _ (hS0.trans (hb26.mono hS0.size)) (fun hS25 => ?_)
          clear hK K
          change wpAnyH _ _ _ _ _ _ _ (Act.put _ (some 11) (.pointer (some ⟨gs24, 0, none⟩))) _
          simp only [Act.put, List.setIfInBounds_toArray, List.set_cons_zero, List.set_cons_succ]
          refine wpAnyH_ready (rs := [8]) (by kernel_rfl) (by simp) (AllReadyH.cons rfl (fun K hK => ?_) (AllReadyH.nil))
          · skip
            go_simp
            refine (get_any B L L.length cl p q _ y M bg HGM.out (HSU.out _ hS25) rfl (by omega) HFL.out).mono ?_
            rintro e W30 ⟨A33, n34, c35, rfl, hn37, hs36, hb32, hc38, hw39⟩
            refine hK.out _ _ (hS25.trans (hb32.mono hS25.size)) (fun hS31 => ?_)
            clear hK K
            simp only [List.setIfInBounds_toArray, List.set_cons_zero, List.set_cons_succ]
            refine wpAnyH_take (i := 9) (v := .tuple #[.agg #[.int .u64 y.sum, .int .i64 y.len, .string y.left, .string y.right, .string y.val], .slice A33 n34 c35, .int .i64 bg]) rfl (by kernel_rfl) (by kernel_rfl) (by kernel_rfl) (fun _ _ _ h => h) (Or.inl ⟨by rfl, fun w' hS' => by exact op_move rfl rfl⟩) hS31 ?_
            change wpAnyH _ _ _ _ _ _ _ (Act.put _ (some 26) (.tuple #[.agg #[.int .u64 y.sum, .int .i64 y.len, .string y.left, .string y.right, .string y.val], .slice A33 n34 c35, .int .i64 bg])) _
            simp only [Act.put, List.setIfInBounds_toArray, List.set_cons_zero, List.set_cons_succ]
            refine wpAnyH_take (i := 10) (v := .agg #[.int .u64 y.sum, .int .i64 y.len, .string y.left, .string y.right, .string y.val]) rfl (by kernel_rfl) (by kernel_rfl) (by kernel_rfl) (fun _ _ _ h => h) (Or.inl ⟨by rfl, fun w' hS' => by go_simp⟩) hS31 ?_
            change wpAnyH _ _ _ _ _ _ _ (Act.put _ (some 36) (.agg #[.int .u64 y.sum, .int .i64 y.len, .string y.left, .string y.right, .string y.val])) _
            simp only [Act.put, List.setIfInBounds_toArray, List.set_cons_zero, List.set_cons_succ]
            refine wpAnyH_take (i := 11) (v := .slice A33 n34 c35) rfl (by kernel_rfl) (by kernel_rfl) (by kernel_rfl) (fun _ _ _ h => h) (Or.inl ⟨by rfl, fun w' hS' => by go_simp⟩) hS31 ?_
            change wpAnyH _ _ _ _ _ _ _ (Act.put _ (some 37) (.slice A33 n34 c35)) _
            simp only [Act.put, List.setIfInBounds_toArray, List.set_cons_zero, List.set_cons_succ]
            refine wpAnyH_take (i := 12) (v := .int .i64 bg) rfl (by kernel_rfl) (by kernel_rfl) (by kernel_rfl) (fun _ _ _ h => h) (Or.inl ⟨by rfl, fun w' hS' => by go_simp⟩) hS31 ?_
            change wpAnyH _ _ _ _ _ _ _ (Act.put _ (some 38) (.int .i64 bg)) _
            simp only [Act.put, List.setIfInBounds_toArray, List.set_cons_zero, List.set_cons_succ]
            refine wpAnyH_ready (rs := [14]) (by kernel_rfl) (by simp) (AllReadyH.cons rfl (fun K hK => ?_) (AllReadyH.nil))
            · skip
              obtain ⟨W40, hr42, hk43, hgr44⟩ := op_store gs24 y zeroS _ (Blk.below hk28 hb32 hk28.lt)
              refine step_op_skip (hr42 _ _ _ _ rfl rfl rfl) rfl ?_
              refine hK.out _ _ (hS31.grown hgr44 hS31.size (fun b e => by injection e with e; rw [← e]; exact Nat.le_trans (hS0).size hg29)) (fun hS41 => ?_)
              clear hK K
              change wpAnyH _ _ _ _ _ _ _ (Act.put _ none (undef)) _
              simp only [Act.put]
              refine wpAnyH_take (i := 15) (v := .slice A33 n34 c35) rfl (by kernel_rfl) (by kernel_rfl) (by kernel_rfl) (fun _ _ _ h => h) (Or.inl ⟨by rfl, fun w' hS' => by exact op_assign rfl rfl⟩) hS41 ?_
              change wpAnyH _ _ _ _ _ _ _ (Act.put _ (some 12) (.slice A33 n34 c35)) _
              simp only [Act.put, List.setIfInBounds_toArray, List.set_cons_zero, List.set_cons_succ]
              refine wpAnyH_take (i := 16) (v := .int .i64 bg) rfl (by kernel_rfl) (by kernel_rfl) (by kernel_rfl) (fun _ _ _ h => h) (Or.inl ⟨by rfl, fun w' hS' => by exact op_assign rfl rfl⟩) hS41 ?_
              change wpAnyH _ _ _ _ _ _ _ (Act.put _ (some 13) (.int .i64 bg)) _
              simp only [Act.put, List.setIfInBounds_toArray, List.set_cons_zero, List.set_cons_succ]
              refine wpAnyH_done (by kernel_rfl) ?_ _
              refine NoPanic.normal ?_
              go_wp2_with fail
              go_meet
              refine ⟨gs24, A33, n34, c35, rfl, rfl, rfl, hk43, hn37, ?_, hc38, hS41, Nat.le_trans (hS0).size hg29, fun a ha => Nat.le_trans (hS25).size (hw39 a ha)⟩
              refine RowAt.kept_ne hs36 hgr44 (fun a ha hm0 e => ?_)
              have h1 := hw39 a ha
              have h2 := (hk28).lt
              omega
    case rest =>
      obtain ⟨gs, A6, n6, c6, rfl, rfl, rfl, hbs, hn6, hs6, hc6, hbw, hg6, hnw6⟩ := hcut
      subst hn6
      obtain ⟨hat, hpart, hnum⟩ := at_get HPQ.out HI.out HL.out
      have HAT := Lib.hid hat
      have HPT := Lib.hid hpart
      have HNUM := Lib.hid hnum
      have HBW := Lib.hid hbw
      have HBS := Lib.hid hbs
      have HS6 := Lib.hid hs6
      have HNW6 := Lib.hid hnw6
      have HC6 := Lib.hid hc6
      have HBWC := Lib.hid (below_step HB6.out hbw)
      clear hat hpart hnum hbw hbs hs6 hnw6 hc6
      obtain ⟨s0, d0, b0, hm⟩ : ∃ s d b, getC c l rr = (s, d, b) := ⟨_, _, _, rfl⟩
      have HM := Lib.hid hm
      rcases get_cases HR.out hm with ⟨h1, rfl, rfl, rfl⟩ | ⟨x, h1, h2, rfl, rfl, rfl⟩ | ⟨x, h1, h2, h3, rfl, rfl, rfl⟩
      case inl =>
        have hg : y = zeroS ∧ bg = 10 := by have h := HGM.out; rw [getM_none HRL.out (HAT.out.symm.trans h1)] at h; simp only [Prod.mk.injEq] at h; exact ⟨h.1.symm, h.2.2.symm⟩
        obtain ⟨rfl, rfl⟩ := hg
        clear h1 hm
        go_wp2_with fail
        go_quiet (fail)
        go_wp2_with fail
        go_ret3
        exact ⟨_, 4, _, cs, c.parts, rfl, HP.out.up (below_drewN HBWC.out _), grown_of_below (below_drewN HBWC.out _) _, rfl, .inr (.inl ⟨rfl, rfl, HM.out⟩)⟩
      case inr.inl =>
        have hg : y = x ∧ bg = 0 := by have h := HGM.out; rw [getM_some HRL.out (HAT.out.symm.trans h1)] at h; simp only [Prod.mk.injEq] at h; exact ⟨h.1.symm, h.2.2.symm⟩
        obtain ⟨rfl, rfl⟩ := hg
        clear h1 hm
        obtain ⟨s0, s1, s2, s3, s4⟩ := blk_cells HBS.out (Below.refl _ _)
        cases t1 : (y.left.toList == l.toList) with
        | false =>
          clear h2
          go_wp2_with fail
          go_quiet (fail)
          go_wp2_with fail
          go_ret3
          exact ⟨_, 5, _, cs, c.parts, rfl, HP.out.up (below_drewN HBWC.out _), grown_of_below (below_drewN HBWC.out _) _, rfl, .inr (.inr ⟨rfl, rfl, HM.out⟩)⟩
        | true =>
          cases t2 : (y.right.toList == rr.toList) with
          | false =>
            clear h2
            go_wp2_with fail
            go_quiet (fail)
            go_wp2_with fail
            go_ret3
            exact ⟨_, 5, _, cs, c.parts, rfl, HP.out.up (below_drewN HBWC.out _), grown_of_below (below_drewN HBWC.out _) _, rfl, .inr (.inr ⟨rfl, rfl, HM.out⟩)⟩
          | true =>
            exact absurd ⟨text_eq t1, text_eq t2⟩ h2
      case inr.inr =>
        have hg : y = x ∧ M = x :: withoutS L (p, q) ∧ bg = 0 := by have h := HGM.out; rw [getM_some HRL.out (HAT.out.symm.trans h1)] at h; simp only [Prod.mk.injEq] at h; exact ⟨h.1.symm, h.2.1.symm, h.2.2.symm⟩
        obtain ⟨rfl, hMM, rfl⟩ := hg
        have HMM : Hid (M = y :: withoutS L (p, q)) := Lib.hid hMM
        have t1 : (y.left.toList == l.toList) = true := by rw [h2]; simp
        have t2 : (y.right.toList == rr.toList) = true := by rw [h3]; simp
        clear h1 h2 h3 hMM hm
        obtain ⟨s0, s1, s2, s3, s4⟩ := blk_cells HBS.out (Below.refl _ _)
        obtain ⟨y0, y1, y2, y3, y4, y5, y6⟩ := HCB.out _ HBW.out
        have hbg := Blk.below HP6.out.blk HBW.out HP6.out.blk.lt
        have zi := (Blk.cell hbg i).trans HROW.out
        have qi := Blk.frozen hbg i
        have hlg := hbg.lt
        clear hbg
        go_upto_region 9 with (fail)
        have hfar := Blk.far HBS.out (show gs ≠ g by have := HP6.out.blk.lt; omega) (p := ⟨g, i, none⟩) (.slice A6 M.length c6)
        have HPN : Hid (OwnP w0 (wc.setCell ⟨g, i, none⟩ (.slice A6 M.length c6)) g (cs.setIfInBounds i (.slice A6 M.length c6)) (c.parts.set i M)) := Lib.hid ((HP6.out.up HBW.out).put HS6.out HC6.out (fun b eb => by have h1 := HNW6.out b eb; have h2 := HP6.out.blk.lt; have h3 := HP6.out.below.size; exact ⟨by omega, by omega⟩))
        have HGR : Hid (w.grownBy (wc.setCell ⟨g, i, none⟩ (.slice A6 M.length c6)) (some g)) := Lib.hid ((grown_of_below HBWC.out _).trans (grown_set _ _ _ _))
        obtain ⟨w7, hw7⟩ : ∃ w7, w7 = wc.setCell ⟨g, i, none⟩ (.slice A6 M.length c6) := ⟨_, rfl⟩
        rw [← hw7] at hfar HPN HGR ⊢
        clear hw7 zi qi hlg y0 y1 y2 y3 y4 y5 y6 s0 s1 s2 s3 s4
        obtain ⟨s0, s1, s2, s3, s4⟩ := blk_cells hfar (Below.refl _ _)
        clear hfar
        go_quiet (fail)
        go_wp2_with fail
        go_ret3
        refine ⟨_, 3, _, _, c.parts.set i M, rfl, HPN.out.up (below_drewN (Below.refl _ _) _), HGR.out.trans (grown_of_below (below_drewN (Below.refl _ _) _) _), by rw [List.length_set], .inl ⟨rfl, ?_⟩⟩
        rw [HM.out, HNUM.out, part_is HL.out, HMM.out, show c.key l rr = (p, q) from HPQ.out]

end Go.Proofs.Ytjifmfgfmciaeaa
