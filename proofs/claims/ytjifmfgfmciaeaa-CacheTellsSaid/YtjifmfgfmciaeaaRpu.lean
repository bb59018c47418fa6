/-
  collatorref14.Put: what has been found out for two texts. Nothing that was there is changed.
-/
import Derived.Test.YtjifmfgfmciaeaaRge
namespace Go.Proofs.Ytjifmfgfmciaeaa
open Go.RowKit

set_option maxHeartbeats 8000000 in
set_option maxRecDepth 100000 in
theorem rputC_any (c : Ca) (A : Option Addr) (n cap : Nat) (l r v : ByteArray) (w : World) (d0 : Ca) (b0 : Int) (hm : putC c l r v = (d0, b0)) (X : Nat → Prop) (hX : ∀ b, X b → b < w.heap.size) (ha : PartsAt X w A c.parts) (hn : c.parts.length = n) (hcap : n ≤ cap) (hf : CaFit c) (hl : l.size ≤ 4096) (hr : r.size ≤ 4096) :
    Calls Try.prog 24 #[.agg #[.int .i64 c.width, .int .i64 c.room, .slice A n cap, .int .i64 c.hits, .int .i64 c.misses, .int .i64 c.clashes, .int .i64 c.evicted], .string l, .string r, .string v] w (CaTold X d0 b0 w) := by
  subst hn
  have HA := Lib.hid ha
  have HF := Lib.hid hf
  have HM := Lib.hid hm
  have HXX := Lib.hid hX
  have HLL := Lib.hid hl
  have HRR := Lib.hid hr
  have hlen := hf.len
  clear ha hf hm hl hr hX
  obtain ⟨rb, hrb⟩ : ∃ b, rightC c = b := ⟨_, rfl⟩
  have HRB := Lib.hid hrb
  clear hrb
  go_enter Try.func24, Try.ntmps24
  go_wp2_with fail
  have hb0 : Blk ((w.alloc (.cells #[.int .i64 c.width, .int .i64 c.room, .slice A c.parts.length cap, .int .i64 c.hits, .int .i64 c.misses, .int .i64 c.clashes, .int .i64 c.evicted] 28)).alloc (.cells #[.int .i64 0, .int .i64 0, .slice none 0 0, .int .i64 0, .int .i64 0, .int .i64 0, .int .i64 0] 28)) w.heap.size 28 #[.int .i64 c.width, .int .i64 c.room, .slice A c.parts.length cap, .int .i64 c.hits, .int .i64 c.misses, .int .i64 c.clashes, .int .i64 c.evicted] := (Blk.new w _ _).alloc _
  have hb2 : Blk ((w.alloc (.cells #[.int .i64 c.width, .int .i64 c.room, .slice A c.parts.length cap, .int .i64 c.hits, .int .i64 c.misses, .int .i64 c.clashes, .int .i64 c.evicted] 28)).alloc (.cells #[.int .i64 0, .int .i64 0, .slice none 0 0, .int .i64 0, .int .i64 0, .int .i64 0, .int .i64 0] 28)) (w.heap.size + 1) 28 #[.int .i64 0, .int .i64 0, .slice none 0 0, .int .i64 0, .int .i64 0, .int .i64 0, .int .i64 0] := by
    have := Blk.new (w.alloc (.cells #[.int .i64 c.width, .int .i64 c.room, .slice A c.parts.length cap, .int .i64 c.hits, .int .i64 c.misses, .int .i64 c.clashes, .int .i64 c.evicted] 28)) 28 #[.int .i64 0, .int .i64 0, .slice none 0 0, .int .i64 0, .int .i64 0, .int .i64 0, .int .i64 0]
    simpa using this
  have hw0 : Below w.heap.size w ((w.alloc (.cells #[.int .i64 c.width, .int .i64 c.room, .slice A c.parts.length cap, .int .i64 c.hits, .int .i64 c.misses, .int .i64 c.clashes, .int .i64 c.evicted] 28)).alloc (.cells #[.int .i64 0, .int .i64 0, .slice none 0 0, .int .i64 0, .int .i64 0, .int .i64 0, .int .i64 0] 28)) := ((Below.refl _ _).alloc (Nat.le_refl _) _).alloc (by simp) _
  obtain ⟨w1, hw1⟩ : ∃ w1, w1 = ((w.alloc (.cells #[.int .i64 c.width, .int .i64 c.room, .slice A c.parts.length cap, .int .i64 c.hits, .int .i64 c.misses, .int .i64 c.clashes, .int .i64 c.evicted] 28)).alloc (.cells #[.int .i64 0, .int .i64 0, .slice none 0 0, .int .i64 0, .int .i64 0, .int .i64 0, .int .i64 0] 28)) := ⟨_, rfl⟩
  obtain ⟨g, hg⟩ : ∃ g, g = w.heap.size := ⟨_, rfl⟩
  obtain ⟨h, hh⟩ : ∃ h, h = w.heap.size + 1 := ⟨_, rfl⟩
  rw [← hw1] at hb0 hb2 hw0 ⊢
  rw [← hh] at hb2 ⊢
  rw [← hg] at hb0
  have HH2 : Hid (w.heap.size ≤ h) := Lib.hid (by omega)
  rw [show (⟨w.heap.size, 0, none⟩ : Addr) = ⟨g, 0, none⟩ from by rw [hg]]
  have HX1 := Lib.hid hb0
  have HH1 := Lib.hid hb2
  have HW1 := Lib.hid hw0
  clear hb0 hb2 hw0 hw1 hg hh
  refine (rrightC_any c A c.parts.length cap _ rb HRB.out (HA.out.up HW1.out) rfl HF.out).mono ?_
  rintro e w2 ⟨rfl, hb⟩
  have HB2 := Lib.hid hb
  have HX2 := Lib.hid (Blk.below HX1.out hb HX1.out.lt)
  have HHb := Lib.hid (Blk.below HH1.out hb HH1.out.lt)
  have HW2 := Lib.hid (HW1.out.trans (hb.mono HW1.out.size))
  clear hb
  cases rb with
  | false =>
    have hfin : d0 = zeroC ∧ b0 = 1 := by have := HM.out; unfold putC at this; rw [HRB.out] at this; simp only [Bool.false_eq_true, if_false, Prod.mk.injEq] at this; exact ⟨this.1.symm, this.2.symm⟩
    obtain ⟨rfl, rfl⟩ := hfin
    obtain ⟨z0, z1, z2, z3, z4, z5, z6⟩ := box7 HHb.out (Below.refl _ _)
    have q0 := Blk.frozen HHb.out 0
    have q1 := Blk.frozen HHb.out 1
    have q2 := Blk.frozen HHb.out 2
    have q3 := Blk.frozen HHb.out 3
    have q4 := Blk.frozen HHb.out 4
    have q5 := Blk.frozen HHb.out 5
    have q6 := Blk.frozen HHb.out 6
    go_wp2_with fail
    refine bodyPost_ret (v := .tuple #[.agg #[.int .i64 0, .int .i64 0, .slice none 0 0, .int .i64 0, .int .i64 0, .int .i64 0, .int .i64 0], .int .i64 1]) (by simp [results, Try.results24, go_sem, z0, z1, z2, z3, z4, z5, z6]) rfl ?_
    exact ⟨none, 0, 0, rfl, rfl, PartsAt.nil, ((((((HW2.out.setCell HH2.out _).setCell HH2.out _).setCell HH2.out _).setCell HH2.out _).setCell HH2.out _).setCell HH2.out _).setCell HH2.out _, Nat.le_refl _⟩
  | true =>
    have hR := rightC_iff.1 HRB.out
    have HR := Lib.hid hR
    have n1 := hR.n1
    have r1 := hR.r1
    have r2 := hR.r2
    obtain ⟨a, rfl⟩ : ∃ a, A = some a := by
      obtain ⟨a, e, _⟩ := HA.out (by intro e; rw [e] at n1; simp at n1)
      exact ⟨a, e⟩
    obtain ⟨p, q, hpq⟩ : ∃ p q, c.key l r = (p, q) := ⟨_, _, rfl⟩
    obtain ⟨i, hi⟩ : ∃ i, partN c.parts.length (p, q) = i := ⟨_, rfl⟩
    have hnum : c.num l r = i := by unfold Ca.num; rw [hpq]; exact hi
    have hilt : i < c.parts.length := by rw [← hnum]; exact Ca.num_lt hR l r
    obtain ⟨L, hL⟩ : ∃ L, c.parts[i]? = some L := ⟨_, List.getElem?_eq_getElem hilt⟩
    have hLb := HF.out.each L (List.mem_of_getElem? hL)
    have l1 := hLb.1
    have HWF : Hid ((Lit.int .u64 p).wf = true) := Lib.hid (by
      have : p = ((Sm.low (Sm.two l.data.toList r.data.toList) c.width : Nat) : Int) := (congrArg Prod.fst hpq).symm
      rw [this]
      have h2 := Sm.low_lt (Sm.two l.data.toList r.data.toList) c.width
      unfold Sm.M at h2
      exact wf_u64 (by omega) (by omega))
    have hrl : rightB L = true := by have := (hR.part i hilt).1; rwa [part_is hL] at this
    have rn : roomN c.parts.length c.room i ≤ 4097 := by
      unfold roomN
      have := Nat.div_le_self c.room.toNat c.parts.length
      split <;> omega
    obtain ⟨N, hN⟩ : ∃ N, N = (allS L (⟨p, q, l, r, v⟩ : Sl)).take (roomN c.parts.length c.room i) := ⟨_, rfl⟩
    obtain ⟨O, hO⟩ : ∃ O, O = (allS L (⟨p, q, l, r, v⟩ : Sl)).drop (roomN c.parts.length c.room i) := ⟨_, rfl⟩
    have hol : O.length ≤ 1001 := by rw [hO, List.length_drop]; have := allS_len L (⟨p, q, l, r, v⟩ : Sl); omega
    have HPM : Hid (putM L (roomN c.parts.length c.room i : Nat) (⟨p, q, l, r, v⟩ : Sl) = (N, O, 0)) := Lib.hid (by unfold putM; rw [if_pos hrl, Int.toNat_natCast, hN, hO])
    have HD : Hid (d0 = { c with parts := c.parts.set i N, evicted := more c.evicted O.length } ∧ b0 = 0) := Lib.hid (by
      have h := HM.out
      rw [put_eq hR] at h
      simp only [Prod.mk.injEq] at h
      have hall : c.allP l r v = allS L (⟨p, q, l, r, v⟩ : Sl) := by unfold Ca.allP Ca.slot; rw [hnum, part_is hL, hpq]
      have hroom : c.roomP l r = roomN c.parts.length c.room i := by unfold Ca.roomP; rw [hnum]
      rw [hall, hroom, hnum, ← hN, ← hO] at h
      exact ⟨h.1.symm, h.2.symm⟩)
    have HPQ := Lib.hid hpq
    have HI := Lib.hid hi
    have HL := Lib.hid hL
    have hes := hR.ce
    unfold maxC at hes
    clear hR hpq hi hnum hL hLb hrl hN hO
    obtain ⟨y0, y1, y2, y3, y4, y5, y6⟩ := box7 HX2.out (Below.refl _ _)
    go_upto_region 5 with (fail)
    have hb3 : Blk (w2.alloc (.cells #[.int .i64 c.width, .int .i64 c.room, .slice (some a) c.parts.length cap, .int .i64 c.hits, .int .i64 c.misses, .int .i64 c.clashes, .int .i64 c.evicted] 28)) w2.heap.size 28 #[.int .i64 c.width, .int .i64 c.room, .slice (some a) c.parts.length cap, .int .i64 c.hits, .int .i64 c.misses, .int .i64 c.clashes, .int .i64 c.evicted] := Blk.new w2 _ _
    have hw3 : Below w2.heap.size w2 (w2.alloc (.cells #[.int .i64 c.width, .int .i64 c.room, .slice (some a) c.parts.length cap, .int .i64 c.hits, .int .i64 c.misses, .int .i64 c.clashes, .int .i64 c.evicted] 28)) := (Below.refl _ _).alloc (Nat.le_refl _) _
    obtain ⟨w3, hwe⟩ : ∃ w3, w3 = w2.alloc (.cells #[.int .i64 c.width, .int .i64 c.room, .slice (some a) c.parts.length cap, .int .i64 c.hits, .int .i64 c.misses, .int .i64 c.clashes, .int .i64 c.evicted] 28) := ⟨_, rfl⟩
    obtain ⟨gn, hgn⟩ : ∃ gn, gn = w2.heap.size := ⟨_, rfl⟩
    rw [← hwe] at hb3 hw3 ⊢
    rw [← hgn] at hb3 ⊢
    have HN3 := Lib.hid hb3
    have HB3 := Lib.hid (below_step HB2.out hw3)
    have HGG : Hid (g < gn) := Lib.hid (by rw [hgn]; exact Nat.lt_of_lt_of_le HX1.out.lt HB2.out.size)
    have HNE : Hid (h < gn) := Lib.hid (by rw [hgn]; exact HHb.out.lt)
    have HNG : Hid (w.heap.size ≤ gn) := Lib.hid (by rw [hgn]; exact HW2.out.size)
    clear hb3 hw3 hwe hgn y0 y1 y2 y3 y4 y5 y6
    obtain ⟨y0, y1, y2, y3, y4, y5, y6⟩ := box7 HX1.out HB3.out
    go_wp2_with fail
    refine (rboth_v l r c.width _ p q HPQ.out HLL.out HRR.out).mono ?_
    rintro e w4 ⟨rfl, hb4⟩
    have HB4 := Lib.hid (below_step HB3.out hb4)
    have HN4 := Lib.hid (Blk.below HN3.out hb4 HN3.out.lt)
    clear hb4 y0 y1 y2 y3 y4 y5 y6
    go_upto_region 6 with (fail)
    have hb5 : Blk (w4.alloc (.cells #[.int .u64 p, .int .i64 q] 61)) w4.heap.size 61 #[.int .u64 p, .int .i64 q] := Blk.new w4 _ _
    have hw5 : Below w4.heap.size w4 (w4.alloc (.cells #[.int .u64 p, .int .i64 q] 61)) := (Below.refl _ _).alloc (Nat.le_refl _) _
    obtain ⟨w6, hwe⟩ : ∃ w6, w6 = w4.alloc (.cells #[.int .u64 p, .int .i64 q] 61) := ⟨_, rfl⟩
    obtain ⟨gk, hgk⟩ : ∃ gk, gk = w4.heap.size := ⟨_, rfl⟩
    rw [← hwe] at hb5 hw5 ⊢
    rw [← hgk] at hb5 ⊢
    have HK6 := Lib.hid hb5
    have HB6 := Lib.hid (below_step HB4.out hw5)
    have HN6 := Lib.hid (Blk.below HN4.out hw5 HN4.out.lt)
    have HGK : Hid (gn < gk) := Lib.hid (by rw [hgk]; exact HN4.out.lt)
    have HCB : Hid (∀ W, Below w6.heap.size w6 W → W.cell? ⟨g, 0, none⟩ = some (.int .i64 c.width) ∧ W.cell? ⟨g, 1, none⟩ = some (.int .i64 c.room) ∧ W.cell? ⟨g, 2, none⟩ = some (.slice (some a) c.parts.length cap) ∧ W.cell? ⟨g, 3, none⟩ = some (.int .i64 c.hits) ∧ W.cell? ⟨g, 4, none⟩ = some (.int .i64 c.misses) ∧ W.cell? ⟨g, 5, none⟩ = some (.int .i64 c.clashes) ∧ W.cell? ⟨g, 6, none⟩ = some (.int .i64 c.evicted)) := Lib.hid fun W hW => box7 HX1.out (below_step HB6.out hW)
    have HCK : Hid (∀ W, Below w6.heap.size w6 W → W.cell? ⟨gk, 0, none⟩ = some (.int .u64 p) ∧ W.cell? ⟨gk, 1, none⟩ = some (.int .i64 q)) := Lib.hid fun W hW => ⟨(Blk.below HK6.out hW HK6.out.lt).cell 0, (Blk.below HK6.out hW HK6.out.lt).cell 1⟩
    obtain ⟨a', B, cl, ea, hal1, hcell1, hSB1, hcl⟩ := (HA.out.up HW1.out).at_ HL.out
    injection ea with ea
    subst ea
    have HCE : Hid (∀ W, Below w6.heap.size w6 W → W.cell? (a.add i) = some (.slice B L.length cl)) := Lib.hid fun W hW => ((below_step HB6.out hW).cell (by rw [add_block]; exact hal1)).trans hcell1
    have HSU : Hid (∀ W, Below w6.heap.size w6 W → SlotsAt W B L) := Lib.hid fun W hW => hSB1.up (below_step HB6.out hW)
    clear hb5 hw5 hwe hgk hal1 hcell1 hSB1 hcl
    obtain ⟨y0, y1, y2, y3, y4, y5, y6⟩ := HCB.out _ (Below.refl _ _)
    obtain ⟨k0, k1⟩ := HCK.out _ (Below.refl _ _)
    go_wp2_with fail
    refine (rpart_any c.width c.room c.hits c.misses c.clashes c.evicted (some a) c.parts.length cap p q _ n1 (by omega) HWF.out).mono ?_
    rintro e wp ⟨rfl, hbp⟩
    rw [HI.out]
    have HCBp : Hid (∀ W, Below wp.heap.size wp W → W.cell? ⟨g, 0, none⟩ = some (.int .i64 c.width) ∧ W.cell? ⟨g, 1, none⟩ = some (.int .i64 c.room) ∧ W.cell? ⟨g, 2, none⟩ = some (.slice (some a) c.parts.length cap) ∧ W.cell? ⟨g, 3, none⟩ = some (.int .i64 c.hits) ∧ W.cell? ⟨g, 4, none⟩ = some (.int .i64 c.misses) ∧ W.cell? ⟨g, 5, none⟩ = some (.int .i64 c.clashes) ∧ W.cell? ⟨g, 6, none⟩ = some (.int .i64 c.evicted)) := Lib.hid fun W hW => HCB.out W (below_step hbp hW)
    have HCKp : Hid (∀ W, Below wp.heap.size wp W → W.cell? ⟨gk, 0, none⟩ = some (.int .u64 p) ∧ W.cell? ⟨gk, 1, none⟩ = some (.int .i64 q)) := Lib.hid fun W hW => HCK.out W (below_step hbp hW)
    have HCEp : Hid (∀ W, Below wp.heap.size wp W → W.cell? (a.add i) = some (.slice B L.length cl)) := Lib.hid fun W hW => HCE.out W (below_step hbp hW)
    have HSUp : Hid (∀ W, Below wp.heap.size wp W → SlotsAt W B L) := Lib.hid fun W hW => HSU.out W (below_step hbp hW)
    have HNp := Lib.hid (Blk.below HN6.out hbp HN6.out.lt)
    have HBp := Lib.hid (below_step HB6.out hbp)
    clear HCB HCK HCE HSU HN6 HB6 HK6 hbp y0 y1 y2 y3 y4 y5 y6 k0 k1
    obtain ⟨w6, rfl⟩ : ∃ w6, w6 = wp := ⟨_, rfl⟩
    have HCB := HCBp
    have HCK := HCKp
    have HCE := HCEp
    have HSU := HSUp
    go_upto_region 7 with (fail)
    refine wp_region_noPanic ?_
    refine wp_region_held_drew (S := fun W => Below w6.heap.size w6 W) (by kernel_rfl) ((Below.refl w6.heap.size w6).drew) (fun hS0 => ?_)
    change wpAnyH _ _ _ _ _ 21 #[false, false, false, false, false, false, false, false, false, false, false, false, false, false, false, false, false, false, false, false, false] _ (World.drew _)
    refine wpAnyH_take (i := 0) (v := .pointer (some ⟨g, 2, none⟩)) rfl (by kernel_rfl) (by kernel_rfl) (by kernel_rfl) (fun _ _ _ h => h) (Or.inl ⟨by rfl, fun w' hS' => by go_simp⟩) hS0 ?_
    change wpAnyH _ _ _ _ _ _ _ (Act.put _ (some 32) (.pointer (some ⟨g, 2, none⟩))) _
    simp only [Act.put, List.setIfInBounds_toArray, List.set_cons_zero, List.set_cons_succ]
    refine wpAnyH_take (i := 1) (v := .slice (some a) c.parts.length cap) rfl (by kernel_rfl) (by kernel_rfl) (by kernel_rfl) (fun _ _ _ h => h) (Or.inl ⟨by rfl, fun w' hS' => by obtain ⟨y0, y1, y2, y3, y4, y5, y6⟩ := HCB.out _ hS'; go_simp⟩) hS0 ?_
    change wpAnyH _ _ _ _ _ _ _ (Act.put _ (some 33) (.slice (some a) c.parts.length cap)) _
    simp only [Act.put, List.setIfInBounds_toArray, List.set_cons_zero, List.set_cons_succ]
    refine wpAnyH_take (i := 2) (v := .int .i64 (i : Int)) rfl (by kernel_rfl) (by kernel_rfl) (by kernel_rfl) (fun _ _ _ h => h) (Or.inl ⟨by rfl, fun w' hS' => by exact op_move rfl rfl⟩) hS0 ?_
    change wpAnyH _ _ _ _ _ _ _ (Act.put _ (some 34) (.int .i64 (i : Int))) _
    simp only [Act.put, List.setIfInBounds_toArray, List.set_cons_zero, List.set_cons_succ]
    refine wpAnyH_take (i := 3) (v := .pointer (some (a.add i))) rfl (by kernel_rfl) (by kernel_rfl) (by kernel_rfl) (fun _ _ _ h => h) (Or.inl ⟨by rfl, fun w' hS' => by go_simp⟩) hS0 ?_
    change wpAnyH _ _ _ _ _ _ _ (Act.put _ (some 35) (.pointer (some (a.add i)))) _
    simp only [Act.put, List.setIfInBounds_toArray, List.set_cons_zero, List.set_cons_succ]
    refine wpAnyH_take (i := 4) (v := .slice B L.length cl) rfl (by kernel_rfl) (by kernel_rfl) (by kernel_rfl) (fun _ _ _ h => h) (Or.inl ⟨by rfl, fun w' hS' => by have k2 := HCE.out _ hS'; go_simp⟩) hS0 ?_
    change wpAnyH _ _ _ _ _ _ _ (Act.put _ (some 36) (.slice B L.length cl)) _
    simp only [Act.put, List.setIfInBounds_toArray, List.set_cons_zero, List.set_cons_succ]
    refine wpAnyH_take (i := 5) (v := .agg #[.int .i64 c.width, .int .i64 c.room, .slice (some a) c.parts.length cap, .int .i64 c.hits, .int .i64 c.misses, .int .i64 c.clashes, .int .i64 c.evicted]) rfl (by kernel_rfl) (by kernel_rfl) (by kernel_rfl) (fun _ _ _ h => h) (Or.inl ⟨by rfl, fun w' hS' => by obtain ⟨y0, y1, y2, y3, y4, y5, y6⟩ := HCB.out _ hS'; go_simp⟩) hS0 ?_
    change wpAnyH _ _ _ _ _ _ _ (Act.put _ (some 37) (.agg #[.int .i64 c.width, .int .i64 c.room, .slice (some a) c.parts.length cap, .int .i64 c.hits, .int .i64 c.misses, .int .i64 c.clashes, .int .i64 c.evicted])) _
    simp only [Act.put, List.setIfInBounds_toArray, List.set_cons_zero, List.set_cons_succ]
    refine wpAnyH_take (i := 6) (v := .int .i64 (i : Int)) rfl (by kernel_rfl) (by kernel_rfl) (by kernel_rfl) (fun _ _ _ h => h) (Or.inl ⟨by rfl, fun w' hS' => by exact op_move rfl rfl⟩) hS0 ?_
    change wpAnyH _ _ _ _ _ _ _ (Act.put _ (some 38) (.int .i64 (i : Int))) _
    simp only [Act.put, List.setIfInBounds_toArray, List.set_cons_zero, List.set_cons_succ]
    refine wpAnyH_take (i := 8) (v := .agg #[.int .u64 p, .int .i64 q]) rfl (by kernel_rfl) (by kernel_rfl) (by kernel_rfl) (fun _ _ _ h => h) (Or.inl ⟨by rfl, fun w' hS' => by obtain ⟨k0, k1⟩ := HCK.out _ hS'; go_simp⟩) hS0 ?_
    change wpAnyH _ _ _ _ _ _ _ (Act.put _ (some 40) (.agg #[.int .u64 p, .int .i64 q])) _
    simp only [Act.put, List.setIfInBounds_toArray, List.set_cons_zero, List.set_cons_succ]
    refine wpAnyH_take (i := 9) (v := .string l) rfl (by kernel_rfl) (by kernel_rfl) (by kernel_rfl) (fun _ _ _ h => h) (Or.inl ⟨by rfl, fun w' hS' => by exact op_move rfl rfl⟩) hS0 ?_
    change wpAnyH _ _ _ _ _ _ _ (Act.put _ (some 41) (.string l)) _
    simp only [Act.put, List.setIfInBounds_toArray, List.set_cons_zero, List.set_cons_succ]
    refine wpAnyH_take (i := 10) (v := .string r) rfl (by kernel_rfl) (by kernel_rfl) (by kernel_rfl) (fun _ _ _ h => h) (Or.inl ⟨by rfl, fun w' hS' => by exact op_move rfl rfl⟩) hS0 ?_
    change wpAnyH _ _ _ _ _ _ _ (Act.put _ (some 42) (.string r)) _
    simp only [Act.put, List.setIfInBounds_toArray, List.set_cons_zero, List.set_cons_succ]
    refine wpAnyH_take (i := 11) (v := .string v) rfl (by kernel_rfl) (by kernel_rfl) (by kernel_rfl) (fun _ _ _ h => h) (Or.inl ⟨by rfl, fun w' hS' => by exact op_move rfl rfl⟩) hS0 ?_
    change wpAnyH _ _ _ _ _ _ _ (Act.put _ (some 43) (.string v)) _
    simp only [Act.put, List.setIfInBounds_toArray, List.set_cons_zero, List.set_cons_succ]
    refine wpAnyH_take (i := 12) (v := .agg #[.int .u64 p, .int .i64 q, .string l, .string r, .string v]) rfl (by kernel_rfl) (by kernel_rfl) (by kernel_rfl) (fun _ _ _ h => h) (Or.inl ⟨by rfl, fun w' hS' => by go_simp⟩) hS0 ?_
    change wpAnyH _ _ _ _ _ _ _ (Act.put _ (some 44) (.agg #[.int .u64 p, .int .i64 q, .string l, .string r, .string v])) _
    simp only [Act.put, List.setIfInBounds_toArray, List.set_cons_zero, List.set_cons_succ]
    refine wpAnyH_ready (rs := [7]) (by kernel_rfl) (by simp) (AllReadyH.cons rfl (fun K hK => ?_) (AllReadyH.nil))
    · skip
      go_simp
      refine (rroom_any c.width c.room c.hits c.misses c.clashes c.evicted (some a) c.parts.length cap i _ n1 hlen r1 r2).mono ?_
      rintro e W1 ⟨rfl, hb3⟩
      refine hK.out _ _ (hS0.trans (hb3.mono hS0.size)) (fun hS2 => ?_)
      clear hK K
      simp only [List.setIfInBounds_toArray, List.set_cons_zero, List.set_cons_succ]
      refine wpAnyH_ready (rs := [13]) (by kernel_rfl) (by simp) (AllReadyH.cons rfl (fun K hK => ?_) (AllReadyH.nil))
      · skip
        go_simp
        refine (rput_any B L L.length cl (roomN c.parts.length c.room i : Nat) (⟨p, q, l, r, v⟩ : Sl) _ N O 0 HPM.out (HSU.out _ hS2) rfl (by omega) (by omega) (by omega)).mono ?_
        rintro e W4 ⟨A6, B6, n6, m6, c6, e6, rfl, hn6, hm6, hN6, hO6, hb6, hc6, he6, hw6⟩
        have HSP := Lib.hid hS2
        have HN6 := Lib.hid hN6
        have HNW6 := Lib.hid hw6
        subst hn6
        subst hm6
        refine hK.out _ _ (hS2.trans (hb6.mono hS2.size)) (fun hS5 => ?_)
        clear hN6 hO6 hw6
        clear hK K
        simp only [List.setIfInBounds_toArray, List.set_cons_zero, List.set_cons_succ]
        refine wpAnyH_take (i := 14) (v := .tuple #[.slice A6 N.length c6, .slice B6 O.length e6, .int .i64 0]) rfl (by kernel_rfl) (by kernel_rfl) (by kernel_rfl) (fun _ _ _ h => h) (Or.inl ⟨by rfl, fun w' hS' => by exact op_move rfl rfl⟩) hS5 ?_
        change wpAnyH _ _ _ _ _ _ _ (Act.put _ (some 31) (.tuple #[.slice A6 N.length c6, .slice B6 O.length e6, .int .i64 0])) _
        simp only [Act.put, List.setIfInBounds_toArray, List.set_cons_zero, List.set_cons_succ]
        refine wpAnyH_take (i := 15) (v := .slice A6 N.length c6) rfl (by kernel_rfl) (by kernel_rfl) (by kernel_rfl) (fun _ _ _ h => h) (Or.inl ⟨by rfl, fun w' hS' => by go_simp⟩) hS5 ?_
        change wpAnyH _ _ _ _ _ _ _ (Act.put _ (some 46) (.slice A6 N.length c6)) _
        simp only [Act.put, List.setIfInBounds_toArray, List.set_cons_zero, List.set_cons_succ]
        refine wpAnyH_take (i := 16) (v := .slice B6 O.length e6) rfl (by kernel_rfl) (by kernel_rfl) (by kernel_rfl) (fun _ _ _ h => h) (Or.inl ⟨by rfl, fun w' hS' => by go_simp⟩) hS5 ?_
        change wpAnyH _ _ _ _ _ _ _ (Act.put _ (some 47) (.slice B6 O.length e6)) _
        simp only [Act.put, List.setIfInBounds_toArray, List.set_cons_zero, List.set_cons_succ]
        refine wpAnyH_take (i := 17) (v := .int .i64 0) rfl (by kernel_rfl) (by kernel_rfl) (by kernel_rfl) (fun _ _ _ h => h) (Or.inl ⟨by rfl, fun w' hS' => by go_simp⟩) hS5 ?_
        change wpAnyH _ _ _ _ _ _ _ (Act.put _ (some 48) (.int .i64 0)) _
        simp only [Act.put, List.setIfInBounds_toArray, List.set_cons_zero, List.set_cons_succ]
        refine wpAnyH_take (i := 18) (v := .slice A6 N.length c6) rfl (by kernel_rfl) (by kernel_rfl) (by kernel_rfl) (fun _ _ _ h => h) (Or.inl ⟨by rfl, fun w' hS' => by exact op_assign rfl rfl⟩) hS5 ?_
        change wpAnyH _ _ _ _ _ _ _ (Act.put _ (some 14) (.slice A6 N.length c6)) _
        simp only [Act.put, List.setIfInBounds_toArray, List.set_cons_zero, List.set_cons_succ]
        refine wpAnyH_take (i := 19) (v := .slice B6 O.length e6) rfl (by kernel_rfl) (by kernel_rfl) (by kernel_rfl) (fun _ _ _ h => h) (Or.inl ⟨by rfl, fun w' hS' => by exact op_assign rfl rfl⟩) hS5 ?_
        change wpAnyH _ _ _ _ _ _ _ (Act.put _ (some 15) (.slice B6 O.length e6)) _
        simp only [Act.put, List.setIfInBounds_toArray, List.set_cons_zero, List.set_cons_succ]
        refine wpAnyH_take (i := 20) (v := .int .i64 0) rfl (by kernel_rfl) (by kernel_rfl) (by kernel_rfl) (fun _ _ _ h => h) (Or.inl ⟨by rfl, fun w' hS' => by exact op_assign rfl rfl⟩) hS5 ?_
        change wpAnyH _ _ _ _ _ _ _ (Act.put _ (some 16) (.int .i64 0)) _
        simp only [Act.put, List.setIfInBounds_toArray, List.set_cons_zero, List.set_cons_succ]
        refine wpAnyH_done (by kernel_rfl) ?_ _
        refine NoPanic.normal ?_
        have HB7 := Lib.hid hS5
        obtain ⟨Rr, hRR, hok⟩ := HA.out.rows
        have HRR0 := Lib.hid hRR
        have HOK := Lib.hid hok
        have HBX : Hid (Below w.heap.size w W4) := Lib.hid (below_step (below_step HW1.out HBp.out) HB7.out)
        have HNW : Hid (∀ a, A6 = some a → gn < a.block) := Lib.hid fun a ha => Nat.lt_of_lt_of_le (Nat.lt_of_lt_of_le HNp.out.lt HSP.out.size) (HNW6.out a ha)
        obtain ⟨y0, y1, y2, y3, y4, y5, y6⟩ := HCB.out _ HB7.out
        clear hRR hok
        go_wp2_with fail
        refine (rwith_any (some a) Rr c.parts.length cap i A6 N.length c6 _ (HRR0.out.up HBX.out) HOK.out.1 (by rw [HOK.out.1]; exact hilt) (by rw [HOK.out.1]; exact hlen)).mono ?_
        rintro e w8 ⟨gw, cw, rfl, hro, hb8, hgw, hcpw⟩
        have hb68 := below_step HB7.out hb8
        have hb18 := below_step HBp.out hb68
        have hn8 := Blk.below HNp.out hb68 HNp.out.lt
        have hx8 := Blk.below HX1.out hb18 HX1.out.lt
        have hh8 := Blk.below HH1.out hb18 HH1.out.lt
        have hgg : g < gn := HGG.out
        have hhn : h < gn := HNE.out
        have hgwn : gn < gw := Nat.lt_of_lt_of_le (Blk.below HNp.out HB7.out HNp.out.lt).lt hgw
        have HN8 := Lib.hid hn8
        have HX8 := Lib.hid hx8
        have HH8 := Lib.hid hh8
        have HW8 := Lib.hid (below_step HBX.out hb8)
        have HS8 := Lib.hid (HN6.out.up hb8)
        have HR8 := Lib.hid hro
        clear hb68 hb18 hn8 hx8 hh8 hb8 hgw hro y0 y1 y2 y3 y4 y5 y6
        obtain ⟨z0, z1, z2, z3, z4, z5, z6⟩ := box7 HN8.out (Below.refl _ _)
        have q2 := Blk.frozen HN8.out 2
        go_upto_region 9 with (fail)
        have HN9 : Hid (Blk (w8.setCell ⟨gn, 2, none⟩ (.slice (some ⟨gw, 0, none⟩) Rr.length cw)) gn 28 #[.int .i64 c.width, .int .i64 c.room, .slice (some ⟨gw, 0, none⟩) Rr.length cw, .int .i64 c.hits, .int .i64 c.misses, .int .i64 c.clashes, .int .i64 c.evicted]) := Lib.hid (Blk.set_ HN8.out 2 _)
        have HX9 := Lib.hid (Blk.far HX8.out (show g ≠ gn by omega) (p := ⟨gn, 2, none⟩) (.slice (some ⟨gw, 0, none⟩) Rr.length cw))
        have HH9 := Lib.hid (Blk.far HH8.out (show h ≠ gn by omega) (p := ⟨gn, 2, none⟩) (.slice (some ⟨gw, 0, none⟩) Rr.length cw))
        have HW9 : Hid (Below w.heap.size w (w8.setCell ⟨gn, 2, none⟩ (.slice (some ⟨gw, 0, none⟩) Rr.length cw))) := Lib.hid (HW8.out.setCell HNG.out _)
        have HR9 := Lib.hid (RowAt.kept_ne HR8.out (grown_set w8 gn 2 (.slice (some ⟨gw, 0, none⟩) Rr.length cw)) (fun a ha _ e => by injection ha with ha; rw [← ha] at e; simp only at e; omega))
        have HS9 := Lib.hid (RowAt.kept_ne HS8.out (grown_set w8 gn 2 (.slice (some ⟨gw, 0, none⟩) Rr.length cw)) (fun a ha _ e => by have := HNW.out a ha; omega))
        obtain ⟨w9, hw9⟩ : ∃ w9, w9 = w8.setCell ⟨gn, 2, none⟩ (.slice (some ⟨gw, 0, none⟩) Rr.length cw) := ⟨_, rfl⟩
        rw [← hw9] at HN9 HX9 HH9 HW9 HR9 HS9 ⊢
        clear hw9 z0 z1 z2 z3 z4 z5 z6 q2
        obtain ⟨z0, z1, z2, z3, z4, z5, z6⟩ := box7 HN9.out (Below.refl _ _)
        obtain ⟨y0, y1, y2, y3, y4, y5, y6⟩ := box7 HX9.out (Below.refl _ _)
        have q6 := Blk.frozen HN9.out 6
        go_upto_region 10 with (fail)
        have HN10 : Hid (Blk (w9.setCell ⟨gn, 6, none⟩ (.int .i64 (min (c.evicted + (O.length : Int)) 1099511627776))) gn 28 #[.int .i64 c.width, .int .i64 c.room, .slice (some ⟨gw, 0, none⟩) Rr.length cw, .int .i64 c.hits, .int .i64 c.misses, .int .i64 c.clashes, .int .i64 (min (c.evicted + (O.length : Int)) 1099511627776)]) := Lib.hid (Blk.set_ HN9.out 6 _)
        have HH10 := Lib.hid (Blk.far HH9.out (show h ≠ gn by omega) (p := ⟨gn, 6, none⟩) (.int .i64 (min (c.evicted + (O.length : Int)) 1099511627776)))
        have HW10 : Hid (Below w.heap.size w (w9.setCell ⟨gn, 6, none⟩ (.int .i64 (min (c.evicted + (O.length : Int)) 1099511627776)))) := Lib.hid (HW9.out.setCell HNG.out _)
        have HR10 := Lib.hid (RowAt.kept_ne HR9.out (grown_set w9 gn 6 (.int .i64 (min (c.evicted + (O.length : Int)) 1099511627776))) (fun a ha _ e => by injection ha with ha; rw [← ha] at e; simp only at e; omega))
        have HS10 := Lib.hid (RowAt.kept_ne HS9.out (grown_set w9 gn 6 (.int .i64 (min (c.evicted + (O.length : Int)) 1099511627776))) (fun a ha _ e => by have := HNW.out a ha; omega))
        obtain ⟨w10, hw10⟩ : ∃ w10, w10 = w9.setCell ⟨gn, 6, none⟩ (.int .i64 (min (c.evicted + (O.length : Int)) 1099511627776)) := ⟨_, rfl⟩
        rw [← hw10] at HN10 HH10 HW10 HR10 HS10 ⊢
        clear hw10 z0 z1 z2 z3 z4 z5 z6 q6 y0 y1 y2 y3 y4 y5 y6
        obtain ⟨y0, y1, y2, y3, y4, y5, y6⟩ := box7 HN10.out (Below.refl _ _)
        obtain ⟨z0, z1, z2, z3, z4, z5, z6⟩ := box7 HH10.out (Below.refl _ _)
        have q0 := Blk.frozen HH10.out 0
        have q1 := Blk.frozen HH10.out 1
        have q2 := Blk.frozen HH10.out 2
        have q3 := Blk.frozen HH10.out 3
        have q4 := Blk.frozen HH10.out 4
        have q5 := Blk.frozen HH10.out 5
        have q6 := Blk.frozen HH10.out 6
        go_wp2_with fail
        refine bodyPost_ret (v := .tuple #[.agg #[.int .i64 c.width, .int .i64 c.room, .slice (some ⟨gw, 0, none⟩) Rr.length cw, .int .i64 c.hits, .int .i64 c.misses, .int .i64 c.clashes, .int .i64 (min (c.evicted + (O.length : Int)) 1099511627776)], .int .i64 0]) (by simp [results, Try.results24, go_sem, z0, z1, z2, z3, z4, z5, z6]) rfl ?_
        obtain ⟨rfl, rfl⟩ := HD.out
        have hgr := ((((((grown_set w10 h 0 (.int .i64 c.width)).trans (grown_set _ h 1 (.int .i64 c.room))).trans (grown_set _ h 2 (.slice (some ⟨gw, 0, none⟩) Rr.length cw))).trans (grown_set _ h 3 (.int .i64 c.hits))).trans (grown_set _ h 4 (.int .i64 c.misses))).trans (grown_set _ h 5 (.int .i64 c.clashes))).trans (grown_set _ h 6 (.int .i64 (min (c.evicted + (O.length : Int)) 1099511627776)))
        have hbf := HW10.out.grown hgr HW10.out.size (fun b e => by injection e with e; rw [← e]; exact HH2.out)
        have hrf := RowAt.kept_ne HR10.out hgr (fun a ha _ e => by injection ha with ha; rw [← ha] at e; simp only at e; omega)
        have hsf := RowAt.kept_ne HS10.out hgr (fun a ha _ e => by have := HNW.out a ha; omega)
        exact ⟨some ⟨gw, 0, none⟩, Rr.length, cw, rfl, by rw [HOK.out.1]; simp, PartsAt.of_rows hrf ((HOK.out.up hbf).set i hsf hc6 (fun b eb hxb => by have h1 := HXX.out _ hxb; have h2 := HNW.out b eb; have h3 := HNG.out; omega)) (fun b eb hxb => by have h1 := HXX.out _ hxb; injection eb with eb; rw [← eb] at h1; simp only at h1; have h3 := HNG.out; omega), hbf, hcpw⟩

end Go.Proofs.Ytjifmfgfmciaeaa
