/-
  Package cache: Put: a cache that knows what two texts have come to, in new memory; nothing that was there is changed. And the whole package keeps what the laws ask of it.
-/
import Derived.Test.YtjifmfgfmciaeaaCiF
namespace Go.Proofs.Ytjifmfgfmciaeaa
open Go.RowKit

theorem more_more (n : Int) (k : Nat) : more (more n k) 1 = more n (k + 1) := by unfold more maxC; omega
theorem more_zero {n : Int} (h : n ≤ maxC) : more n 0 = n := by unfold more maxC at *; omega
/-- what is told by package lru's Put -/
def PutOut (w6 : World) (N O : List Sl) (v12 v13 : Value) (wx : World) : Prop :=
  ∃ (A B : Option Addr) (n m c d : Nat), v12 = .slice A n c ∧ v13 = .slice B m d ∧ N.length = n ∧ O.length = m ∧ SlotsAt wx A N ∧ n ≤ c ∧ Below w6.heap.size w6 wx ∧ ∀ a, A = some a → w6.heap.size ≤ a.block

set_option maxHeartbeats 8000000 in
set_option maxRecDepth 100000 in
theorem putC_any (c : Ca) (A : Option Addr) (n cap : Nat) (l r v : ByteArray) (w : World) (d0 : Ca) (b0 : Int) (hm : putC c l r v = (d0, b0)) (X : Nat → Prop) (hX : ∀ b, X b → b < w.heap.size) {Y : Nat → Prop} (ha : PartsAt Y w A c.parts) (hn : c.parts.length = n) (hf : CaFit c) (hl : l.size ≤ 4096) (hr : r.size ≤ 4096) (hv : v.size ≤ 4096) :
    Calls Try.prog 23 #[.agg #[.int .i64 c.width, .int .i64 c.room, .slice A n cap, .int .i64 c.hits, .int .i64 c.misses, .int .i64 c.clashes, .int .i64 c.evicted], .string l, .string r, .string v] w (CaTold X d0 b0 w) := by
  have HVV := Lib.hid hv
  clear hv
  subst hn
  have HA := Lib.hid ha
  have HF := Lib.hid hf
  have HM := Lib.hid hm
  have HX := Lib.hid hX
  have HLL := Lib.hid hl
  have HRR := Lib.hid hr
  have hlen := hf.len
  clear ha hf hm hl hr hX
  obtain ⟨rb, hrb⟩ : ∃ b, rightC c = b := ⟨_, rfl⟩
  have HRB := Lib.hid hrb
  clear hrb
  go_enter Try.func23, Try.ntmps23
  go_wp2_with fail
  have hb0 : Blk ((w.alloc (.cells #[.int .i64 c.width, .int .i64 c.room, .slice A c.parts.length cap, .int .i64 c.hits, .int .i64 c.misses, .int .i64 c.clashes, .int .i64 c.evicted] 28)).alloc (.cells #[.int .i64 0, .int .i64 0, .slice none 0 0, .int .i64 0, .int .i64 0, .int .i64 0, .int .i64 0] 28)) w.heap.size 28 #[.int .i64 c.width, .int .i64 c.room, .slice A c.parts.length cap, .int .i64 c.hits, .int .i64 c.misses, .int .i64 c.clashes, .int .i64 c.evicted] := (Blk.new w _ _).alloc _
  have hb2 : Blk ((w.alloc (.cells #[.int .i64 c.width, .int .i64 c.room, .slice A c.parts.length cap, .int .i64 c.hits, .int .i64 c.misses, .int .i64 c.clashes, .int .i64 c.evicted] 28)).alloc (.cells #[.int .i64 0, .int .i64 0, .slice none 0 0, .int .i64 0, .int .i64 0, .int .i64 0, .int .i64 0] 28)) (w.heap.size + 1) 28 #[.int .i64 0, .int .i64 0, .slice none 0 0, .int .i64 0, .int .i64 0, .int .i64 0, .int .i64 0] := by
    have := Blk.new (w.alloc (.cells #[.int .i64 c.width, .int .i64 c.room, .slice A c.parts.length cap, .int .i64 c.hits, .int .i64 c.misses, .int .i64 c.clashes, .int .i64 c.evicted] 28)) 28 #[.int .i64 0, .int .i64 0, .slice none 0 0, .int .i64 0, .int .i64 0, .int .i64 0, .int .i64 0]
    simpa using this
  have hw0 : Below w.heap.size w ((w.alloc (.cells #[.int .i64 c.width, .int .i64 c.room, .slice A c.parts.length cap, .int .i64 c.hits, .int .i64 c.misses, .int .i64 c.clashes, .int .i64 c.evicted] 28)).alloc (.cells #[.int .i64 0, .int .i64 0, .slice none 0 0, .int .i64 0, .int .i64 0, .int .i64 0, .int .i64 0] 28)) := ((Below.refl _ _).alloc (Nat.le_refl _) _).alloc (by simp) _
  obtain ⟨w1, hw1⟩ : ∃ w1, w1 = ((w.alloc (.cells #[.int .i64 c.width, .int .i64 c.room, .slice A c.parts.length cap, .int .i64 c.hits, .int .i64 c.misses, .int .i64 c.clashes, .int .i64 c.evicted] 28)).alloc (.cells #[.int .i64 0, .int .i64 0, .slice none 0 0, .int .i64 0, .int .i64 0, .int .i64 0, .int .i64 0] 28)) := ⟨_, rfl⟩
  obtain ⟨r1, hr1⟩ : ∃ r1, r1 = w.heap.size := ⟨_, rfl⟩
  obtain ⟨r2, hr2⟩ : ∃ r2, r2 = w.heap.size + 1 := ⟨_, rfl⟩
  rw [← hw1] at hb0 hb2 hw0 ⊢
  rw [← hr2] at hb2 ⊢
  rw [← hr1] at hb0
  have HN : Hid (r1 ≠ r2 ∧ w.heap.size ≤ r1 ∧ w.heap.size ≤ r2) := Lib.hid (by omega)
  rw [show (⟨w.heap.size, 0, none⟩ : Addr) = ⟨r1, 0, none⟩ from by rw [hr1]]
  have HX1 := Lib.hid hb0
  have HR1 := Lib.hid hb2
  have HW1 := Lib.hid hw0
  clear hb0 hb2 hw0 hw1 hr1 hr2
  refine (rightC_any c A c.parts.length cap _ rb HRB.out (HA.out.up HW1.out) rfl HF.out).mono ?_
  rintro e w2 ⟨rfl, hb⟩
  have HX2 := Lib.hid (Blk.below HX1.out hb HX1.out.lt)
  have HR2 := Lib.hid (Blk.below HR1.out hb HR1.out.lt)
  have HW2 := Lib.hid (HW1.out.trans (hb.mono HW1.out.size))
  clear hb
  cases rb with
  | false =>
    have hfin : d0 = zeroC ∧ b0 = 1 := by have := HM.out; unfold putC at this; rw [HRB.out] at this; simp only [Bool.false_eq_true, if_false, Prod.mk.injEq] at this; exact ⟨this.1.symm, this.2.symm⟩
    obtain ⟨rfl, rfl⟩ := hfin
    obtain ⟨z0, z1, z2, z3, z4, z5, z6⟩ := box7 HR2.out (Below.refl _ _)
    have q0 := Blk.frozen HR2.out 0
    have q1 := Blk.frozen HR2.out 1
    have q2 := Blk.frozen HR2.out 2
    have q3 := Blk.frozen HR2.out 3
    have q4 := Blk.frozen HR2.out 4
    have q5 := Blk.frozen HR2.out 5
    have q6 := Blk.frozen HR2.out 6
    have hl2 := HR2.out.lt
    go_wp2_with fail
    refine bodyPost_ret (v := .tuple #[.agg #[.int .i64 0, .int .i64 0, .slice none 0 0, .int .i64 0, .int .i64 0, .int .i64 0, .int .i64 0], .int .i64 1]) (by simp [results, Try.results23, go_sem, z0, z1, z2, z3, z4, z5, z6]) rfl ?_
    exact ⟨none, 0, 0, rfl, rfl, PartsAt.nil, ((((((HW2.out.setCell HN.out.2.2 _).setCell HN.out.2.2 _).setCell HN.out.2.2 _).setCell HN.out.2.2 _).setCell HN.out.2.2 _).setCell HN.out.2.2 _).setCell HN.out.2.2 _, Nat.le_refl _⟩
  | true =>
    have HRC := Lib.hid (rightC_iff.1 HRB.out)
    obtain ⟨y0, y1, y2, y3, y4, y5, y6⟩ := box7 HX2.out (Below.refl _ _)
    go_wp2_with fail
    refine (cown_any c A c.parts.length cap _ (HA.out.up HW2.out) rfl HF.out).mono ?_
    rintro e w3 ⟨g, cs, n, rfl, hn', hP⟩
    have HLEN := Lib.hid hn'
    have HPP := Lib.hid hP
    have hx3 := Blk.below HX2.out hP.below HX2.out.lt
    have hr3 := Blk.below HR2.out hP.below HR2.out.lt
    obtain ⟨z0, z1, z2, z3, z4, z5, z6⟩ := box7 hx3 (Below.refl _ _)
    have q0 := Blk.frozen hx3 0
    have q1 := Blk.frozen hx3 1
    have q2 := Blk.frozen hx3 2
    have q3 := Blk.frozen hx3 3
    have q4 := Blk.frozen hx3 4
    have q5 := Blk.frozen hx3 5
    have q6 := Blk.frozen hx3 6
    have hl3 := hx3.lt
    have HX3 := Lib.hid hx3
    have HR3 := Lib.hid hr3
    have HS7 := Lib.hid (set7 hx3 c.width c.room (some ⟨g, 0, none⟩) n n c.hits c.misses c.clashes c.evicted)
    clear y0 y1 y2 y3 y4 y5 y6 hn' hP hx3 hr3
    go_upto_region 4 with (fail)
    obtain ⟨w4, hw4⟩ : ∃ w4, w4 = ((((((w3.setCell ⟨r1, 0, none⟩ (.int .i64 c.width)).setCell ⟨r1, 1, none⟩ (.int .i64 c.room)).setCell ⟨r1, 2, none⟩ (.slice (some ⟨g, 0, none⟩) n n)).setCell ⟨r1, 3, none⟩ (.int .i64 c.hits)).setCell ⟨r1, 4, none⟩ (.int .i64 c.misses)).setCell ⟨r1, 5, none⟩ (.int .i64 c.clashes)).setCell ⟨r1, 6, none⟩ (.int .i64 c.evicted) := ⟨_, rfl⟩
    have hs7 := HS7.out
    have hP := HPP.out
    have hx3 := HX3.out
    have hr3 := HR3.out
    clear HS7
    rw [← hw4] at hs7 ⊢
    have HX4 := Lib.hid hs7.1
    have HR4 := Lib.hid (Blk.grown hr3 hs7.2 (fun e => HN.out.1 (Option.some.inj e).symm))
    have HP4 := Lib.hid (hP.cut hs7.2 HX2.out.lt)
    have HB4 : Hid (Below w.heap.size w w4) := Lib.hid ((HW2.out.trans (hP.below.mono HW2.out.size)).grown hs7.2 (Nat.le_trans HW2.out.size hP.below.size) (fun b e => by injection e with e; rw [← e]; exact HN.out.2.1))
    have hcs := cut_size w4 (Nat.le_trans hP.below.size hs7.2.size)
    have HXX : Hid (∀ b, (X b ∨ b = r1 ∨ b = r2) → b < (cut w4 w2.heap.size).heap.size) := Lib.hid fun b hb => by
      rw [hcs]
      have h1 := HW2.out.size
      have h2 := HX2.out.lt
      have h3 := HR2.out.lt
      rcases hb with h | h | h
      · have := HX.out b h; omega
      · omega
      · omega
    have HGR : Hid (r1 < g ∧ r2 < g) := Lib.hid (by have h1 := HP4.out.ge; have h2 := HX2.out.lt; have h3 := HR2.out.lt; omega)
    clear hw4 hs7 hP hx3 hr3 z0 z1 z2 z3 z4 z5 z6 q0 q1 q2 q3 q4 q5 q6 hl3 hcs
    have hR := HRC.out
    have n1 : 1 ≤ n := by rw [← HLEN.out]; exact hR.n1
    have hnlen : n ≤ 1000 := by rw [← HLEN.out]; exact hlen
    have rm1 : 0 ≤ c.room := hR.r1
    have rm2 : c.room ≤ 4096 := hR.r2
    obtain ⟨p, q, hpq⟩ : ∃ p q, bothK l r c.width = (p, q) := ⟨_, _, rfl⟩
    have HPQ := Lib.hid hpq
    have hkf := key_fit l r c.width HLL.out HRR.out
    rw [hpq] at hkf
    have HWF : Hid ((Lit.int .u64 p).wf = true ∧ (Lit.int .i64 q).wf = true) := Lib.hid hkf
    obtain ⟨i, hi⟩ : ∃ i, partN n (p, q) = i := ⟨_, rfl⟩
    have HI := Lib.hid hi
    have hilt : i < n := by rw [← hi]; exact Nat.mod_lt _ n1
    obtain ⟨L, hL⟩ : ∃ L, c.parts[i]? = some L := ⟨_, List.getElem?_eq_getElem (by rw [HLEN.out]; exact hilt)⟩
    have HL := Lib.hid hL
    have hLc := HF.out.each L (List.mem_of_getElem? hL)
    have l1 : L.length ≤ 1000 := hLc.1
    have HFL := Lib.hid (fitS_of hLc.2)
    have HFS : Hid (FitS [⟨p, q, l, r, v⟩]) := Lib.hid fun x hx => by
      obtain rfl := List.mem_singleton.1 hx
      have a1 := HLL.out
      have a2 := HRR.out
      have a3 := HVV.out
      exact ⟨⟨by show l.size ≤ _; omega, by show r.size ≤ _; omega, by show v.size ≤ _; omega⟩, HWF.out⟩
    have HRL : Hid (rightB L = true) := Lib.hid (by have := (hR.part i (by rw [HLEN.out]; exact hilt)).1; rwa [part_is hL] at this)
    obtain ⟨ro, hro⟩ : ∃ ro, roomN n c.room i = ro := ⟨_, rfl⟩
    have HRO := Lib.hid hro
    have hro2 : ro ≤ 4097 := by
      rw [← hro]
      unfold roomN
      have h1 : c.room.toNat / n ≤ c.room.toNat := Nat.div_le_self _ _
      split <;> omega
    obtain ⟨N0, O0, b9, hpm⟩ : ∃ N O b, putM L (ro : Int) ⟨p, q, l, r, v⟩ = (N, O, b) := ⟨_, _, _, rfl⟩
    have HPM := Lib.hid hpm
    have HOL : Hid (O0.length ≤ 1001) := Lib.hid (by
      rw [putM_right HRL.out] at hpm
      simp only [Prod.mk.injEq] at hpm
      have h1 := P13.length_all (rightB_iff.1 HRL.out) (⟨p, q, l, r, v⟩ : Sl)
      rw [← hpm.2.1, List.length_drop]
      have h2 : (allS L ⟨p, q, l, r, v⟩).length ≤ L.length + 1 := h1.2
      omega)
    clear hR hpq hkf hi hL hLc hro hpm
    obtain ⟨y0, y1, y2, y3, y4, y5, y6⟩ := box7 HX4.out (Below.refl _ _)
    go_wp2_with fail
    refine (both_v l r c.width _ p q HPQ.out HLL.out HRR.out).mono ?_
    rintro e w5 ⟨rfl, hb2⟩
    have HB5 := Lib.hid hb2
    clear hb2 y0 y1 y2 y3 y4 y5 y6
    go_upto_region 5 with (fail)
    have hbk : Blk (w5.alloc (.cells #[.int .u64 p, .int .i64 q] 61)) w5.heap.size 61 #[.int .u64 p, .int .i64 q] := Blk.new w5 _ _
    have hwk : Below w5.heap.size w5 (w5.alloc (.cells #[.int .u64 p, .int .i64 q] 61)) := (Below.refl _ _).alloc (Nat.le_refl _) _
    obtain ⟨w5b, hwe⟩ : ∃ w5b, w5b = w5.alloc (.cells #[.int .u64 p, .int .i64 q] 61) := ⟨_, rfl⟩
    obtain ⟨gk, hgk⟩ : ∃ gk, gk = w5.heap.size := ⟨_, rfl⟩
    rw [← hwe] at hbk hwk ⊢
    rw [← hgk] at hbk ⊢
    have HK5 := Lib.hid hbk
    have HB5b := Lib.hid (below_step HB5.out hwk)
    clear hbk hwk hwe hgk
    obtain ⟨y0, y1, y2, y3, y4, y5, y6⟩ := box7 HX4.out HB5b.out
    have k0 := Blk.cell HK5.out 0
    have k1 := Blk.cell HK5.out 1
    simp only [List.getElem?_toArray, List.getElem?_cons_zero, List.getElem?_cons_succ] at k0 k1
    go_wp2_with fail
    refine (partOf_any c.width c.room c.hits c.misses c.clashes c.evicted (some ⟨g, 0, none⟩) n n p q _ n1 hnlen HWF.out.1).mono ?_
    rintro e w6 ⟨rfl, hb6⟩
    rw [HI.out]
    have HB6 := Lib.hid (below_step HB5b.out hb6)
    have HK6 := Lib.hid (Blk.below HK5.out hb6 HK5.out.lt)
    clear hb6 y0 y1 y2 y3 y4 y5 y6 k0 k1
    go_wp2_with fail
    have HP6 := Lib.hid (HP4.out.up HB6.out)
    have HCB : Hid (∀ W, Below w6.heap.size w6 W → W.cell? ⟨r1, 0, none⟩ = some (.int .i64 c.width) ∧ W.cell? ⟨r1, 1, none⟩ = some (.int .i64 c.room) ∧ W.cell? ⟨r1, 2, none⟩ = some (.slice (some ⟨g, 0, none⟩) n n) ∧ W.cell? ⟨r1, 3, none⟩ = some (.int .i64 c.hits) ∧ W.cell? ⟨r1, 4, none⟩ = some (.int .i64 c.misses) ∧ W.cell? ⟨r1, 5, none⟩ = some (.int .i64 c.clashes) ∧ W.cell? ⟨r1, 6, none⟩ = some (.int .i64 c.evicted)) := Lib.hid fun W hW => box7 HX4.out (below_step HB6.out hW)
    have HCK : Hid (∀ W, Below w6.heap.size w6 W → W.cell? ⟨gk, 0, none⟩ = some (.int .u64 p) ∧ W.cell? ⟨gk, 1, none⟩ = some (.int .i64 q)) := Lib.hid fun W hW => ⟨(Blk.below HK6.out hW HK6.out.lt).cell 0, (Blk.below HK6.out hW HK6.out.lt).cell 1⟩
    obtain ⟨Bp, cl, hrow, hSB, hcl, hnew⟩ := HP6.out.rows i L HL.out
    have HROW := Lib.hid hrow
    have HCE : Hid (∀ W, Below w6.heap.size w6 W → W.cell? ⟨g, i, none⟩ = some (.slice Bp L.length cl)) := Lib.hid fun W hW => ((Blk.below HP6.out.blk hW HP6.out.blk.lt).cell i).trans HROW.out
    have HSU : Hid (∀ W, Below w6.heap.size w6 W → SlotsAt W Bp L) := Lib.hid fun W hW => hSB.up hW
    have hai := add_zero_block g i
    clear hrow hSB hcl hnew
    go_cut [12, 13] (fun s12 s13 wx => PutOut w6 N0 O0 s12 s13 wx)
    case first =>
      refine wp_region_noPanic ?_
      refine wp_region_held_drew (S := fun W => Below w6.heap.size w6 W) (by kernel_rfl) ((Below.refl w6.heap.size w6).drew) (fun hS0 => ?_)
      change wpAnyH _ _ _ _ _ 21 #[false, false, false, false, false, false, false, false, false, false, false, false, false, false, false, false, false, false, false, false, false] _ (World.drew _)
      refine wpAnyH_take (i := 0) (v := .pointer (some ⟨r1, 2, none⟩)) rfl (by kernel_rfl) (by kernel_rfl) (by kernel_rfl) (fun _ _ _ h => h) (Or.inl ⟨by rfl, fun w' hS' => by go_simp⟩) hS0 ?_
      change wpAnyH _ _ _ _ _ _ _ (Act.put _ (some 31) (.pointer (some ⟨r1, 2, none⟩))) _
      simp only [Act.put, List.setIfInBounds_toArray, List.set_cons_zero, List.set_cons_succ]
      refine wpAnyH_take (i := 1) (v := .slice (some ⟨g, 0, none⟩) n n) rfl (by kernel_rfl) (by kernel_rfl) (by kernel_rfl) (fun _ _ _ h => h) (Or.inl ⟨by rfl, fun w' hS' => by obtain ⟨y0, y1, y2, y3, y4, y5, y6⟩ := HCB.out _ hS'; go_simp⟩) hS0 ?_
      change wpAnyH _ _ _ _ _ _ _ (Act.put _ (some 32) (.slice (some ⟨g, 0, none⟩) n n)) _
      simp only [Act.put, List.setIfInBounds_toArray, List.set_cons_zero, List.set_cons_succ]
      refine wpAnyH_take (i := 2) (v := .int .i64 (i : Int)) rfl (by kernel_rfl) (by kernel_rfl) (by kernel_rfl) (fun _ _ _ h => h) (Or.inl ⟨by rfl, fun w' hS' => by exact op_move rfl rfl⟩) hS0 ?_
      change wpAnyH _ _ _ _ _ _ _ (Act.put _ (some 33) (.int .i64 (i : Int))) _
      simp only [Act.put, List.setIfInBounds_toArray, List.set_cons_zero, List.set_cons_succ]
      refine wpAnyH_take (i := 3) (v := .pointer (some ⟨g, i, none⟩)) rfl (by kernel_rfl) (by kernel_rfl) (by kernel_rfl) (fun _ _ _ h => h) (Or.inl ⟨by rfl, fun w' hS' => by go_simp⟩) hS0 ?_
      change wpAnyH _ _ _ _ _ _ _ (Act.put _ (some 34) (.pointer (some ⟨g, i, none⟩))) _
      simp only [Act.put, List.setIfInBounds_toArray, List.set_cons_zero, List.set_cons_succ]
      refine wpAnyH_take (i := 4) (v := .slice Bp L.length cl) rfl (by kernel_rfl) (by kernel_rfl) (by kernel_rfl) (fun _ _ _ h => h) (Or.inl ⟨by rfl, fun w' hS' => by have k2 := HCE.out _ hS'; go_simp⟩) hS0 ?_
      change wpAnyH _ _ _ _ _ _ _ (Act.put _ (some 35) (.slice Bp L.length cl)) _
      simp only [Act.put, List.setIfInBounds_toArray, List.set_cons_zero, List.set_cons_succ]
      refine wpAnyH_take (i := 5) (v := .agg #[.int .i64 c.width, .int .i64 c.room, .slice (some ⟨g, 0, none⟩) n n, .int .i64 c.hits, .int .i64 c.misses, .int .i64 c.clashes, .int .i64 c.evicted]) rfl (by kernel_rfl) (by kernel_rfl) (by kernel_rfl) (fun _ _ _ h => h) (Or.inl ⟨by rfl, fun w' hS' => by obtain ⟨y0, y1, y2, y3, y4, y5, y6⟩ := HCB.out _ hS'; go_simp⟩) hS0 ?_
      change wpAnyH _ _ _ _ _ _ _ (Act.put _ (some 36) (.agg #[.int .i64 c.width, .int .i64 c.room, .slice (some ⟨g, 0, none⟩) n n, .int .i64 c.hits, .int .i64 c.misses, .int .i64 c.clashes, .int .i64 c.evicted])) _
      simp only [Act.put, List.setIfInBounds_toArray, List.set_cons_zero, List.set_cons_succ]
      refine wpAnyH_take (i := 6) (v := .int .i64 (i : Int)) rfl (by kernel_rfl) (by kernel_rfl) (by kernel_rfl) (fun _ _ _ h => h) (Or.inl ⟨by rfl, fun w' hS' => by exact op_move rfl rfl⟩) hS0 ?_
      change wpAnyH _ _ _ _ _ _ _ (Act.put _ (some 37) (.int .i64 (i : Int))) _
      simp only [Act.put, List.setIfInBounds_toArray, List.set_cons_zero, List.set_cons_succ]
      refine wpAnyH_take (i := 8) (v := .agg #[.int .u64 p, .int .i64 q]) rfl (by kernel_rfl) (by kernel_rfl) (by kernel_rfl) (fun _ _ _ h => h) (Or.inl ⟨by rfl, fun w' hS' => by obtain ⟨k0, k1⟩ := HCK.out _ hS'; go_simp⟩) hS0 ?_
      change wpAnyH _ _ _ _ _ _ _ (Act.put _ (some 39) (.agg #[.int .u64 p, .int .i64 q])) _
      simp only [Act.put, List.setIfInBounds_toArray, List.set_cons_zero, List.set_cons_succ]
      refine wpAnyH_take (i := 9) (v := .string l) rfl (by kernel_rfl) (by kernel_rfl) (by kernel_rfl) (fun _ _ _ h => h) (Or.inl ⟨by rfl, fun w' hS' => by exact op_move rfl rfl⟩) hS0 ?_
      change wpAnyH _ _ _ _ _ _ _ (Act.put _ (some 40) (.string l)) _
      simp only [Act.put, List.setIfInBounds_toArray, List.set_cons_zero, List.set_cons_succ]
      refine wpAnyH_take (i := 10) (v := .string r) rfl (by kernel_rfl) (by kernel_rfl) (by kernel_rfl) (fun _ _ _ h => h) (Or.inl ⟨by rfl, fun w' hS' => by exact op_move rfl rfl⟩) hS0 ?_
      change wpAnyH _ _ _ _ _ _ _ (Act.put _ (some 41) (.string r)) _
      simp only [Act.put, List.setIfInBounds_toArray, List.set_cons_zero, List.set_cons_succ]
      refine wpAnyH_take (i := 11) (v := .string v) rfl (by kernel_rfl) (by kernel_rfl) (by kernel_rfl) (fun _ _ _ h => h) (Or.inl ⟨by rfl, fun w' hS' => by exact op_move rfl rfl⟩) hS0 ?_
      change wpAnyH _ _ _ _ _ _ _ (Act.put _ (some 42) (.string v)) _
      simp only [Act.put, List.setIfInBounds_toArray, List.set_cons_zero, List.set_cons_succ]
      refine wpAnyH_take (i := 12) (v := .agg #[.int .u64 p, .int .i64 q, .string l, .string r, .string v]) rfl (by kernel_rfl) (by kernel_rfl) (by kernel_rfl) (fun _ _ _ h => h) (Or.inl ⟨by rfl, fun w' hS' => by go_simp⟩) hS0 ?_
      change wpAnyH _ _ _ _ _ _ _ (Act.put _ (some 43) (.agg #[.int .u64 p, .int .i64 q, .string l, .string r, .string v])) _
      simp only [Act.put, List.setIfInBounds_toArray, List.set_cons_zero, List.set_cons_succ]
      refine wpAnyH_ready (rs := [7]) (by kernel_rfl) (by simp) (AllReadyH.cons rfl (fun K hK => ?_) (AllReadyH.nil))
      · skip
        go_simp
        refine (roomOf_any c.width c.room c.hits c.misses c.clashes c.evicted (some ⟨g, 0, none⟩) n n i _ n1 hnlen rm1 rm2).mono ?_
        rintro e W1 ⟨rfl, hb3⟩
        rw [HRO.out]
        refine hK.out _ _ (hS0.trans (hb3.mono hS0.size)) (fun hS2 => ?_)
        clear hK K
        simp only [List.setIfInBounds_toArray, List.set_cons_zero, List.set_cons_succ]
        refine wpAnyH_ready (rs := [13]) (by kernel_rfl) (by simp) (AllReadyH.cons rfl (fun K hK => ?_) (AllReadyH.nil))
        · skip
          go_simp
          refine (put_any Bp L L.length cl (ro : Int) ⟨p, q, l, r, v⟩ _ N0 O0 b9 HPM.out (HSU.out _ hS2) rfl (by omega) HFL.out HFS.out (by omega) (by omega)).mono ?_
          rintro e W4 ⟨A7, B8, n9, m10, c11, d12, rfl, hn13, hm14, hN15, hO16, hb6, hc17, hd18, hw19⟩
          refine hK.out _ _ (hS2.trans (hb6.mono hS2.size)) (fun hS5 => ?_)
          clear hK K
          simp only [List.setIfInBounds_toArray, List.set_cons_zero, List.set_cons_succ]
          refine wpAnyH_take (i := 14) (v := .tuple #[.slice A7 n9 c11, .slice B8 m10 d12, .int .i64 b9]) rfl (by kernel_rfl) (by kernel_rfl) (by kernel_rfl) (fun _ _ _ h => h) (Or.inl ⟨by rfl, fun w' hS' => by exact op_move rfl rfl⟩) hS5 ?_
          change wpAnyH _ _ _ _ _ _ _ (Act.put _ (some 30) (.tuple #[.slice A7 n9 c11, .slice B8 m10 d12, .int .i64 b9])) _
          simp only [Act.put, List.setIfInBounds_toArray, List.set_cons_zero, List.set_cons_succ]
          refine wpAnyH_take (i := 15) (v := .slice A7 n9 c11) rfl (by kernel_rfl) (by kernel_rfl) (by kernel_rfl) (fun _ _ _ h => h) (Or.inl ⟨by rfl, fun w' hS' => by go_simp⟩) hS5 ?_
          change wpAnyH _ _ _ _ _ _ _ (Act.put _ (some 45) (.slice A7 n9 c11)) _
          simp only [Act.put, List.setIfInBounds_toArray, List.set_cons_zero, List.set_cons_succ]
          refine wpAnyH_take (i := 16) (v := .slice B8 m10 d12) rfl (by kernel_rfl) (by kernel_rfl) (by kernel_rfl) (fun _ _ _ h => h) (Or.inl ⟨by rfl, fun w' hS' => by go_simp⟩) hS5 ?_
          change wpAnyH _ _ _ _ _ _ _ (Act.put _ (some 46) (.slice B8 m10 d12)) _
          simp only [Act.put, List.setIfInBounds_toArray, List.set_cons_zero, List.set_cons_succ]
          refine wpAnyH_take (i := 17) (v := .int .i64 b9) rfl (by kernel_rfl) (by kernel_rfl) (by kernel_rfl) (fun _ _ _ h => h) (Or.inl ⟨by rfl, fun w' hS' => by go_simp⟩) hS5 ?_
          change wpAnyH _ _ _ _ _ _ _ (Act.put _ (some 47) (.int .i64 b9)) _
          simp only [Act.put, List.setIfInBounds_toArray, List.set_cons_zero, List.set_cons_succ]
          refine wpAnyH_take (i := 18) (v := .slice A7 n9 c11) rfl (by kernel_rfl) (by kernel_rfl) (by kernel_rfl) (fun _ _ _ h => h) (Or.inl ⟨by rfl, fun w' hS' => by exact op_assign rfl rfl⟩) hS5 ?_
          change wpAnyH _ _ _ _ _ _ _ (Act.put _ (some 12) (.slice A7 n9 c11)) _
          simp only [Act.put, List.setIfInBounds_toArray, List.set_cons_zero, List.set_cons_succ]
          refine wpAnyH_take (i := 19) (v := .slice B8 m10 d12) rfl (by kernel_rfl) (by kernel_rfl) (by kernel_rfl) (fun _ _ _ h => h) (Or.inl ⟨by rfl, fun w' hS' => by exact op_assign rfl rfl⟩) hS5 ?_
          change wpAnyH _ _ _ _ _ _ _ (Act.put _ (some 13) (.slice B8 m10 d12)) _
          simp only [Act.put, List.setIfInBounds_toArray, List.set_cons_zero, List.set_cons_succ]
          refine wpAnyH_take (i := 20) (v := .int .i64 b9) rfl (by kernel_rfl) (by kernel_rfl) (by kernel_rfl) (fun _ _ _ h => h) (Or.inl ⟨by rfl, fun w' hS' => by exact op_assign rfl rfl⟩) hS5 ?_
          change wpAnyH _ _ _ _ _ _ _ (Act.put _ (some 14) (.int .i64 b9)) _
          simp only [Act.put, List.setIfInBounds_toArray, List.set_cons_zero, List.set_cons_succ]
          refine wpAnyH_done (by kernel_rfl) ?_ _
          refine NoPanic.normal ?_
          go_wp2_with fail
          go_meet
          exact ⟨A7, B8, n9, m10, c11, d12, rfl, rfl, hn13, hm14, hN15, hc17, hS5, fun a ha => Nat.le_trans (hS2).size (hw19 a ha)⟩
    case rest =>
      obtain ⟨A7, B7, n7, m7, c7, d7, rfl, rfl, hn7, hm7, hN7, hc7, hbw, hnw7⟩ := hcut
      subst hn7 hm7
      have HBW := Lib.hid hbw
      have HS7 := Lib.hid hN7
      have HNW7 := Lib.hid hnw7
      have HC7 := Lib.hid hc7
      have HBWC := Lib.hid (below_step HB6.out hbw)
      have HXc := Lib.hid (Blk.below HX4.out HBWC.out HX4.out.lt)
      have HRc := Lib.hid (Blk.below HR4.out HBWC.out HR4.out.lt)
      have hm7 := HOL.out
      clear hbw hN7 hnw7 hc7
      obtain ⟨y0, y1, y2, y3, y4, y5, y6⟩ := box7 HXc.out (Below.refl _ _)
      have hbg := Blk.below HP6.out.blk HBW.out HP6.out.blk.lt
      have zi := (Blk.cell hbg i).trans HROW.out
      have qi := Blk.frozen hbg i
      have hlg := hbg.lt
      clear hbg
      go_upto_region 8 with (fail)
      have HPN : Hid (OwnP (cut w4 w2.heap.size) (wc.setCell ⟨g, i, none⟩ (.slice A7 N0.length c7)) g (cs.setIfInBounds i (.slice A7 N0.length c7)) (c.parts.set i N0)) := Lib.hid ((HP6.out.up HBW.out).put HS7.out HC7.out (fun b eb => by have h1 := HNW7.out b eb; have h2 := HP6.out.blk.lt; have h3 := HP6.out.below.size; exact ⟨by omega, by omega⟩))
      have hx8 := Blk.far HXc.out (show r1 ≠ g by have := HGR.out.1; omega) (p := ⟨g, i, none⟩) (.slice A7 N0.length c7)
      have hr8 := Blk.far HRc.out (show r2 ≠ g by have := HGR.out.2; omega) (p := ⟨g, i, none⟩) (.slice A7 N0.length c7)
      have hb8 : Below w.heap.size w (wc.setCell ⟨g, i, none⟩ (.slice A7 N0.length c7)) := (HB4.out.trans (HBWC.out.mono HB4.out.size)).setCell (by have h1 := HGR.out.1; have h2 := HN.out.2.1; simp only; omega) _
      obtain ⟨w7, hw7⟩ : ∃ w7, w7 = wc.setCell ⟨g, i, none⟩ (.slice A7 N0.length c7) := ⟨_, rfl⟩
      rw [← hw7] at HPN hx8 hr8 hb8 ⊢
      have HX7 : Hid (Blk w7 r1 28 #[.int .i64 c.width, .int .i64 c.room, .slice (some ⟨g, 0, none⟩) n n, .int .i64 c.hits, .int .i64 c.misses, .int .i64 c.clashes, .int .i64 (more c.evicted 0)]) := Lib.hid (by rw [more_zero HRC.out.ce.2]; exact hx8)
      have HR7 := Lib.hid hr8
      have HB7 := Lib.hid hb8
      have HPX := Lib.hid (HPN.out.parts HXX.out)
      clear hw7 hx8 hr8 hb8 zi qi hlg y0 y1 y2 y3 y4 y5 y6
      go_wp2_with fail
      go_loopw [58] (fun s58 wr => ∃ k : Nat, k ≤ O0.length ∧ s58 = .int .i64 k ∧ Hid (Blk wr r1 28 #[.int .i64 c.width, .int .i64 c.room, .slice (some ⟨g, 0, none⟩) n n, .int .i64 c.hits, .int .i64 c.misses, .int .i64 c.clashes, .int .i64 (more c.evicted k)]) ∧ Hid (w7.grownBy wr (some r1))) (fun s58 _ => O0.length - (intOf s58).toNat)
      case atStart => exact ⟨0, Nat.zero_le _, rfl, HX7, Lib.hid (World.grownBy.refl _ _)⟩
      case round =>
        obtain ⟨k, hk, rfl, HXk, HGk⟩ := hrel
        obtain ⟨w8, rfl⟩ : ∃ w8, w8 = wr := ⟨_, rfl⟩
        by_cases g1 : k < O0.length
        · go_wp2_with fail
          refine (count_any r1 6 (more c.evicted k) 28 _ _ HXk.out (by rfl) (more_range HRC.out.ce k)).mono ?_
          rintro e w' ⟨rfl, wq, hbq, rfl⟩
          rw [more_more]
          have HX9 : Hid (Blk (wq.setCell ⟨r1, 6, none⟩ (.int .i64 (more c.evicted (k + 1)))) r1 28 #[.int .i64 c.width, .int .i64 c.room, .slice (some ⟨g, 0, none⟩) n n, .int .i64 c.hits, .int .i64 c.misses, .int .i64 c.clashes, .int .i64 (more c.evicted (k + 1))]) := Lib.hid (by
            have := Blk.set_ (Blk.below HXk.out hbq HXk.out.lt) 6 (.int .i64 (more c.evicted (k + 1)))
            simpa only [List.setIfInBounds_toArray, List.set_cons_zero, List.set_cons_succ] using this)
          have HG9 : Hid (w7.grownBy (wq.setCell ⟨r1, 6, none⟩ (.int .i64 (more c.evicted (k + 1)))) (some r1)) := Lib.hid ((HGk.out.trans (grown_of_below hbq _)).trans (grown_set _ _ _ _))
          obtain ⟨w9, hw9⟩ : ∃ w9, w9 = wq.setCell ⟨r1, 6, none⟩ (.int .i64 (more c.evicted (k + 1))) := ⟨_, rfl⟩
          rw [← hw9] at HX9 HG9 ⊢
          clear hw9 hbq
          go_wp2_with fail
          go_roundw
          case rel => exact ⟨k + 1, by omega, by go_num, HX9, HG9⟩
          case measure => simp [intOf]; omega
        · obtain rfl : k = O0.length := by omega
          obtain ⟨y0, y1, y2, y3, y4, y5, y6⟩ := box7 HXk.out (Below.refl _ _)
          have hr9 := Blk.grown HR7.out HGk.out (fun e => HN.out.1 (Option.some.inj e).symm)
          obtain ⟨z0, z1, z2, z3, z4, z5, z6⟩ := box7 hr9 (Below.refl _ _)
          have q0 := Blk.frozen hr9 0
          have q1 := Blk.frozen hr9 1
          have q2 := Blk.frozen hr9 2
          have q3 := Blk.frozen hr9 3
          have q4 := Blk.frozen hr9 4
          have q5 := Blk.frozen hr9 5
          have q6 := Blk.frozen hr9 6
          have hl9 := hr9.lt
          have HS9 := Lib.hid (set7 hr9 c.width c.room (some ⟨g, 0, none⟩) n n c.hits c.misses c.clashes (more c.evicted O0.length))
          have HB9 : Hid (Below w.heap.size w w8) := Lib.hid (HB7.out.grown HGk.out HB7.out.size (fun b e => by injection e with e; rw [← e]; exact HN.out.2.1))
          clear hr9
          go_wp2_with fail
          obtain ⟨x0, x1, x2, x3, x4, x5, x6⟩ := box7 HS9.out.1 (Below.refl _ _)
          refine bodyPost_ret (v := .tuple #[.agg #[.int .i64 c.width, .int .i64 c.room, .slice (some ⟨g, 0, none⟩) n n, .int .i64 c.hits, .int .i64 c.misses, .int .i64 c.clashes, .int .i64 (more c.evicted O0.length)], .int .i64 0]) (by simp [results, Try.results23, go_sem, x0, x1, x2, x3, x4, x5, x6]) rfl ?_
          have hnum : c.num l r = i := by unfold Ca.num; rw [show c.key l r = (p, q) from HPQ.out, HLEN.out]; exact HI.out
          have hpart : c.part (c.num l r) = L := by rw [hnum]; exact part_is HL.out
          have hslot : c.slot l r v = ⟨p, q, l, r, v⟩ := by unfold Ca.slot; rw [show c.key l r = (p, q) from HPQ.out]
          have hroom : c.roomP l r = ro := by unfold Ca.roomP; rw [hnum, HLEN.out]; exact HRO.out
          have hput := HPM.out
          rw [putM_right HRL.out] at hput
          simp only [Prod.mk.injEq, Int.toNat_natCast] at hput
          have hfin := put_eq HRC.out l r v
          rw [show c.allP l r v = allS L ⟨p, q, l, r, v⟩ from by unfold Ca.allP; rw [hpart, hslot], hroom, hnum, hput.1, hput.2.1, HM.out] at hfin
          simp only [Prod.mk.injEq] at hfin
          obtain ⟨rfl, rfl⟩ := hfin
          exact ⟨some ⟨g, 0, none⟩, n, n, rfl, by rw [List.length_set]; exact HLEN.out, (((HPX.out.kept HGk.out (.inr (.inl rfl))).kept HS9.out.2 (.inr (.inr rfl))).less (fun b hb => .inl hb)), HB9.out.grown HS9.out.2 HB9.out.size (fun b e => by injection e with e; rw [← e]; exact HN.out.2.2), Nat.le_refl _⟩

/-- each call answers in memory that was not there before -/
theorem new_new (p r w : Int) (W : World) (c : Ca) (b : Int) (hm : newC p r w = (c, b)) :
    Calls Try.prog 11 #[.int .i64 p, .int .i64 r, .int .i64 w] W (CaTold (fun b => b < W.heap.size) c b W) := newC_any p r w W c b hm _ (fun _ h => h)
theorem get_new (c : Ca) (A : Option Addr) (n cap : Nat) (l r : ByteArray) (w : World) (s : ByteArray) (d : Ca) (b : Int) (hm : getC c l r = (s, d, b)) {Y : Nat → Prop} (ha : PartsAt Y w A c.parts) (hn : c.parts.length = n) (hf : CaFit c) (hl : l.size ≤ 4096) (hr : r.size ≤ 4096) :
    Calls Try.prog 21 #[.agg #[.int .i64 c.width, .int .i64 c.room, .slice A n cap, .int .i64 c.hits, .int .i64 c.misses, .int .i64 c.clashes, .int .i64 c.evicted], .string l, .string r] w (GetCTold (fun b => b < w.heap.size) s d b w) :=
  getC_any c A n cap l r w s d b hm _ (fun _ h => h) ha hn hf hl hr
theorem put_new (c : Ca) (A : Option Addr) (n cap : Nat) (l r v : ByteArray) (w : World) (d : Ca) (b : Int) (hm : putC c l r v = (d, b)) {Y : Nat → Prop} (ha : PartsAt Y w A c.parts) (hn : c.parts.length = n) (hf : CaFit c) (hl : l.size ≤ 4096) (hr : r.size ≤ 4096) (hv : v.size ≤ 4096) :
    Calls Try.prog 23 #[.agg #[.int .i64 c.width, .int .i64 c.room, .slice A n cap, .int .i64 c.hits, .int .i64 c.misses, .int .i64 c.clashes, .int .i64 c.evicted], .string l, .string r, .string v] w (CaTold (fun b => b < w.heap.size) d b w) :=
  putC_any c A n cap l r v w d b hm _ (fun _ h => h) ha hn hf hl hr hv
/-- package cache keeps what the laws ask of it -/
theorem cache_ok : CacheOk where
  new p r w W c b hm _ _ _ X hX := newC_any p r w W c b hm X hX
  right c A n cap w b hb _ ha hn _ hf := rightC_any c A n cap w b hb ha hn hf
  size c A n cap w _ ha hn _ hf := sizeC_any c A n cap w ha hn hf
  get c A n cap l r w s d b hm X hX ha hn _ hf hl hr := getC_any c A n cap l r w s d b hm X hX ha hn hf hl hr
  put c A n cap l r v w d b hm X hX ha hn _ hf hl hr hv := putC_any c A n cap l r v w d b hm X hX ha hn hf hl hr hv

end Go.Proofs.Ytjifmfgfmciaeaa
