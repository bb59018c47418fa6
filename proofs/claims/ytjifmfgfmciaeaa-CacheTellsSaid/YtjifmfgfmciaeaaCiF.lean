/-
  Package cache: Get: what two texts have come to, and a cache that knows that it was asked, in new memory; nothing that was there is changed.
-/
import Derived.Test.YtjifmfgfmciaeaaCiE
namespace Go.Proofs.Ytjifmfgfmciaeaa
open Go.RowKit

/-- a world of which the newest memory is left away -/
def cut (w : World) (n : Nat) : World := { w with heap := w.heap.extract 0 n }
theorem cut_size (w : World) {n : Nat} (h : n ≤ w.heap.size) : (cut w n).heap.size = n := by
  unfold cut
  simp only [Array.size_extract]
  omega
theorem cut_below (w : World) {n : Nat} (h : n ≤ w.heap.size) : Below (cut w n).heap.size (cut w n) w := by
  refine ⟨rfl, rfl, rfl, by rw [cut_size w h]; exact h, fun k hk => ?_⟩
  rw [cut_size w h] at hk
  show w.heap[k]? = (w.heap.extract 0 n)[k]?
  rw [Array.getElem?_extract]
  simp only [Nat.sub_zero, Nat.zero_add]
  rw [if_pos (by omega)]
/-- a block that was there before is written over -/
theorem OwnP.cut {w2 w3 w4 : World} {g r : Nat} {cs : Array Value} {P : List (List Sl)} (h : OwnP w2 w3 g cs P) (hg : w3.grownBy w4 (some r)) (hr : r < w2.heap.size) : OwnP (cut w4 w2.heap.size) w4 g cs P := by
  have hle : w2.heap.size ≤ w4.heap.size := Nat.le_trans h.below.size hg.size
  have hge := h.ge
  refine ⟨Blk.grown h.blk hg (fun e => by have := Option.some.inj e; omega), h.size, fun i L hi => ?_, by rw [cut_size w4 hle]; exact hge, cut_below w4 hle⟩
  obtain ⟨B, c, h1, h2, h3, h4⟩ := h.rows i L hi
  rw [cut_size w4 hle]
  exact ⟨B, c, h1, RowAt.kept_grown h2 hg (fun a ea e => by have := (h4 a ea).1; have := Option.some.inj e; omega), h3, h4⟩

set_option maxHeartbeats 8000000 in
set_option maxRecDepth 100000 in
theorem getC_any (c : Ca) (A : Option Addr) (n cap : Nat) (l r : ByteArray) (w : World) (s0 : ByteArray) (d0 : Ca) (b0 : Int) (hm : getC c l r = (s0, d0, b0)) (X : Nat → Prop) (hX : ∀ b, X b → b < w.heap.size) {Y : Nat → Prop} (ha : PartsAt Y w A c.parts) (hn : c.parts.length = n) (hf : CaFit c) (hl : l.size ≤ 4096) (hr : r.size ≤ 4096) :
    Calls Try.prog 21 #[.agg #[.int .i64 c.width, .int .i64 c.room, .slice A n cap, .int .i64 c.hits, .int .i64 c.misses, .int .i64 c.clashes, .int .i64 c.evicted], .string l, .string r] w (GetCTold X s0 d0 b0 w) := by
  subst hn
  have HA := Lib.hid ha
  have HF := Lib.hid hf
  have HM := Lib.hid hm
  have HX := Lib.hid hX
  have HLL := Lib.hid hl
  have HRR := Lib.hid hr
  have hlen := hf.len
  clear ha hf hm hl hr hX
  obtain ⟨rb, hrb⟩ : ∃ b, rightC c = b := ⟨_, rfl⟩
  have HRB := Lib.hid hrb
  clear hrb
  go_enter Try.func21, Try.ntmps21
  go_wp2_with fail
  have hb0 : Blk ((w.alloc (.cells #[.int .i64 c.width, .int .i64 c.room, .slice A c.parts.length cap, .int .i64 c.hits, .int .i64 c.misses, .int .i64 c.clashes, .int .i64 c.evicted] 28)).alloc (.cells #[.int .i64 0, .int .i64 0, .slice none 0 0, .int .i64 0, .int .i64 0, .int .i64 0, .int .i64 0] 28)) w.heap.size 28 #[.int .i64 c.width, .int .i64 c.room, .slice A c.parts.length cap, .int .i64 c.hits, .int .i64 c.misses, .int .i64 c.clashes, .int .i64 c.evicted] := (Blk.new w _ _).alloc _
  have hb2 : Blk ((w.alloc (.cells #[.int .i64 c.width, .int .i64 c.room, .slice A c.parts.length cap, .int .i64 c.hits, .int .i64 c.misses, .int .i64 c.clashes, .int .i64 c.evicted] 28)).alloc (.cells #[.int .i64 0, .int .i64 0, .slice none 0 0, .int .i64 0, .int .i64 0, .int .i64 0, .int .i64 0] 28)) (w.heap.size + 1) 28 #[.int .i64 0, .int .i64 0, .slice none 0 0, .int .i64 0, .int .i64 0, .int .i64 0, .int .i64 0] := by
    have := Blk.new (w.alloc (.cells #[.int .i64 c.width, .int .i64 c.room, .slice A c.parts.length cap, .int .i64 c.hits, .int .i64 c.misses, .int .i64 c.clashes, .int .i64 c.evicted] 28)) 28 #[.int .i64 0, .int .i64 0, .slice none 0 0, .int .i64 0, .int .i64 0, .int .i64 0, .int .i64 0]
    simpa using this
  have hw0 : Below w.heap.size w ((w.alloc (.cells #[.int .i64 c.width, .int .i64 c.room, .slice A c.parts.length cap, .int .i64 c.hits, .int .i64 c.misses, .int .i64 c.clashes, .int .i64 c.evicted] 28)).alloc (.cells #[.int .i64 0, .int .i64 0, .slice none 0 0, .int .i64 0, .int .i64 0, .int .i64 0, .int .i64 0] 28)) := ((Below.refl _ _).alloc (Nat.le_refl _) _).alloc (by simp) _
  obtain ⟨w1, hw1⟩ : ∃ w1, w1 = ((w.alloc (.cells #[.int .i64 c.width, .int .i64 c.room, .slice A c.parts.length cap, .int .i64 c.hits, .int .i64 c.misses, .int .i64 c.clashes, .int .i64 c.evicted] 28)).alloc (.cells #[.int .i64 0, .int .i64 0, .slice none 0 0, .int .i64 0, .int .i64 0, .int .i64 0, .int .i64 0] 28)) := ⟨_, rfl⟩
  obtain ⟨r1, hr1⟩ : ∃ r1, r1 = w.heap.size := ⟨_, rfl⟩
  obtain ⟨r2, hr2⟩ : ∃ r2, r2 = w.heap.size + 1 := ⟨_, rfl⟩
  rw [← hw1] at hb0 hb2 hw0 ⊢
  rw [← hr2] at hb2 ⊢
  rw [← hr1] at hb0
  have HN : Hid (r1 ≠ r2 ∧ w.heap.size ≤ r1 ∧ w.heap.size ≤ r2) := Lib.hid (by omega)
  rw [show (⟨w.heap.size, 0, none⟩ : Addr) = ⟨r1, 0, none⟩ from by rw [hr1]]
  have HX1 := Lib.hid hb0
  have HR1 := Lib.hid hb2
  have HW1 := Lib.hid hw0
  clear hb0 hb2 hw0 hw1 hr1 hr2
  refine (rightC_any c A c.parts.length cap _ rb HRB.out (HA.out.up HW1.out) rfl HF.out).mono ?_
  rintro e w2 ⟨rfl, hb⟩
  have HX2 := Lib.hid (Blk.below HX1.out hb HX1.out.lt)
  have HR2 := Lib.hid (Blk.below HR1.out hb HR1.out.lt)
  have HW2 := Lib.hid (HW1.out.trans (hb.mono HW1.out.size))
  clear hb
  cases rb with
  | false =>
    have hfin : s0 = ⟨#[]⟩ ∧ d0 = zeroC ∧ b0 = 1 := by have := HM.out; unfold getC at this; rw [HRB.out] at this; simp only [Bool.false_eq_true, if_false, Prod.mk.injEq] at this; exact ⟨this.1.symm, this.2.1.symm, this.2.2.symm⟩
    obtain ⟨rfl, rfl, rfl⟩ := hfin
    obtain ⟨z0, z1, z2, z3, z4, z5, z6⟩ := box7 HR2.out (Below.refl _ _)
    have q0 := Blk.frozen HR2.out 0
    have q1 := Blk.frozen HR2.out 1
    have q2 := Blk.frozen HR2.out 2
    have q3 := Blk.frozen HR2.out 3
    have q4 := Blk.frozen HR2.out 4
    have q5 := Blk.frozen HR2.out 5
    have q6 := Blk.frozen HR2.out 6
    have hl2 := HR2.out.lt
    go_wp2_with fail
    refine bodyPost_ret (v := .tuple #[.string ⟨#[]⟩, .agg #[.int .i64 0, .int .i64 0, .slice none 0 0, .int .i64 0, .int .i64 0, .int .i64 0, .int .i64 0], .int .i64 1]) (by simp [results, Try.results21, go_sem, z0, z1, z2, z3, z4, z5, z6]) rfl ?_
    exact ⟨none, 0, 0, rfl, rfl, PartsAt.nil, ((((((HW2.out.setCell HN.out.2.2 _).setCell HN.out.2.2 _).setCell HN.out.2.2 _).setCell HN.out.2.2 _).setCell HN.out.2.2 _).setCell HN.out.2.2 _).setCell HN.out.2.2 _, Nat.le_refl _⟩
  | true =>
    have HRC := Lib.hid (rightC_iff.1 HRB.out)
    obtain ⟨y0, y1, y2, y3, y4, y5, y6⟩ := box7 HX2.out (Below.refl _ _)
    go_wp2_with fail
    refine (cown_any c A c.parts.length cap _ (HA.out.up HW2.out) rfl HF.out).mono ?_
    rintro e w3 ⟨g, cs, n, rfl, hn', hP⟩
    have HLEN := Lib.hid hn'
    have HPP := Lib.hid hP
    have hx3 := Blk.below HX2.out hP.below HX2.out.lt
    have hr3 := Blk.below HR2.out hP.below HR2.out.lt
    obtain ⟨z0, z1, z2, z3, z4, z5, z6⟩ := box7 hx3 (Below.refl _ _)
    have q0 := Blk.frozen hx3 0
    have q1 := Blk.frozen hx3 1
    have q2 := Blk.frozen hx3 2
    have q3 := Blk.frozen hx3 3
    have q4 := Blk.frozen hx3 4
    have q5 := Blk.frozen hx3 5
    have q6 := Blk.frozen hx3 6
    have hl3 := hx3.lt
    have HX3 := Lib.hid hx3
    have HR3 := Lib.hid hr3
    have HS7 := Lib.hid (set7 hx3 c.width c.room (some ⟨g, 0, none⟩) n n c.hits c.misses c.clashes c.evicted)
    clear y0 y1 y2 y3 y4 y5 y6 hn' hP hx3 hr3
    go_upto_region 4 with (fail)
    obtain ⟨w4, hw4⟩ : ∃ w4, w4 = ((((((w3.setCell ⟨r1, 0, none⟩ (.int .i64 c.width)).setCell ⟨r1, 1, none⟩ (.int .i64 c.room)).setCell ⟨r1, 2, none⟩ (.slice (some ⟨g, 0, none⟩) n n)).setCell ⟨r1, 3, none⟩ (.int .i64 c.hits)).setCell ⟨r1, 4, none⟩ (.int .i64 c.misses)).setCell ⟨r1, 5, none⟩ (.int .i64 c.clashes)).setCell ⟨r1, 6, none⟩ (.int .i64 c.evicted) := ⟨_, rfl⟩
    have hs7 := HS7.out
    have hP := HPP.out
    have hx3 := HX3.out
    have hr3 := HR3.out
    clear HS7
    rw [← hw4] at hs7 ⊢
    have HX4 := Lib.hid hs7.1
    have HR4 := Lib.hid (Blk.grown hr3 hs7.2 (fun e => HN.out.1 (Option.some.inj e).symm))
    have HP4 := Lib.hid (hP.cut hs7.2 HX2.out.lt)
    have HB4 : Hid (Below w.heap.size w w4) := Lib.hid ((HW2.out.trans (hP.below.mono HW2.out.size)).grown hs7.2 (Nat.le_trans HW2.out.size hP.below.size) (fun b e => by injection e with e; rw [← e]; exact HN.out.2.1))
    have hcs := cut_size w4 (Nat.le_trans hP.below.size hs7.2.size)
    have HXX : Hid (∀ b, (X b ∨ b = r1 ∨ b = r2) → b < (cut w4 w2.heap.size).heap.size) := Lib.hid fun b hb => by
      rw [hcs]
      have h1 := HW2.out.size
      have h2 := HX2.out.lt
      have h3 := HR2.out.lt
      rcases hb with h | h | h
      · have := HX.out b h; omega
      · omega
      · omega
    have HGR : Hid (r1 < g ∧ r2 < g) := Lib.hid (by have h1 := HP4.out.ge; have h2 := HX2.out.lt; have h3 := HR2.out.lt; omega)
    clear hw4 hs7 hP hx3 hr3 z0 z1 z2 z3 z4 z5 z6 q0 q1 q2 q3 q4 q5 q6 hl3 hcs
    go_wp2_with fail
    refine (look_any (cut w4 w2.heap.size) w4 r1 g n n cs c l r HX4.out HP4.out HLEN.out HRC.out HF.out HLL.out HRR.out).mono ?_
    rintro e w5 ⟨s1, j, b1, cs', P, rfl, hP, hg5, hlen5, hlk⟩
    have HP5 := Lib.hid hP
    have HX5 := Lib.hid (Blk.grown HX4.out hg5 (fun e => by have := Option.some.inj e; have := HGR.out.1; omega))
    have HR5 := Lib.hid (Blk.grown HR4.out hg5 (fun e => by have := Option.some.inj e; have := HGR.out.2; omega))
    have HB5 : Hid (Below w.heap.size w w5) := Lib.hid (HB4.out.grown hg5 HB4.out.size (fun b e => by injection e with e; have h1 := HGR.out.1; have h2 := HN.out.2.1; omega))
    have HPL : Hid (P.length = n) := Lib.hid (hlen5.trans HLEN.out)
    clear hP hg5 hlen5
    rcases hlk with ⟨rfl, hlk⟩ | ⟨rfl, rfl, hlk⟩ | ⟨rfl, rfl, hlk⟩
    case inl =>
      have HLK := Lib.hid hlk
      clear hlk
      have HPA0 : Hid (PartsAt (fun b => X b ∨ b = r1 ∨ b = r2) w5 (some ⟨g, 0, none⟩) P) := Lib.hid (HP5.out.parts HXX.out)
      go_wp2_with fail
      refine (count_any r1 3 c.hits 28 _ _ HX5.out (by rfl) HRC.out.ch).mono ?_
      rintro e w' ⟨rfl, wq, hbq, rfl⟩
      have HX6 : Hid (Blk (wq.setCell ⟨r1, 3, none⟩ (.int .i64 (more c.hits 1))) r1 28 #[.int .i64 c.width, .int .i64 c.room, .slice (some ⟨g, 0, none⟩) n n, .int .i64 (more c.hits 1), .int .i64 c.misses, .int .i64 c.clashes, .int .i64 c.evicted]) := Lib.hid (by
        have := Blk.set_ (Blk.below HX5.out hbq HX5.out.lt) 3 (.int .i64 (more c.hits 1))
        simpa only [List.setIfInBounds_toArray, List.set_cons_zero, List.set_cons_succ] using this)
      have HR6 : Hid (Blk (wq.setCell ⟨r1, 3, none⟩ (.int .i64 (more c.hits 1))) r2 28 #[.int .i64 0, .int .i64 0, .slice none 0 0, .int .i64 0, .int .i64 0, .int .i64 0, .int .i64 0]) := Lib.hid (Blk.far (Blk.below HR5.out hbq HR5.out.lt) (fun e => HN.out.1 e.symm) (p := ⟨r1, 3, none⟩) _)
      have HPA : Hid (PartsAt (fun b => X b ∨ b = r1 ∨ b = r2) (wq.setCell ⟨r1, 3, none⟩ (.int .i64 (more c.hits 1))) (some ⟨g, 0, none⟩) P) := Lib.hid ((HPA0.out.up hbq).kept (grown_set _ _ _ _) (.inr (.inl rfl)))
      have HB6 : Hid (Below w.heap.size w (wq.setCell ⟨r1, 3, none⟩ (.int .i64 (more c.hits 1)))) := Lib.hid ((HB5.out.trans (hbq.mono HB5.out.size)).setCell HN.out.2.1 _)
      obtain ⟨w6, hw6⟩ : ∃ w6, w6 = wq.setCell ⟨r1, 3, none⟩ (.int .i64 (more c.hits 1)) := ⟨_, rfl⟩
      rw [← hw6] at HX6 HR6 HPA HB6 ⊢
      clear hw6 hbq
      have hfin : s0 = s1 ∧ d0 = { c with parts := P, hits := more c.hits 1 } ∧ b0 = b1 := by have h := HM.out; rw [HLK.out] at h; simp only [Prod.mk.injEq] at h; exact ⟨h.1.symm, h.2.1.symm, h.2.2.symm⟩
      obtain ⟨rfl, rfl, rfl⟩ := hfin
      go_wp2_with fail
      refine wp_region_noPanic ?_
      refine wp_region_held_drew (S := fun W => Blk W r1 28 #[.int .i64 c.width, .int .i64 c.room, .slice (some ⟨g, 0, none⟩) n n, .int .i64 (more c.hits 1), .int .i64 c.misses, .int .i64 c.clashes, .int .i64 c.evicted] ∧ w6.grownBy W (some r2)) (by kernel_rfl) (⟨HX6.out, grown_of_below (Below.refl _ _).drew _⟩) (fun hS0 => ?_)
      change wpAnyH _ _ _ _ _ 6 #[false, false, false, false, false, false] _ (World.drew _)
      refine wpAnyH_take (i := 0) (v := .string s0) rfl (by kernel_rfl) (by kernel_rfl) (by kernel_rfl) (fun _ _ _ h => h) (Or.inl ⟨by rfl, fun w' hS' => by exact op_move rfl rfl⟩) hS0 ?_
      change wpAnyH _ _ _ _ _ _ _ (Act.put _ (some 27) (.string s0)) _
      simp only [Act.put, List.setIfInBounds_toArray, List.set_cons_zero, List.set_cons_succ]
      refine wpAnyH_take (i := 1) (v := .agg #[.int .i64 c.width, .int .i64 c.room, .slice (some ⟨g, 0, none⟩) n n, .int .i64 (more c.hits 1), .int .i64 c.misses, .int .i64 c.clashes, .int .i64 c.evicted]) rfl (by kernel_rfl) (by kernel_rfl) (by kernel_rfl) (fun _ _ _ h => h) (Or.inl ⟨by rfl, fun w' hS' => by obtain ⟨y0, y1, y2, y3, y4, y5, y6⟩ := box7 hS'.1 (Below.refl _ _); go_simp⟩) hS0 ?_
      change wpAnyH _ _ _ _ _ _ _ (Act.put _ (some 28) (.agg #[.int .i64 c.width, .int .i64 c.room, .slice (some ⟨g, 0, none⟩) n n, .int .i64 (more c.hits 1), .int .i64 c.misses, .int .i64 c.clashes, .int .i64 c.evicted])) _
      simp only [Act.put, List.setIfInBounds_toArray, List.set_cons_zero, List.set_cons_succ]
      refine wpAnyH_take (i := 2) (v := .int .i64 b0) rfl (by kernel_rfl) (by kernel_rfl) (by kernel_rfl) (fun _ _ _ h => h) (Or.inl ⟨by rfl, fun w' hS' => by exact op_move rfl rfl⟩) hS0 ?_
      change wpAnyH _ _ _ _ _ _ _ (Act.put _ (some 29) (.int .i64 b0)) _
      simp only [Act.put, List.setIfInBounds_toArray, List.set_cons_zero, List.set_cons_succ]
      refine wpAnyH_take (i := 3) (v := .string s0) rfl (by kernel_rfl) (by kernel_rfl) (by kernel_rfl) (fun _ _ _ h => h) (Or.inl ⟨by rfl, fun w' hS' => by exact op_assign rfl rfl⟩) hS0 ?_
      change wpAnyH _ _ _ _ _ _ _ (Act.put _ (some 6) (.string s0)) _
      simp only [Act.put, List.setIfInBounds_toArray, List.set_cons_zero, List.set_cons_succ]
      refine wpAnyH_ready (rs := [4]) (by kernel_rfl) (by simp) (AllReadyH.cons rfl (fun K hK => ?_) (AllReadyH.nil))
      · skip
        obtain ⟨W1, hr3, hk4, hgr5⟩ := op_store7 (W := w6.drew) HR6.out (c.width) (c.room) (some ⟨g, 0, none⟩) n n ((more c.hits 1)) (c.misses) (c.clashes) (c.evicted)
        refine step_op_skip (hr3 _ _ _ _ rfl rfl rfl) rfl ?_
        refine hK.out _ _ ⟨Blk.grown hS0.1 hgr5 (fun e => HN.out.1 (Option.some.inj e)), hS0.2.trans hgr5⟩ (fun hS2 => ?_)
        clear hK K
        change wpAnyH _ _ _ _ _ _ _ (Act.put _ none (undef)) _
        simp only [Act.put]
        refine wpAnyH_take (i := 5) (v := .int .i64 b0) rfl (by kernel_rfl) (by kernel_rfl) (by kernel_rfl) (fun _ _ _ h => h) (Or.inl ⟨by rfl, fun w' hS' => by exact op_assign rfl rfl⟩) hS2 ?_
        change wpAnyH _ _ _ _ _ _ _ (Act.put _ (some 8) (.int .i64 b0)) _
        simp only [Act.put, List.setIfInBounds_toArray, List.set_cons_zero, List.set_cons_succ]
        refine wpAnyH_done (by kernel_rfl) ?_ _
        refine NoPanic.normal ?_
        obtain ⟨x0, x1, x2, x3, x4, x5, x6⟩ := box7 hk4 (Below.refl _ _)
        have HSF := Lib.hid hS2.2
        go_wp2_with fail
        refine bodyPost_ret (v := .tuple #[.string s0, .agg #[.int .i64 c.width, .int .i64 c.room, .slice (some ⟨g, 0, none⟩) n n, .int .i64 (more c.hits 1), .int .i64 c.misses, .int .i64 c.clashes, .int .i64 c.evicted], .int .i64 b0]) (by simp [results, Try.results21, go_sem, x0, x1, x2, x3, x4, x5, x6]) rfl ?_
        exact ⟨some ⟨g, 0, none⟩, n, n, rfl, HPL.out, (HPA.out.kept HSF.out (.inr (.inr rfl))).less (fun b hb => .inl hb), HB6.out.grown HSF.out HB6.out.size (fun b e => by injection e with e; rw [← e]; exact HN.out.2.2), Nat.le_refl _⟩
    case inr.inl =>
      have HLK := Lib.hid hlk
      clear hlk
      have HPA0 : Hid (PartsAt (fun b => X b ∨ b = r1 ∨ b = r2) w5 (some ⟨g, 0, none⟩) c.parts) := Lib.hid (HP5.out.parts HXX.out)
      go_wp2_with fail
      refine (count_any r1 4 c.misses 28 _ _ HX5.out (by rfl) HRC.out.cm).mono ?_
      rintro e w' ⟨rfl, wq, hbq, rfl⟩
      have HX6 : Hid (Blk (wq.setCell ⟨r1, 4, none⟩ (.int .i64 (more c.misses 1))) r1 28 #[.int .i64 c.width, .int .i64 c.room, .slice (some ⟨g, 0, none⟩) n n, .int .i64 c.hits, .int .i64 (more c.misses 1), .int .i64 c.clashes, .int .i64 c.evicted]) := Lib.hid (by
        have := Blk.set_ (Blk.below HX5.out hbq HX5.out.lt) 4 (.int .i64 (more c.misses 1))
        simpa only [List.setIfInBounds_toArray, List.set_cons_zero, List.set_cons_succ] using this)
      have HR6 : Hid (Blk (wq.setCell ⟨r1, 4, none⟩ (.int .i64 (more c.misses 1))) r2 28 #[.int .i64 0, .int .i64 0, .slice none 0 0, .int .i64 0, .int .i64 0, .int .i64 0, .int .i64 0]) := Lib.hid (Blk.far (Blk.below HR5.out hbq HR5.out.lt) (fun e => HN.out.1 e.symm) (p := ⟨r1, 4, none⟩) _)
      have HPA : Hid (PartsAt (fun b => X b ∨ b = r1 ∨ b = r2) (wq.setCell ⟨r1, 4, none⟩ (.int .i64 (more c.misses 1))) (some ⟨g, 0, none⟩) c.parts) := Lib.hid ((HPA0.out.up hbq).kept (grown_set _ _ _ _) (.inr (.inl rfl)))
      have HB6 : Hid (Below w.heap.size w (wq.setCell ⟨r1, 4, none⟩ (.int .i64 (more c.misses 1)))) := Lib.hid ((HB5.out.trans (hbq.mono HB5.out.size)).setCell HN.out.2.1 _)
      obtain ⟨w6, hw6⟩ : ∃ w6, w6 = wq.setCell ⟨r1, 4, none⟩ (.int .i64 (more c.misses 1)) := ⟨_, rfl⟩
      rw [← hw6] at HX6 HR6 HPA HB6 ⊢
      clear hw6 hbq
      have hfin : s0 = s1 ∧ d0 = { c with misses := more c.misses 1 } ∧ b0 = b1 := by have h := HM.out; rw [HLK.out] at h; simp only [Prod.mk.injEq] at h; exact ⟨h.1.symm, h.2.1.symm, h.2.2.symm⟩
      obtain ⟨rfl, rfl, rfl⟩ := hfin
      go_wp2_with fail
      refine wp_region_noPanic ?_
      refine wp_region_held_drew (S := fun W => Blk W r1 28 #[.int .i64 c.width, .int .i64 c.room, .slice (some ⟨g, 0, none⟩) n n, .int .i64 c.hits, .int .i64 (more c.misses 1), .int .i64 c.clashes, .int .i64 c.evicted] ∧ w6.grownBy W (some r2)) (by kernel_rfl) (⟨HX6.out, grown_of_below (Below.refl _ _).drew _⟩) (fun hS0 => ?_)
      change wpAnyH _ _ _ _ _ 6 #[false, false, false, false, false, false] _ (World.drew _)
      refine wpAnyH_take (i := 0) (v := .string s0) rfl (by kernel_rfl) (by kernel_rfl) (by kernel_rfl) (fun _ _ _ h => h) (Or.inl ⟨by rfl, fun w' hS' => by exact op_move rfl rfl⟩) hS0 ?_
      change wpAnyH _ _ _ _ _ _ _ (Act.put _ (some 27) (.string s0)) _
      simp only [Act.put, List.setIfInBounds_toArray, List.set_cons_zero, List.set_cons_succ]
      refine wpAnyH_take (i := 1) (v := .agg #[.int .i64 c.width, .int .i64 c.room, .slice (some ⟨g, 0, none⟩) n n, .int .i64 c.hits, .int .i64 (more c.misses 1), .int .i64 c.clashes, .int .i64 c.evicted]) rfl (by kernel_rfl) (by kernel_rfl) (by kernel_rfl) (fun _ _ _ h => h) (Or.inl ⟨by rfl, fun w' hS' => by obtain ⟨y0, y1, y2, y3, y4, y5, y6⟩ := box7 hS'.1 (Below.refl _ _); go_simp⟩) hS0 ?_
      change wpAnyH _ _ _ _ _ _ _ (Act.put _ (some 28) (.agg #[.int .i64 c.width, .int .i64 c.room, .slice (some ⟨g, 0, none⟩) n n, .int .i64 c.hits, .int .i64 (more c.misses 1), .int .i64 c.clashes, .int .i64 c.evicted])) _
      simp only [Act.put, List.setIfInBounds_toArray, List.set_cons_zero, List.set_cons_succ]
      refine wpAnyH_take (i := 2) (v := .int .i64 b0) rfl (by kernel_rfl) (by kernel_rfl) (by kernel_rfl) (fun _ _ _ h => h) (Or.inl ⟨by rfl, fun w' hS' => by exact op_move rfl rfl⟩) hS0 ?_
      change wpAnyH _ _ _ _ _ _ _ (Act.put _ (some 29) (.int .i64 b0)) _
      simp only [Act.put, List.setIfInBounds_toArray, List.set_cons_zero, List.set_cons_succ]
      refine wpAnyH_take (i := 3) (v := .string s0) rfl (by kernel_rfl) (by kernel_rfl) (by kernel_rfl) (fun _ _ _ h => h) (Or.inl ⟨by rfl, fun w' hS' => by exact op_assign rfl rfl⟩) hS0 ?_
      change wpAnyH _ _ _ _ _ _ _ (Act.put _ (some 6) (.string s0)) _
      simp only [Act.put, List.setIfInBounds_toArray, List.set_cons_zero, List.set_cons_succ]
      refine wpAnyH_ready (rs := [4]) (by kernel_rfl) (by simp) (AllReadyH.cons rfl (fun K hK => ?_) (AllReadyH.nil))
      · skip
        obtain ⟨W1, hr3, hk4, hgr5⟩ := op_store7 (W := w6.drew) HR6.out (c.width) (c.room) (some ⟨g, 0, none⟩) n n (c.hits) ((more c.misses 1)) (c.clashes) (c.evicted)
        refine step_op_skip (hr3 _ _ _ _ rfl rfl rfl) rfl ?_
        refine hK.out _ _ ⟨Blk.grown hS0.1 hgr5 (fun e => HN.out.1 (Option.some.inj e)), hS0.2.trans hgr5⟩ (fun hS2 => ?_)
        clear hK K
        change wpAnyH _ _ _ _ _ _ _ (Act.put _ none (undef)) _
        simp only [Act.put]
        refine wpAnyH_take (i := 5) (v := .int .i64 b0) rfl (by kernel_rfl) (by kernel_rfl) (by kernel_rfl) (fun _ _ _ h => h) (Or.inl ⟨by rfl, fun w' hS' => by exact op_assign rfl rfl⟩) hS2 ?_
        change wpAnyH _ _ _ _ _ _ _ (Act.put _ (some 8) (.int .i64 b0)) _
        simp only [Act.put, List.setIfInBounds_toArray, List.set_cons_zero, List.set_cons_succ]
        refine wpAnyH_done (by kernel_rfl) ?_ _
        refine NoPanic.normal ?_
        obtain ⟨x0, x1, x2, x3, x4, x5, x6⟩ := box7 hk4 (Below.refl _ _)
        have HSF := Lib.hid hS2.2
        go_wp2_with fail
        refine bodyPost_ret (v := .tuple #[.string s0, .agg #[.int .i64 c.width, .int .i64 c.room, .slice (some ⟨g, 0, none⟩) n n, .int .i64 c.hits, .int .i64 (more c.misses 1), .int .i64 c.clashes, .int .i64 c.evicted], .int .i64 b0]) (by simp [results, Try.results21, go_sem, x0, x1, x2, x3, x4, x5, x6]) rfl ?_
        exact ⟨some ⟨g, 0, none⟩, n, n, rfl, HPL.out, (HPA.out.kept HSF.out (.inr (.inr rfl))).less (fun b hb => .inl hb), HB6.out.grown HSF.out HB6.out.size (fun b e => by injection e with e; rw [← e]; exact HN.out.2.2), Nat.le_refl _⟩
    case inr.inr =>
      have HLK := Lib.hid hlk
      clear hlk
      have HPA0 : Hid (PartsAt (fun b => X b ∨ b = r1 ∨ b = r2) w5 (some ⟨g, 0, none⟩) c.parts) := Lib.hid (HP5.out.parts HXX.out)
      go_wp2_with fail
      refine (count_any r1 5 c.clashes 28 _ _ HX5.out (by rfl) HRC.out.cc).mono ?_
      rintro e w' ⟨rfl, wq, hbq, rfl⟩
      have HX6 : Hid (Blk (wq.setCell ⟨r1, 5, none⟩ (.int .i64 (more c.clashes 1))) r1 28 #[.int .i64 c.width, .int .i64 c.room, .slice (some ⟨g, 0, none⟩) n n, .int .i64 c.hits, .int .i64 c.misses, .int .i64 (more c.clashes 1), .int .i64 c.evicted]) := Lib.hid (by
        have := Blk.set_ (Blk.below HX5.out hbq HX5.out.lt) 5 (.int .i64 (more c.clashes 1))
        simpa only [List.setIfInBounds_toArray, List.set_cons_zero, List.set_cons_succ] using this)
      have HR6 : Hid (Blk (wq.setCell ⟨r1, 5, none⟩ (.int .i64 (more c.clashes 1))) r2 28 #[.int .i64 0, .int .i64 0, .slice none 0 0, .int .i64 0, .int .i64 0, .int .i64 0, .int .i64 0]) := Lib.hid (Blk.far (Blk.below HR5.out hbq HR5.out.lt) (fun e => HN.out.1 e.symm) (p := ⟨r1, 5, none⟩) _)
      have HPA : Hid (PartsAt (fun b => X b ∨ b = r1 ∨ b = r2) (wq.setCell ⟨r1, 5, none⟩ (.int .i64 (more c.clashes 1))) (some ⟨g, 0, none⟩) c.parts) := Lib.hid ((HPA0.out.up hbq).kept (grown_set _ _ _ _) (.inr (.inl rfl)))
      have HB6 : Hid (Below w.heap.size w (wq.setCell ⟨r1, 5, none⟩ (.int .i64 (more c.clashes 1)))) := Lib.hid ((HB5.out.trans (hbq.mono HB5.out.size)).setCell HN.out.2.1 _)
      obtain ⟨w6, hw6⟩ : ∃ w6, w6 = wq.setCell ⟨r1, 5, none⟩ (.int .i64 (more c.clashes 1)) := ⟨_, rfl⟩
      rw [← hw6] at HX6 HR6 HPA HB6 ⊢
      clear hw6 hbq
      have hfin : s0 = s1 ∧ d0 = { c with clashes := more c.clashes 1 } ∧ b0 = b1 := by have h := HM.out; rw [HLK.out] at h; simp only [Prod.mk.injEq] at h; exact ⟨h.1.symm, h.2.1.symm, h.2.2.symm⟩
      obtain ⟨rfl, rfl, rfl⟩ := hfin
      go_wp2_with fail
      refine wp_region_noPanic ?_
      refine wp_region_held_drew (S := fun W => Blk W r1 28 #[.int .i64 c.width, .int .i64 c.room, .slice (some ⟨g, 0, none⟩) n n, .int .i64 c.hits, .int .i64 c.misses, .int .i64 (more c.clashes 1), .int .i64 c.evicted] ∧ w6.grownBy W (some r2)) (by kernel_rfl) (⟨HX6.out, grown_of_below (Below.refl _ _).drew _⟩) (fun hS0 => ?_)
      change wpAnyH _ _ _ _ _ 6 #[false, false, false, false, false, false] _ (World.drew _)
      refine wpAnyH_take (i := 0) (v := .string s0) rfl (by kernel_rfl) (by kernel_rfl) (by kernel_rfl) (fun _ _ _ h => h) (Or.inl ⟨by rfl, fun w' hS' => by exact op_move rfl rfl⟩) hS0 ?_
      change wpAnyH _ _ _ _ _ _ _ (Act.put _ (some 27) (.string s0)) _
      simp only [Act.put, List.setIfInBounds_toArray, List.set_cons_zero, List.set_cons_succ]
      refine wpAnyH_take (i := 1) (v := .agg #[.int .i64 c.width, .int .i64 c.room, .slice (some ⟨g, 0, none⟩) n n, .int .i64 c.hits, .int .i64 c.misses, .int .i64 (more c.clashes 1), .int .i64 c.evicted]) rfl (by kernel_rfl) (by kernel_rfl) (by kernel_rfl) (fun _ _ _ h => h) (Or.inl ⟨by rfl, fun w' hS' => by obtain ⟨y0, y1, y2, y3, y4, y5, y6⟩ := box7 hS'.1 (Below.refl _ _); go_simp⟩) hS0 ?_
      change wpAnyH _ _ _ _ _ _ _ (Act.put _ (some 28) (.agg #[.int .i64 c.width, .int .i64 c.room, .slice (some ⟨g, 0, none⟩) n n, .int .i64 c.hits, .int .i64 c.misses, .int .i64 (more c.clashes 1), .int .i64 c.evicted])) _
      simp only [Act.put, List.setIfInBounds_toArray, List.set_cons_zero, List.set_cons_succ]
      refine wpAnyH_take (i := 2) (v := .int .i64 b0) rfl (by kernel_rfl) (by kernel_rfl) (by kernel_rfl) (fun _ _ _ h => h) (Or.inl ⟨by rfl, fun w' hS' => by exact op_move rfl rfl⟩) hS0 ?_
      change wpAnyH _ _ _ _ _ _ _ (Act.put _ (some 29) (.int .i64 b0)) _
      simp only [Act.put, List.setIfInBounds_toArray, List.set_cons_zero, List.set_cons_succ]
      refine wpAnyH_take (i := 3) (v := .string s0) rfl (by kernel_rfl) (by kernel_rfl) (by kernel_rfl) (fun _ _ _ h => h) (Or.inl ⟨by rfl, fun w' hS' => by exact op_assign rfl rfl⟩) hS0 ?_
      change wpAnyH _ _ _ _ _ _ _ (Act.put _ (some 6) (.string s0)) _
      simp only [Act.put, List.setIfInBounds_toArray, List.set_cons_zero, List.set_cons_succ]
      refine wpAnyH_ready (rs := [4]) (by kernel_rfl) (by simp) (AllReadyH.cons rfl (fun K hK => ?_) (AllReadyH.nil))
      · skip
        obtain ⟨W1, hr3, hk4, hgr5⟩ := op_store7 (W := w6.drew) HR6.out (c.width) (c.room) (some ⟨g, 0, none⟩) n n (c.hits) (c.misses) ((more c.clashes 1)) (c.evicted)
        refine step_op_skip (hr3 _ _ _ _ rfl rfl rfl) rfl ?_
        refine hK.out _ _ ⟨Blk.grown hS0.1 hgr5 (fun e => HN.out.1 (Option.some.inj e)), hS0.2.trans hgr5⟩ (fun hS2 => ?_)
        clear hK K
        change wpAnyH _ _ _ _ _ _ _ (Act.put _ none (undef)) _
        simp only [Act.put]
        refine wpAnyH_take (i := 5) (v := .int .i64 b0) rfl (by kernel_rfl) (by kernel_rfl) (by kernel_rfl) (fun _ _ _ h => h) (Or.inl ⟨by rfl, fun w' hS' => by exact op_assign rfl rfl⟩) hS2 ?_
        change wpAnyH _ _ _ _ _ _ _ (Act.put _ (some 8) (.int .i64 b0)) _
        simp only [Act.put, List.setIfInBounds_toArray, List.set_cons_zero, List.set_cons_succ]
        refine wpAnyH_done (by kernel_rfl) ?_ _
        refine NoPanic.normal ?_
        obtain ⟨x0, x1, x2, x3, x4, x5, x6⟩ := box7 hk4 (Below.refl _ _)
        have HSF := Lib.hid hS2.2
        go_wp2_with fail
        refine bodyPost_ret (v := .tuple #[.string s0, .agg #[.int .i64 c.width, .int .i64 c.room, .slice (some ⟨g, 0, none⟩) n n, .int .i64 c.hits, .int .i64 c.misses, .int .i64 (more c.clashes 1), .int .i64 c.evicted], .int .i64 b0]) (by simp [results, Try.results21, go_sem, x0, x1, x2, x3, x4, x5, x6]) rfl ?_
        exact ⟨some ⟨g, 0, none⟩, n, n, rfl, HPL.out, (HPA.out.kept HSF.out (.inr (.inr rfl))).less (fun b hb => .inl hb), HB6.out.grown HSF.out HB6.out.size (fun b e => by injection e with e; rw [← e]; exact HN.out.2.2), Nat.le_refl _⟩

end Go.Proofs.Ytjifmfgfmciaeaa
