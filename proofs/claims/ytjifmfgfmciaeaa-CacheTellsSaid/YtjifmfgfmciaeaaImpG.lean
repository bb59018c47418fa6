/-
  Package lru: Put: what it returns, in new memory; nothing that was there is changed.
-/
import Derived.Test.YtjifmfgfmciaeaaImpF
namespace Go.Proofs.Ytjifmfgfmciaeaa
open Go.RowKit

theorem putM_right {L : List Sl} {room : Int} {s : Sl} (h : rightB L = true) : putM L room s = ((allS L s).take room.toNat, (allS L s).drop room.toNat, 0) := by unfold putM; rw [if_pos h]

/-- a list that a call has made, as the block in which it lies -/
theorem own_filled {w0 w : World} {A : Option Addr} {n c : Nat} {L : List Sl} (h : OwnS w0 w (.slice A n c) L) (h0 : 0 < L.length) :
    ∃ g cs, A = some ⟨g, 0, none⟩ ∧ Blk w g 63 cs ∧ L.length * 5 ≤ cs.size ∧ Filled Sl.cells 5 cs L L.length ∧ w0.heap.size ≤ g ∧ n = L.length ∧ L.length ≤ c ∧ c ≤ maxLen := by
  have hcap := OwnR.cap h
  rcases h.1.2 with ⟨h1, h2⟩ | ⟨g, cap, cur, h1, hb, hg, hn, hm, hs, ht⟩
  · omega
  · injection h1 with hA hl hc
    refine ⟨g, cur, hA, hg, by rw [hs]; exact Nat.mul_le_mul_right 5 hn, fun i x hi hx j u hu => ?_, hb, hl, hcap.1, hcap.2⟩
    have hf := flat_at sl_len hx j u hu
    rw [← ht, List.getElem?_take] at hf
    split at hf
    · rw [← Array.getElem?_toList]; exact hf
    · cases hf
theorem Filled.first {cs : Array Value} {x y : Sl} {M : List Sl} {k : Nat} (h : Filled Sl.cells 5 cs (x :: M) k) (hs : 5 ≤ cs.size) : Filled Sl.cells 5 (putAt cs 0 y.cells) (y :: M) k := by
  intro i z hi hz j u hu
  have hj : j < 5 := by have := (List.getElem?_eq_some_iff.1 hu).1; rwa [sl_len] at this
  cases i with
  | zero =>
    have e : y = z := by injection hz
    have := putAt_in y.cells cs 0 j u (by rw [e]; exact hu) (by omega)
    rw [Nat.zero_mul]
    exact this
  | succ i =>
    rw [putAt_far _ _ _ _ (by right; rw [sl_len]; omega)]
    exact h (i + 1) z hi hz j u hu
/-- between front's list and what is told -/
structure LPutIn (w wx : World) (g g9 : Nat) (s x : Sl) : Prop where
  first : Blk wx g9 63 #[.int .u64 x.sum, .int .i64 x.len, .string x.left, .string x.right, .string x.val]
  given : Blk wx g 63 #[.int .u64 s.sum, .int .i64 s.len, .string s.left, .string s.right, .string s.val]
  below : Below w.heap.size w wx

set_option maxHeartbeats 8000000 in
set_option maxRecDepth 100000 in
theorem put_any (A : Option Addr) (L : List Sl) (n c : Nat) (room : Int) (s : Sl) (w : World) (N0 O0 : List Sl) (b0 : Int) (hm : putM L room s = (N0, O0, b0)) (ha : SlotsAt w A L) (hn : L.length = n) (h1 : L.length ≤ 1000000) (hf : FitS L) (hfs : FitS [s])
    (r1 : -9223372036854775808 ≤ room) (r2 : room ≤ 9223372036854775807) :
    Calls Try.prog 41 #[.slice A n c, .int .i64 room, .agg #[.int .u64 s.sum, .int .i64 s.len, .string s.left, .string s.right, .string s.val]] w (PutTold N0 O0 b0 w) := by
  subst hn
  have HM := Lib.hid hm
  have HA := Lib.hid ha
  have HF := Lib.hid hf
  have HFS := Lib.hid hfs
  clear hm ha hf hfs
  obtain ⟨rb, hrb⟩ : ∃ rb, rightB L = rb := ⟨_, rfl⟩
  have HR := Lib.hid hrb
  clear hrb
  go_enter Try.func41, Try.ntmps41
  go_wp2_with fail
  have hb0 : Blk (w.alloc (.cells #[.int .u64 s.sum, .int .i64 s.len, .string s.left, .string s.right, .string s.val] 63)) w.heap.size 63 #[.int .u64 s.sum, .int .i64 s.len, .string s.left, .string s.right, .string s.val] := Blk.new w _ _
  have hw0 : Below w.heap.size w (w.alloc (.cells #[.int .u64 s.sum, .int .i64 s.len, .string s.left, .string s.right, .string s.val] 63)) := (Below.refl _ _).alloc (Nat.le_refl _) _
  obtain ⟨w1, hw1⟩ : ∃ w1, w1 = w.alloc (.cells #[.int .u64 s.sum, .int .i64 s.len, .string s.left, .string s.right, .string s.val] 63) := ⟨_, rfl⟩
  obtain ⟨g, hg⟩ : ∃ g, g = w.heap.size := ⟨_, rfl⟩
  rw [← hw1] at hb0 hw0 ⊢
  rw [← hg] at hb0 ⊢
  have HB1 := Lib.hid hb0
  have HW1 := Lib.hid hw0
  have HG : Hid (w.heap.size ≤ g) := Lib.hid (by omega)
  clear hb0 hw0 hw1 hg
  refine (right_any A L L.length c _ rb HR.out (HA.out.up HW1.out) rfl (by omega) HF.out).mono ?_
  rintro e w2 ⟨rfl, hb⟩
  have HB2 := Lib.hid (Blk.below HB1.out hb HB1.out.lt)
  have HW2 := Lib.hid (HW1.out.trans (hb.mono HW1.out.size))
  clear hb
  cases rb with
  | false =>
    have hfin : N0 = [] ∧ O0 = [] ∧ b0 = 1 := by have := HM.out; unfold putM at this; rw [HR.out] at this; simp only [Bool.false_eq_true, if_false, Prod.mk.injEq] at this; exact ⟨this.1.symm, this.2.1.symm, this.2.2.symm⟩
    obtain ⟨rfl, rfl, rfl⟩ := hfin
    go_wp2_with fail
    go_ret3
    exact ⟨none, none, 0, 0, 0, 0, rfl, rfl, rfl, RowAt.nil, RowAt.nil, HW2.out, Nat.le_refl _, Nat.le_refl _, fun a ha => by cases ha⟩
  | true =>
    have HPM := Lib.hid (putM_right HR.out (room := room) (s := s))
    obtain ⟨xo, bo, x, HFO, HFX, HNW⟩ : ∃ (xo : Sl) (bo : Bool) (x : Sl), Hid ((findS L (s.sum, s.len) = some xo ∧ bo = true) ∨ (findS L (s.sum, s.len) = none ∧ xo = zeroS ∧ bo = false)) ∧ Hid (FitS [x] ∧ x = (if bo then xo else s)) ∧ Hid (neS L x = withoutS L (s.sum, s.len)) := by
      cases hfo : findS L (s.sum, s.len) with
      | some x =>
        have hxm : x ∈ L := List.mem_of_find?_eq_some hfo
        have hxk : x.key = (s.sum, s.len) := by have := List.find?_some hfo; simpa using this
        exact ⟨x, true, x, Lib.hid (.inl ⟨rfl, rfl⟩), Lib.hid ⟨HF.out.sub fun y hy => by rw [List.mem_singleton.1 hy]; exact hxm, rfl⟩, Lib.hid (by rw [ne_without HR.out hxm, hxk])⟩
      | none =>
        have hno : ∀ y ∈ L, y.key ≠ (s.sum, s.len) := fun y hy => by have := List.find?_eq_none.1 hfo y hy; simpa using this
        refine ⟨zeroS, false, s, Lib.hid (.inr ⟨rfl, rfl, rfl⟩), Lib.hid ⟨HFS.out, rfl⟩, Lib.hid ?_⟩
        have e1 : neS L s = L := List.filter_eq_self.2 fun y hy => by have := hno y hy; simp; rintro rfl; exact this rfl
        have e2 : withoutS L (s.sum, s.len) = L := List.filter_eq_self.2 fun y hy => by have := hno y hy; simpa using this
        rw [e1, e2]
    have y0 := Blk.cell HB2.out 0
    have y1 := Blk.cell HB2.out 1
    simp only [List.getElem?_toArray, List.getElem?_cons_zero, List.getElem?_cons_succ] at y0 y1
    go_wp2_with fail
    refine (find_any A L L.length c s.sum s.len _ xo bo HFO.out (HA.out.up HW2.out) rfl (by omega)).mono ?_
    rintro e w3 ⟨rfl, hb⟩
    have HB3 := Lib.hid (Blk.below HB2.out hb HB2.out.lt)
    have HW3 := Lib.hid (HW2.out.trans (hb.mono HW2.out.size))
    clear hb y0 y1
    go_upto_region 4 with (fail)
    have hb9 : Blk (w3.alloc (.cells #[.int .u64 xo.sum, .int .i64 xo.len, .string xo.left, .string xo.right, .string xo.val] 63)) w3.heap.size 63 #[.int .u64 xo.sum, .int .i64 xo.len, .string xo.left, .string xo.right, .string xo.val] := Blk.new w3 _ _
    have hw4 : Below w3.heap.size w3 (w3.alloc (.cells #[.int .u64 xo.sum, .int .i64 xo.len, .string xo.left, .string xo.right, .string xo.val] 63)) := (Below.refl _ _).alloc (Nat.le_refl _) _
    obtain ⟨w4, hwe⟩ : ∃ w4, w4 = w3.alloc (.cells #[.int .u64 xo.sum, .int .i64 xo.len, .string xo.left, .string xo.right, .string xo.val] 63) := ⟨_, rfl⟩
    obtain ⟨g9, hg9⟩ : ∃ g9, g9 = w3.heap.size := ⟨_, rfl⟩
    rw [← hwe] at hb9 hw4 ⊢
    rw [← hg9] at hb9 ⊢
    have HB9 := Lib.hid hb9
    have HB4 := Lib.hid (Blk.below HB3.out hw4 HB3.out.lt)
    have HW4 := Lib.hid (HW3.out.trans (hw4.mono HW3.out.size))
    have HNE : Hid (g ≠ g9) := Lib.hid (by have := HB3.out.lt; omega)
    have HG9 : Hid (w.heap.size ≤ g9) := Lib.hid (by rw [hg9]; exact HW3.out.size)
    clear hb9 hw4 hwe hg9
    go_upto_if 24 with (fail)
    go_cut [9] (fun s9 wx => s9 = .pointer (some ⟨g9, 0, none⟩) ∧ LPutIn w wx g g9 s x)
    case first =>
      cases bo with
      | true =>
        have hxx := HFX.out.2
        simp only [if_true] at hxx
        subst hxx
        go_wp2_with fail
        go_meet
        exact ⟨rfl, HB9.out, HB4.out, HW4.out⟩
      | false =>
        have hxx := HFX.out.2
        simp only [Bool.false_eq_true, if_false] at hxx
        subst hxx
        obtain ⟨y0, y1, y2, y3, y4⟩ := slot_cells5 HB4.out
        obtain ⟨z0, z1, z2, z3, z4⟩ := slot_cells5 HB9.out
        have q0 := Blk.frozen HB9.out 0
        have q1 := Blk.frozen HB9.out 1
        have q2 := Blk.frozen HB9.out 2
        have q3 := Blk.frozen HB9.out 3
        have q4 := Blk.frozen HB9.out 4
        go_wp2_with fail
        go_meet
        exact ⟨rfl, ((((Blk.set_ HB9.out 0 _).set_ 1 _).set_ 2 _).set_ 3 _).set_ 4 _, ((((Blk.far HB4.out HNE.out _).far HNE.out _).far HNE.out _).far HNE.out _).far HNE.out _, ((((HW4.out.setCell HG9.out _).setCell HG9.out _).setCell HG9.out _).setCell HG9.out _).setCell HG9.out _⟩
    case rest =>
      obtain ⟨rfl, hV⟩ := hcut
      have HV := Lib.hid hV
      obtain ⟨y0, y1, y2, y3, y4⟩ := slot_cells5 HV.out.first
      clear hV
      go_wp2_with fail
      refine (front_any A L L.length c x _ (HA.out.up HV.out.below) rfl (by omega)).mono ?_
      rintro e w5 ⟨v, rfl, ho⟩
      have HGV := Lib.hid (Blk.below HV.out.given ho.2 HV.out.given.lt)
      have HW5 := Lib.hid (HV.out.below.trans (ho.2.mono HV.out.below.size))
      obtain ⟨A6, c6, rfl⟩ := ho.slice
      obtain ⟨g6, cs, rfl, hbk, hsz, hfl, hg6, -, hc6, hm6⟩ := own_filled ho (by simp)
      obtain ⟨m6, hm6e⟩ : ∃ m, (x :: neS L x).length = m := ⟨_, rfl⟩
      rw [hm6e] at hsz hfl hc6 ⊢
      have hm1 : 0 < m6 := by rw [← hm6e]; simp
      have hm2 : m6 ≤ 1000001 := by rw [← hm6e, List.length_cons]; have : (neS L x).length ≤ L.length := List.length_filter_le _ _; omega
      unfold maxLen at hm6
      have HBK := Lib.hid hbk
      have HFL := Lib.hid hfl
      have HM6 := Lib.hid hm6e
      have HG6 : Hid (w.heap.size ≤ g6) := Lib.hid (Nat.le_trans HV.out.below.size hg6)
      obtain ⟨v0, v1, v2, v3, v4, e0, e1, e2, e3, e4⟩ := five_cells cs 0 (by omega)
      have z0 := (Blk.cell HBK.out 0).trans e0
      have z1 := (Blk.cell HBK.out 1).trans e1
      have z2 := (Blk.cell HBK.out 2).trans e2
      have z3 := (Blk.cell HBK.out 3).trans e3
      have z4 := (Blk.cell HBK.out 4).trans e4
      have q0 := Blk.frozen HBK.out 0
      have q1 := Blk.frozen HBK.out 1
      have q2 := Blk.frozen HBK.out 2
      have q3 := Blk.frozen HBK.out 3
      have q4 := Blk.frozen HBK.out 4
      clear y0 y1 y2 y3 y4
      obtain ⟨y0, y1, y2, y3, y4⟩ := slot_cells5 HGV.out
      clear ho hbk hfl hm6e e0 e1 e2 e3 e4 hg6
      go_upto_region 8 with (fail)
      obtain ⟨w6, hw6⟩ : ∃ w6, w6 = ((((w5.setCell ⟨g6, 0, none⟩ (.int .u64 s.sum)).setCell ⟨g6, 1, none⟩ (.int .i64 s.len)).setCell ⟨g6, 2, none⟩ (.string s.left)).setCell ⟨g6, 3, none⟩ (.string s.right)).setCell ⟨g6, 4, none⟩ (.string s.val) := ⟨_, rfl⟩
      have HK6 : Hid (Blk w6 g6 63 (putAt cs 0 s.cells)) := Lib.hid (by rw [hw6]; exact ((((Blk.set_ HBK.out 0 _).set_ 1 _).set_ 2 _).set_ 3 _).set_ 4 _)
      have HW6 : Hid (Below w.heap.size w w6) := Lib.hid (by rw [hw6]; exact ((((HW5.out.setCell HG6.out _).setCell HG6.out _).setCell HG6.out _).setCell HG6.out _).setCell HG6.out _)
      obtain ⟨Y, hY⟩ : ∃ Y, Y = s :: neS L x := ⟨_, rfl⟩
      have hYl : Y.length = m6 := by rw [hY, List.length_cons, ← HM6.out, List.length_cons]
      have HYA : Hid (Y = allS L s) := Lib.hid (by rw [hY, HNW.out]; rfl)
      have HY6 : Hid (SlotsAt w6 (some ⟨g6, 0, none⟩) Y) := Lib.hid (by
        have h := HFL.out.first (y := s) (by omega)
        rw [← hY, ← hYl] at h
        exact h.at_ HK6.out)
      have HYL := Lib.hid hYl
      have HYF : Hid (FitS Y) := Lib.hid (by rw [HYA.out]; exact HF.out.all HFS.out)
      rw [← hw6]
      clear hw6 hY hYl z0 z1 z2 z3 z4 q0 q1 q2 q3 q4 y0 y1 y2 y3 y4 hsz
      obtain ⟨N, hN⟩ : ∃ N : Nat, min (max room 0) (m6 : Int) = (N : Int) := ⟨(min (max room 0) (m6 : Int)).toNat, by omega⟩
      have hN1 : N ≤ m6 := by omega
      have hN2 : N ≤ c6 := by omega
      have HNN : Hid (Y.take N = (allS L s).take room.toNat ∧ Y.drop N = (allS L s).drop room.toNat) := Lib.hid (by
        rw [← HYA.out]
        by_cases hr : room.toNat ≤ m6
        · have : N = room.toNat := by omega
          rw [this]; exact ⟨rfl, rfl⟩
        · have : N = m6 := by omega
          rw [this, List.take_of_length_le (by rw [HYL.out]; omega), List.take_of_length_le (by rw [HYL.out]; omega), List.drop_eq_nil_of_le (by rw [HYL.out]; omega), List.drop_eq_nil_of_le (by rw [HYL.out]; omega)]
          exact ⟨rfl, rfl⟩)
      go_upto_region 9 with (fail)
      clear hN
      by_cases hcn : c6 = N
      · have HD : Hid (SlotsAt w6 (some ⟨g6, 0, none⟩) (Y.drop N)) := Lib.hid (by rw [List.drop_eq_nil_of_le (by rw [HYL.out]; omega)]; exact RowAt.nil)
        subst hcn
        refine wp_region_noPanic ?_
        refine wp_region_held_drew (S := fun W => Below w6.heap.size w6 W) (by kernel_rfl) ((Below.refl w6.heap.size w6).drew) (fun hS0 => ?_)
        change wpAnyH _ _ _ _ _ 11 #[false, false, false, false, false, false, false, false, false, false, false] _ (World.drew _)
        refine wpAnyH_take (i := 0) (v := .slice (some ⟨g6, 0, none⟩) m6 c6) rfl (by kernel_rfl) (by kernel_rfl) (by kernel_rfl) (fun _ _ _ h => h) (Or.inl ⟨by rfl, fun w' hS' => by exact op_move rfl rfl⟩) hS0 ?_
        change wpAnyH _ _ _ _ _ _ _ (Act.put _ (some 37) (.slice (some ⟨g6, 0, none⟩) m6 c6)) _
        simp only [Act.put, List.setIfInBounds_toArray, List.set_cons_zero, List.set_cons_succ]
        refine wpAnyH_take (i := 1) (v := .int .i64 (c6 : Int)) rfl (by kernel_rfl) (by kernel_rfl) (by kernel_rfl) (fun _ _ _ h => h) (Or.inl ⟨by rfl, fun w' hS' => by exact op_move rfl rfl⟩) hS0 ?_
        change wpAnyH _ _ _ _ _ _ _ (Act.put _ (some 38) (.int .i64 (c6 : Int))) _
        simp only [Act.put, List.setIfInBounds_toArray, List.set_cons_zero, List.set_cons_succ]
        refine wpAnyH_take (i := 2) (v := .slice (some ⟨g6, 0, none⟩) c6 c6) rfl (by kernel_rfl) (by kernel_rfl) (by kernel_rfl) (fun _ _ _ h => h) (Or.inl ⟨by rfl, fun w' hS' => by go_simp⟩) hS0 ?_
        change wpAnyH _ _ _ _ _ _ _ (Act.put _ (some 39) (.slice (some ⟨g6, 0, none⟩) c6 c6)) _
        simp only [Act.put, List.setIfInBounds_toArray, List.set_cons_zero, List.set_cons_succ]
        refine wpAnyH_take (i := 4) (v := .slice (some ⟨g6, 0, none⟩) m6 c6) rfl (by kernel_rfl) (by kernel_rfl) (by kernel_rfl) (fun _ _ _ h => h) (Or.inl ⟨by rfl, fun w' hS' => by exact op_move rfl rfl⟩) hS0 ?_
        change wpAnyH _ _ _ _ _ _ _ (Act.put _ (some 41) (.slice (some ⟨g6, 0, none⟩) m6 c6)) _
        simp only [Act.put, List.setIfInBounds_toArray, List.set_cons_zero, List.set_cons_succ]
        refine wpAnyH_take (i := 5) (v := .int .i64 (c6 : Int)) rfl (by kernel_rfl) (by kernel_rfl) (by kernel_rfl) (fun _ _ _ h => h) (Or.inl ⟨by rfl, fun w' hS' => by exact op_move rfl rfl⟩) hS0 ?_
        change wpAnyH _ _ _ _ _ _ _ (Act.put _ (some 42) (.int .i64 (c6 : Int))) _
        simp only [Act.put, List.setIfInBounds_toArray, List.set_cons_zero, List.set_cons_succ]
        refine wpAnyH_take (i := 6) (v := .slice (some ⟨g6, 0, none⟩) (m6 - c6) (0)) rfl (by kernel_rfl) (by kernel_rfl) (by kernel_rfl) (fun _ _ _ h => h) (Or.inl ⟨by rfl, fun w' hS' => by go_simp⟩) hS0 ?_
        change wpAnyH _ _ _ _ _ _ _ (Act.put _ (some 43) (.slice (some ⟨g6, 0, none⟩) (m6 - c6) (0))) _
        simp only [Act.put, List.setIfInBounds_toArray, List.set_cons_zero, List.set_cons_succ]
        refine wpAnyH_ready (rs := [3]) (by kernel_rfl) (by simp) (AllReadyH.cons rfl (fun K hK => ?_) (AllReadyH.nil))
        · skip
          go_simp
          refine (owns_any (some ⟨g6, 0, none⟩) (Y.take c6) _ (c6) _ ((HY6.out.take c6).up hS0) (by rw [List.length_take, HYL.out]; omega) (by rw [List.length_take, HYL.out]; omega) (HYF.out.sub fun y hy => List.mem_of_mem_take hy)).mono ?_
          rintro e W1 ⟨gr3, n4, c5, rfl, hn, hM, hb, hg⟩
          have HRAm := Lib.hid hM
          have HRAb := Lib.hid hb
          have HRAg := Lib.hid hg
          have HRAn := Lib.hid hn
          have HRAs := Lib.hid hS0
          clear hM hb hg hn
          refine hK.out _ _ (hS0.trans (HRAb.out.mono hS0.size)) (fun hS2 => ?_)
          clear hK K
          simp only [List.setIfInBounds_toArray, List.set_cons_zero, List.set_cons_succ]
          refine wpAnyH_ready (rs := [7]) (by kernel_rfl) (by simp) (AllReadyH.cons rfl (fun K hK => ?_) (AllReadyH.nil))
          · skip
            go_simp
            refine (owns_any (some ⟨g6, 0, none⟩) (Y.drop c6) _ (0) _ (HD.out.up hS2) (by rw [List.length_drop, HYL.out]; omega) (by rw [List.length_drop, HYL.out]; omega) (HYF.out.sub fun y hy => List.mem_of_mem_drop hy)).mono ?_
            rintro e W6 ⟨gr8, n9, c10, rfl, hn, hM, hb, hg⟩
            have HRBm := Lib.hid hM
            have HRBb := Lib.hid hb
            have HRBg := Lib.hid hg
            have HRBn := Lib.hid hn
            have HRBs := Lib.hid hS2
            clear hM hb hg hn
            refine hK.out _ _ (hS2.trans (HRBb.out.mono hS2.size)) (fun hS7 => ?_)
            clear hK K
            simp only [List.setIfInBounds_toArray, List.set_cons_zero, List.set_cons_succ]
            refine wpAnyH_take (i := 8) (v := .slice (some ⟨gr3, 0, none⟩) n4 c5) rfl (by kernel_rfl) (by kernel_rfl) (by kernel_rfl) (fun _ _ _ h => h) (Or.inl ⟨by rfl, fun w' hS' => by exact op_assign rfl rfl⟩) hS7 ?_
            change wpAnyH _ _ _ _ _ _ _ (Act.put _ (some 6) (.slice (some ⟨gr3, 0, none⟩) n4 c5)) _
            simp only [Act.put, List.setIfInBounds_toArray, List.set_cons_zero, List.set_cons_succ]
            refine wpAnyH_take (i := 9) (v := .slice (some ⟨gr8, 0, none⟩) n9 c10) rfl (by kernel_rfl) (by kernel_rfl) (by kernel_rfl) (fun _ _ _ h => h) (Or.inl ⟨by rfl, fun w' hS' => by exact op_assign rfl rfl⟩) hS7 ?_
            change wpAnyH _ _ _ _ _ _ _ (Act.put _ (some 7) (.slice (some ⟨gr8, 0, none⟩) n9 c10)) _
            simp only [Act.put, List.setIfInBounds_toArray, List.set_cons_zero, List.set_cons_succ]
            refine wpAnyH_take (i := 10) (v := .int .i64 0) rfl (by kernel_rfl) (by kernel_rfl) (by kernel_rfl) (fun _ _ _ h => h) (Or.inl ⟨by rfl, fun w' hS' => by exact op_assign rfl rfl⟩) hS7 ?_
            change wpAnyH _ _ _ _ _ _ _ (Act.put _ (some 8) (.int .i64 0)) _
            simp only [Act.put, List.setIfInBounds_toArray, List.set_cons_zero, List.set_cons_succ]
            refine wpAnyH_done (by kernel_rfl) ?_ _
            refine NoPanic.normal ?_
            have HSF := Lib.hid hS7
            have HN0 : Hid (N0 = Y.take c6 ∧ O0 = Y.drop c6 ∧ b0 = 0) := Lib.hid (by have h := HM.out; rw [HPM.out] at h; simp only [Prod.mk.injEq] at h; exact ⟨by rw [HNN.out.1, h.1], by rw [HNN.out.2, h.2.1], h.2.2.symm⟩)
            obtain ⟨rfl, rfl, rfl⟩ := HN0.out
            go_wp2_with fail
            go_ret3
            exact ⟨some ⟨gr3, 0, none⟩, some ⟨gr8, 0, none⟩, n4, n9, c5, c10, rfl, HRAn.out.1, HRBn.out.1, HRAm.out.up HRBb.out, HRBm.out, HW6.out.trans (HSF.out.mono HW6.out.size), HRAn.out.2, HRBn.out.2, fun a ha => by injection ha with ha; rw [← ha]; exact Nat.le_trans HW6.out.size (Nat.le_trans HRAs.out.size HRAg.out)⟩

      · have HD : Hid (SlotsAt w6 (some ⟨g6, N * 5, none⟩) (Y.drop N)) := Lib.hid (by
          have := HY6.out.drop N c6 (by rw [HYL.out]; exact hN1) (by rw [HYL.out]; omega)
          rw [if_neg hcn] at this
          simpa [add_zero_block] using this)
        refine wp_region_noPanic ?_
        refine wp_region_held_drew (S := fun W => Below w6.heap.size w6 W) (by kernel_rfl) ((Below.refl w6.heap.size w6).drew) (fun hS0 => ?_)
        change wpAnyH _ _ _ _ _ 11 #[false, false, false, false, false, false, false, false, false, false, false] _ (World.drew _)
        refine wpAnyH_take (i := 0) (v := .slice (some ⟨g6, 0, none⟩) m6 c6) rfl (by kernel_rfl) (by kernel_rfl) (by kernel_rfl) (fun _ _ _ h => h) (Or.inl ⟨by rfl, fun w' hS' => by exact op_move rfl rfl⟩) hS0 ?_
        change wpAnyH _ _ _ _ _ _ _ (Act.put _ (some 37) (.slice (some ⟨g6, 0, none⟩) m6 c6)) _
        simp only [Act.put, List.setIfInBounds_toArray, List.set_cons_zero, List.set_cons_succ]
        refine wpAnyH_take (i := 1) (v := .int .i64 (N : Int)) rfl (by kernel_rfl) (by kernel_rfl) (by kernel_rfl) (fun _ _ _ h => h) (Or.inl ⟨by rfl, fun w' hS' => by exact op_move rfl rfl⟩) hS0 ?_
        change wpAnyH _ _ _ _ _ _ _ (Act.put _ (some 38) (.int .i64 (N : Int))) _
        simp only [Act.put, List.setIfInBounds_toArray, List.set_cons_zero, List.set_cons_succ]
        refine wpAnyH_take (i := 2) (v := .slice (some ⟨g6, 0, none⟩) N c6) rfl (by kernel_rfl) (by kernel_rfl) (by kernel_rfl) (fun _ _ _ h => h) (Or.inl ⟨by rfl, fun w' hS' => by go_simp⟩) hS0 ?_
        change wpAnyH _ _ _ _ _ _ _ (Act.put _ (some 39) (.slice (some ⟨g6, 0, none⟩) N c6)) _
        simp only [Act.put, List.setIfInBounds_toArray, List.set_cons_zero, List.set_cons_succ]
        refine wpAnyH_take (i := 4) (v := .slice (some ⟨g6, 0, none⟩) m6 c6) rfl (by kernel_rfl) (by kernel_rfl) (by kernel_rfl) (fun _ _ _ h => h) (Or.inl ⟨by rfl, fun w' hS' => by exact op_move rfl rfl⟩) hS0 ?_
        change wpAnyH _ _ _ _ _ _ _ (Act.put _ (some 41) (.slice (some ⟨g6, 0, none⟩) m6 c6)) _
        simp only [Act.put, List.setIfInBounds_toArray, List.set_cons_zero, List.set_cons_succ]
        refine wpAnyH_take (i := 5) (v := .int .i64 (N : Int)) rfl (by kernel_rfl) (by kernel_rfl) (by kernel_rfl) (fun _ _ _ h => h) (Or.inl ⟨by rfl, fun w' hS' => by exact op_move rfl rfl⟩) hS0 ?_
        change wpAnyH _ _ _ _ _ _ _ (Act.put _ (some 42) (.int .i64 (N : Int))) _
        simp only [Act.put, List.setIfInBounds_toArray, List.set_cons_zero, List.set_cons_succ]
        refine wpAnyH_take (i := 6) (v := .slice (some ⟨g6, N * 5, none⟩) (m6 - N) (c6 - N)) rfl (by kernel_rfl) (by kernel_rfl) (by kernel_rfl) (fun _ _ _ h => h) (Or.inl ⟨by rfl, fun w' hS' => by go_simp⟩) hS0 ?_
        change wpAnyH _ _ _ _ _ _ _ (Act.put _ (some 43) (.slice (some ⟨g6, N * 5, none⟩) (m6 - N) (c6 - N))) _
        simp only [Act.put, List.setIfInBounds_toArray, List.set_cons_zero, List.set_cons_succ]
        refine wpAnyH_ready (rs := [3]) (by kernel_rfl) (by simp) (AllReadyH.cons rfl (fun K hK => ?_) (AllReadyH.nil))
        · skip
          go_simp
          refine (owns_any (some ⟨g6, 0, none⟩) (Y.take N) _ (c6) _ ((HY6.out.take N).up hS0) (by rw [List.length_take, HYL.out]; omega) (by rw [List.length_take, HYL.out]; omega) (HYF.out.sub fun y hy => List.mem_of_mem_take hy)).mono ?_
          rintro e W1 ⟨gr3, n4, c5, rfl, hn, hM, hb, hg⟩
          have HRAm := Lib.hid hM
          have HRAb := Lib.hid hb
          have HRAg := Lib.hid hg
          have HRAn := Lib.hid hn
          have HRAs := Lib.hid hS0
          clear hM hb hg hn
          refine hK.out _ _ (hS0.trans (HRAb.out.mono hS0.size)) (fun hS2 => ?_)
          clear hK K
          simp only [List.setIfInBounds_toArray, List.set_cons_zero, List.set_cons_succ]
          refine wpAnyH_ready (rs := [7]) (by kernel_rfl) (by simp) (AllReadyH.cons rfl (fun K hK => ?_) (AllReadyH.nil))
          · skip
            go_simp
            refine (owns_any (some ⟨g6, N * 5, none⟩) (Y.drop N) _ (c6 - N) _ (HD.out.up hS2) (by rw [List.length_drop, HYL.out]) (by rw [List.length_drop, HYL.out]; omega) (HYF.out.sub fun y hy => List.mem_of_mem_drop hy)).mono ?_
            rintro e W6 ⟨gr8, n9, c10, rfl, hn, hM, hb, hg⟩
            have HRBm := Lib.hid hM
            have HRBb := Lib.hid hb
            have HRBg := Lib.hid hg
            have HRBn := Lib.hid hn
            have HRBs := Lib.hid hS2
            clear hM hb hg hn
            refine hK.out _ _ (hS2.trans (HRBb.out.mono hS2.size)) (fun hS7 => ?_)
            clear hK K
            simp only [List.setIfInBounds_toArray, List.set_cons_zero, List.set_cons_succ]
            refine wpAnyH_take (i := 8) (v := .slice (some ⟨gr3, 0, none⟩) n4 c5) rfl (by kernel_rfl) (by kernel_rfl) (by kernel_rfl) (fun _ _ _ h => h) (Or.inl ⟨by rfl, fun w' hS' => by exact op_assign rfl rfl⟩) hS7 ?_
            change wpAnyH _ _ _ _ _ _ _ (Act.put _ (some 6) (.slice (some ⟨gr3, 0, none⟩) n4 c5)) _
            simp only [Act.put, List.setIfInBounds_toArray, List.set_cons_zero, List.set_cons_succ]
            refine wpAnyH_take (i := 9) (v := .slice (some ⟨gr8, 0, none⟩) n9 c10) rfl (by kernel_rfl) (by kernel_rfl) (by kernel_rfl) (fun _ _ _ h => h) (Or.inl ⟨by rfl, fun w' hS' => by exact op_assign rfl rfl⟩) hS7 ?_
            change wpAnyH _ _ _ _ _ _ _ (Act.put _ (some 7) (.slice (some ⟨gr8, 0, none⟩) n9 c10)) _
            simp only [Act.put, List.setIfInBounds_toArray, List.set_cons_zero, List.set_cons_succ]
            refine wpAnyH_take (i := 10) (v := .int .i64 0) rfl (by kernel_rfl) (by kernel_rfl) (by kernel_rfl) (fun _ _ _ h => h) (Or.inl ⟨by rfl, fun w' hS' => by exact op_assign rfl rfl⟩) hS7 ?_
            change wpAnyH _ _ _ _ _ _ _ (Act.put _ (some 8) (.int .i64 0)) _
            simp only [Act.put, List.setIfInBounds_toArray, List.set_cons_zero, List.set_cons_succ]
            refine wpAnyH_done (by kernel_rfl) ?_ _
            refine NoPanic.normal ?_
            have HSF := Lib.hid hS7
            have HN0 : Hid (N0 = Y.take N ∧ O0 = Y.drop N ∧ b0 = 0) := Lib.hid (by have h := HM.out; rw [HPM.out] at h; simp only [Prod.mk.injEq] at h; exact ⟨by rw [HNN.out.1, h.1], by rw [HNN.out.2, h.2.1], h.2.2.symm⟩)
            obtain ⟨rfl, rfl, rfl⟩ := HN0.out
            go_wp2_with fail
            go_ret3
            exact ⟨some ⟨gr3, 0, none⟩, some ⟨gr8, 0, none⟩, n4, n9, c5, c10, rfl, HRAn.out.1, HRBn.out.1, HRAm.out.up HRBb.out, HRBm.out, HW6.out.trans (HSF.out.mono HW6.out.size), HRAn.out.2, HRBn.out.2, fun a ha => by injection ha with ha; rw [← ha]; exact Nat.le_trans HW6.out.size (Nat.le_trans HRAs.out.size HRAg.out)⟩


end Go.Proofs.Ytjifmfgfmciaeaa
