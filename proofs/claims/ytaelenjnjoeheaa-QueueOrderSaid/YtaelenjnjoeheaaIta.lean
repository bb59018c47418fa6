/-
  Package queue: Take: what it tells, in new memory; nothing that was there is changed.
-/
import Derived.Test.YtaelenjnjoeheaaIpu
namespace Go.Proofs.Ytaelenjnjoeheaa
open Go.RowKit P16

/-- what a Take tells, in new memory -/
def TakeNew (x0 : Tk) (r0 : Int) (b0 : Bool) (T0 : List Tk) (e0 : Int) (w : World) (e : Ending) (w' : World) : Prop :=
  ∃ (A : Option Addr) (n c : Nat), e = .returned (.tuple #[.agg #[.int .i64 x0.req, .int .i64 x0.slot, .string x0.left, .string x0.right], .agg #[.int .i64 r0, .bool b0, .slice A n c], .int .i64 e0]) ∧ T0.length = n ∧ n ≤ c ∧ TasksNew w.heap.size w' A T0 ∧ Below w.heap.size w w'
/-- what a Take tells -/
def TakeTold (x0 : Tk) (r0 : Int) (b0 : Bool) (T0 : List Tk) (e0 : Int) (w : World) (e : Ending) (w' : World) : Prop :=
  ∃ (A : Option Addr) (n c : Nat), e = .returned (.tuple #[.agg #[.int .i64 x0.req, .int .i64 x0.slot, .string x0.left, .string x0.right], .agg #[.int .i64 r0, .bool b0, .slice A n c], .int .i64 e0]) ∧ T0.length = n ∧ n ≤ c ∧ TasksAt w' A T0 ∧ Below w.heap.size w w'
theorem take_parts {x0 x1 : Tk} {r0 r1 : Int} {b0 b1 : Bool} {T0 T1 : List Tk} {e0 e1 : Int} (h : (x1, (⟨r1, b1, T1⟩ : Qu), e1) = (x0, (⟨r0, b0, T0⟩ : Qu), e0)) : x0 = x1 ∧ r0 = r1 ∧ b0 = b1 ∧ T0 = T1 ∧ e0 = e1 := by
  injection h with h1 h2
  injection h2 with h2 h3
  injection h2 with h4 h5 h6
  exact ⟨h1.symm, h4.symm, h5.symm, h6.symm, h3.symm⟩
/-- the first task's cells, in all worlds behind -/
theorem first_cells {w : World} {A : Option Addr} {L : List Tk} (h : TasksAt w A L) {x : Tk} (hk : L[0]? = some x) :
    ∃ a, A = some a ∧ ∀ W, Below w.heap.size w W → W.cell? a = some (.int .i64 x.req) ∧ W.cell? ⟨a.block, a.off + 1, none⟩ = some (.int .i64 x.slot) ∧ W.cell? ⟨a.block, a.off + 2, none⟩ = some (.string x.left) ∧ W.cell? ⟨a.block, a.off + 3, none⟩ = some (.string x.right) := by
  obtain ⟨a, e, hb, _⟩ := tasks_first h hk
  refine ⟨a, e, fun W hW => ?_⟩
  obtain ⟨a', e', _, c0, c1, c2, c3⟩ := tasks_first (h.up hW) hk
  rw [e] at e'
  injection e' with e'
  subst e'
  exact ⟨c0, c1, c2, c3⟩

set_option maxHeartbeats 8000000 in
set_option maxRecDepth 100000 in
theorem itake_any (r : Int) (cl : Bool) (T : List Tk) (A : Option Addr) (n c : Nat) (w : World) (x0 : Tk) (r0 : Int) (b0 : Bool) (T0 : List Tk) (e0 : Int) (ht : takeQ ⟨r, cl, T⟩ = (x0, ⟨r0, b0, T0⟩, e0))
    (ha : TasksAt w A T) (hn : T.length = n) (hc : n ≤ c) (hf : FitT T) :
    Calls Try.prog 15 #[.agg #[.int .i64 r, .bool cl, .slice A n c]] w (TakeNew x0 r0 b0 T0 e0 w) := by
  obtain ⟨bo, hbo⟩ : ∃ bo, rightB ⟨r, cl, T⟩ = bo := ⟨_, rfl⟩
  have HBO := Lib.hid hbo
  have HT := Lib.hid ht
  have HA := Lib.hid ha
  have HF := Lib.hid hf
  have HN := Lib.hid hn
  have HC := Lib.hid hc
  clear hbo ht ha hf hn hc
  go_enter Try.func15, Try.ntmps15
  go_upto_region 1 with (fail)
  have hb0 : Blk (((w.alloc (.cells #[.int .i64 r, .bool cl, .slice A n c] 24)).alloc (.cells #[.int .i64 0, .int .i64 0, .string ⟨#[]⟩, .string ⟨#[]⟩] 39)).alloc (.cells #[.int .i64 0, .bool false, .slice none 0 0] 24)) w.heap.size 24 #[.int .i64 r, .bool cl, .slice A n c] := ((Blk.new w _ _).alloc _).alloc _
  have hb1 : Blk (((w.alloc (.cells #[.int .i64 r, .bool cl, .slice A n c] 24)).alloc (.cells #[.int .i64 0, .int .i64 0, .string ⟨#[]⟩, .string ⟨#[]⟩] 39)).alloc (.cells #[.int .i64 0, .bool false, .slice none 0 0] 24)) (w.heap.size + 1) 39 #[.int .i64 0, .int .i64 0, .string ⟨#[]⟩, .string ⟨#[]⟩] := by
    have := Blk.new (w.alloc (.cells #[.int .i64 r, .bool cl, .slice A n c] 24)) 39 #[.int .i64 0, .int .i64 0, .string ⟨#[]⟩, .string ⟨#[]⟩]
    have h2 : Blk ((w.alloc (.cells #[.int .i64 r, .bool cl, .slice A n c] 24)).alloc (.cells #[.int .i64 0, .int .i64 0, .string ⟨#[]⟩, .string ⟨#[]⟩] 39)) (w.heap.size + 1) 39 #[.int .i64 0, .int .i64 0, .string ⟨#[]⟩, .string ⟨#[]⟩] := by simpa [Nat.add_assoc] using this
    exact (h2.alloc _)
  have hb2 : Blk (((w.alloc (.cells #[.int .i64 r, .bool cl, .slice A n c] 24)).alloc (.cells #[.int .i64 0, .int .i64 0, .string ⟨#[]⟩, .string ⟨#[]⟩] 39)).alloc (.cells #[.int .i64 0, .bool false, .slice none 0 0] 24)) (w.heap.size + 2) 24 #[.int .i64 0, .bool false, .slice none 0 0] := by
    have := Blk.new ((w.alloc (.cells #[.int .i64 r, .bool cl, .slice A n c] 24)).alloc (.cells #[.int .i64 0, .int .i64 0, .string ⟨#[]⟩, .string ⟨#[]⟩] 39)) 24 #[.int .i64 0, .bool false, .slice none 0 0]
    have h2 : Blk (((w.alloc (.cells #[.int .i64 r, .bool cl, .slice A n c] 24)).alloc (.cells #[.int .i64 0, .int .i64 0, .string ⟨#[]⟩, .string ⟨#[]⟩] 39)).alloc (.cells #[.int .i64 0, .bool false, .slice none 0 0] 24)) (w.heap.size + 2) 24 #[.int .i64 0, .bool false, .slice none 0 0] := by simpa [Nat.add_assoc] using this
    exact h2
  have hw0 : Below w.heap.size w (((w.alloc (.cells #[.int .i64 r, .bool cl, .slice A n c] 24)).alloc (.cells #[.int .i64 0, .int .i64 0, .string ⟨#[]⟩, .string ⟨#[]⟩] 39)).alloc (.cells #[.int .i64 0, .bool false, .slice none 0 0] 24)) := (((Below.refl _ _).alloc (Nat.le_refl _) _).alloc (by simp) _).alloc (by simp <;> omega) _
  obtain ⟨w1, hw1⟩ : ∃ w1, w1 = ((w.alloc (.cells #[.int .i64 r, .bool cl, .slice A n c] 24)).alloc (.cells #[.int .i64 0, .int .i64 0, .string ⟨#[]⟩, .string ⟨#[]⟩] 39)).alloc (.cells #[.int .i64 0, .bool false, .slice none 0 0] 24) := ⟨_, rfl⟩
  obtain ⟨gq, hgq⟩ : ∃ g, g = w.heap.size := ⟨_, rfl⟩
  obtain ⟨gt, hgt⟩ : ∃ g, g = w.heap.size + 1 := ⟨_, rfl⟩
  obtain ⟨gr, hgr⟩ : ∃ g, g = w.heap.size + 2 := ⟨_, rfl⟩
  rw [← hw1] at hb0 hb1 hb2 hw0 ⊢
  rw [← hgr] at hb2 ⊢
  rw [← hgt] at hb1 ⊢
  rw [← hgq] at hb0
  have HGq : Hid (w.heap.size ≤ gq) := Lib.hid (by omega)
  have HGt : Hid (w.heap.size ≤ gt) := Lib.hid (by omega)
  have HGr : Hid (w.heap.size ≤ gr) := Lib.hid (by omega)
  have HNtq : Hid (gt ≠ gq) := Lib.hid (by omega)
  have HNrq : Hid (gr ≠ gq) := Lib.hid (by omega)
  have HNrt : Hid (gr ≠ gt) := Lib.hid (by omega)
  rw [show (⟨w.heap.size, 0, none⟩ : Addr) = ⟨gq, 0, none⟩ from by rw [hgq]]
  have HBq := Lib.hid hb0
  have HBt := Lib.hid hb1
  have HBr := Lib.hid hb2
  have HW := Lib.hid hw0
  clear hb0 hb1 hb2 hw0 hw1 hgq hgt hgr

  obtain ⟨y0, y1, y2⟩ := blk3 HBq.out
  go_wp2_with fail
  refine (iright_any r cl T A n c bo HBO.out _ HN.out).mono ?_
  rintro e w2 ⟨rfl, hb2⟩
  have HBq := Lib.hid (HBq.out.below hb2 HBq.out.lt)
  have HBt := Lib.hid (HBt.out.below hb2 HBt.out.lt)
  have HBr := Lib.hid (HBr.out.below hb2 HBr.out.lt)
  have HW := Lib.hid (below_step HW.out hb2)

  clear hb2 y0 y1 y2
  cases bo with
  | false =>
    have HT : Hid (x0 = zeroT ∧ r0 = 0 ∧ b0 = false ∧ T0 = [] ∧ e0 = 1) := Lib.hid (by have h := HT.out; rw [take_bad HBO.out] at h; exact take_parts h)
    obtain ⟨z0, z1, z2⟩ := blk3 HBr.out
    obtain ⟨u0, u1, u2, u3⟩ := blk4 HBt.out
    have q0 := Blk.frozen HBr.out 0
    have q1 := Blk.frozen HBr.out 1
    have q2 := Blk.frozen HBr.out 2
    have p0 := Blk.frozen HBt.out 0
    have p1 := Blk.frozen HBt.out 1
    have p2 := Blk.frozen HBt.out 2
    have p3 := Blk.frozen HBt.out 3
    have hne := HNrt.out
    have hnf := HNrt.out.symm
    go_wp2_with fail
    refine bodyPost_ret (v := .tuple #[.agg #[.int .i64 0, .int .i64 0, .string ⟨#[]⟩, .string ⟨#[]⟩], .agg #[.int .i64 0, .bool false, .slice none 0 0], .int .i64 1]) (by simp [results, Try.results15, go_sem, z0, z1, z2, u0, u1, u2, u3]) rfl ?_
    rw [HT.out.1, HT.out.2.1, HT.out.2.2.1, HT.out.2.2.2.1, HT.out.2.2.2.2]
    exact ⟨none, 0, 0, rfl, rfl, Nat.le_refl _, TasksNew.nil, ((((((HW.out.setCell HGt.out _).setCell HGt.out _).setCell HGt.out _).setCell HGt.out _).setCell HGr.out _).setCell HGr.out _).setCell HGr.out _⟩

  | true =>
    obtain ⟨y0, y1, y2⟩ := blk3 HBq.out
    cases T with
    | nil =>
      obtain rfl : n = 0 := HN.out.symm
      have HT : Hid (x0 = zeroT ∧ r0 = 0 ∧ b0 = false ∧ T0 = [] ∧ e0 = 10) := Lib.hid (by have h := HT.out; rw [take_none HBO.out] at h; exact take_parts h)
      obtain ⟨z0, z1, z2⟩ := blk3 HBr.out
      obtain ⟨u0, u1, u2, u3⟩ := blk4 HBt.out
      have q0 := Blk.frozen HBr.out 0
      have q1 := Blk.frozen HBr.out 1
      have q2 := Blk.frozen HBr.out 2
      have p0 := Blk.frozen HBt.out 0
      have p1 := Blk.frozen HBt.out 1
      have p2 := Blk.frozen HBt.out 2
      have p3 := Blk.frozen HBt.out 3
      have hne := HNrt.out
      have hnf := HNrt.out.symm
      go_wp2_with fail
      refine bodyPost_ret (v := .tuple #[.agg #[.int .i64 0, .int .i64 0, .string ⟨#[]⟩, .string ⟨#[]⟩], .agg #[.int .i64 0, .bool false, .slice none 0 0], .int .i64 10]) (by simp [results, Try.results15, go_sem, z0, z1, z2, u0, u1, u2, u3]) rfl ?_
      rw [HT.out.1, HT.out.2.1, HT.out.2.2.1, HT.out.2.2.2.1, HT.out.2.2.2.2]
      exact ⟨none, 0, 0, rfl, rfl, Nat.le_refl _, TasksNew.nil, ((((((HW.out.setCell HGt.out _).setCell HGt.out _).setCell HGt.out _).setCell HGt.out _).setCell HGr.out _).setCell HGr.out _).setCell HGr.out _⟩

    | cons x T' =>
      have e3 := (right_iff.1 HBO.out).2
      simp only [HN.out] at e3
      have hn1 : 1 ≤ n := by have := HN.out; simp only [List.length_cons] at this; omega
      have HN1 := Lib.hid hn1
      have HN2 : Hid (T'.length = n - 1) := Lib.hid (by have := HN.out; simp only [List.length_cons] at this; omega)
      have HN3 : Hid (n - 1 ≤ 1048576) := Lib.hid (by omega)
      have HFX := Lib.hid (HF.out x (by simp))
      have HFT : Hid (FitT T') := Lib.hid (HF.out.sub fun y hy => by simp [hy])
      obtain ⟨a, rfl, hx⟩ := first_cells HA.out (x := x) rfl
      have HX := Lib.hid hx
      have HT : Hid (x0 = x ∧ r0 = r ∧ b0 = cl ∧ T0 = T' ∧ e0 = 0) := Lib.hid (by have h := HT.out; rw [take_ok HBO.out] at h; exact take_parts h)
      have t0 : ((n : Int) == 0) = false := by rw [beq_eq_false_iff_ne]; omega
      clear e3 hx
      go_upto_region 5 with (fail)
      refine wp_region_noPanic ?_
      refine wp_region_held_drew (S := fun W => Blk W gq 24 #[.int .i64 r, .bool cl, .slice (some a) n c] ∧ Below w.heap.size w W) (by kernel_rfl) (⟨HBq.out.drew, HW.out.drew⟩) (fun hS0 => ?_)
      change wpAnyH _ _ _ _ _ 15 #[false, false, false, false, false, false, false, false, false, false, false, false, false, false, false] _ (World.drew _)
      refine wpAnyH_take (i := 0) (v := .pointer (some ⟨gq, 2, none⟩)) rfl (by kernel_rfl) (by kernel_rfl) (by kernel_rfl) (fun _ _ _ h => h) (Or.inl ⟨by rfl, fun w' hS' => by go_simp⟩) hS0 ?_
      change wpAnyH _ _ _ _ _ _ _ (Act.put _ (some 16) (.pointer (some ⟨gq, 2, none⟩))) _
      simp only [Act.put, List.setIfInBounds_toArray, List.set_cons_zero, List.set_cons_succ]
      refine wpAnyH_take (i := 1) (v := .slice (some a) n c) rfl (by kernel_rfl) (by kernel_rfl) (by kernel_rfl) (fun _ _ _ h => h) (Or.inl ⟨by rfl, fun w' hS' => by obtain ⟨y0, y1, y2⟩ := blk3 hS'.1; go_simp⟩) hS0 ?_
      change wpAnyH _ _ _ _ _ _ _ (Act.put _ (some 17) (.slice (some a) n c)) _
      simp only [Act.put, List.setIfInBounds_toArray, List.set_cons_zero, List.set_cons_succ]
      refine wpAnyH_take (i := 2) (v := .pointer (some a)) rfl (by kernel_rfl) (by kernel_rfl) (by kernel_rfl) (fun _ _ _ h => h) (Or.inl ⟨by rfl, fun w' hS' => by go_simp; intro h; exact absurd h (by omega)⟩) hS0 ?_
      change wpAnyH _ _ _ _ _ _ _ (Act.put _ (some 18) (.pointer (some a))) _
      simp only [Act.put, List.setIfInBounds_toArray, List.set_cons_zero, List.set_cons_succ]
      refine wpAnyH_take (i := 3) (v := .agg #[.int .i64 x.req, .int .i64 x.slot, .string x.left, .string x.right]) rfl (by kernel_rfl) (by kernel_rfl) (by kernel_rfl) (fun _ _ _ h => h) (Or.inl ⟨by rfl, fun w' hS' => by obtain ⟨x0, x1, x2, x3⟩ := HX.out w' hS'.2; go_simp⟩) hS0 ?_
      change wpAnyH _ _ _ _ _ _ _ (Act.put _ (some 19) (.agg #[.int .i64 x.req, .int .i64 x.slot, .string x.left, .string x.right])) _
      simp only [Act.put, List.setIfInBounds_toArray, List.set_cons_zero, List.set_cons_succ]
      refine wpAnyH_take (i := 5) (v := .agg #[.int .i64 r, .bool cl, .slice (some a) n c]) rfl (by kernel_rfl) (by kernel_rfl) (by kernel_rfl) (fun _ _ _ h => h) (Or.inl ⟨by rfl, fun w' hS' => by obtain ⟨y0, y1, y2⟩ := blk3 hS'.1; go_simp⟩) hS0 ?_
      change wpAnyH _ _ _ _ _ _ _ (Act.put _ (some 21) (.agg #[.int .i64 r, .bool cl, .slice (some a) n c])) _
      simp only [Act.put, List.setIfInBounds_toArray, List.set_cons_zero, List.set_cons_succ]
      refine wpAnyH_take (i := 6) (v := .agg #[.int .i64 r, .bool cl, .slice (some a) n c]) rfl (by kernel_rfl) (by kernel_rfl) (by kernel_rfl) (fun _ _ _ h => h) (Or.inl ⟨by rfl, fun w' hS' => by obtain ⟨y0, y1, y2⟩ := blk3 hS'.1; go_simp⟩) hS0 ?_
      change wpAnyH _ _ _ _ _ _ _ (Act.put _ (some 22) (.agg #[.int .i64 r, .bool cl, .slice (some a) n c])) _
      simp only [Act.put, List.setIfInBounds_toArray, List.set_cons_zero, List.set_cons_succ]
      refine wpAnyH_take (i := 7) (v := .pointer (some ⟨gq, 2, none⟩)) rfl (by kernel_rfl) (by kernel_rfl) (by kernel_rfl) (fun _ _ _ h => h) (Or.inl ⟨by rfl, fun w' hS' => by go_simp⟩) hS0 ?_
      change wpAnyH _ _ _ _ _ _ _ (Act.put _ (some 23) (.pointer (some ⟨gq, 2, none⟩))) _
      simp only [Act.put, List.setIfInBounds_toArray, List.set_cons_zero, List.set_cons_succ]
      refine wpAnyH_take (i := 8) (v := .slice (some a) n c) rfl (by kernel_rfl) (by kernel_rfl) (by kernel_rfl) (fun _ _ _ h => h) (Or.inl ⟨by rfl, fun w' hS' => by obtain ⟨y0, y1, y2⟩ := blk3 hS'.1; go_simp⟩) hS0 ?_
      change wpAnyH _ _ _ _ _ _ _ (Act.put _ (some 24) (.slice (some a) n c)) _
      simp only [Act.put, List.setIfInBounds_toArray, List.set_cons_zero, List.set_cons_succ]
      refine wpAnyH_take (i := 9) (v := .int .i64 (n : Int)) rfl (by kernel_rfl) (by kernel_rfl) (by kernel_rfl) (fun _ _ _ h => h) (Or.inl ⟨by rfl, fun w' hS' => by go_simp⟩) hS0 ?_
      change wpAnyH _ _ _ _ _ _ _ (Act.put _ (some 25) (.int .i64 (n : Int))) _
      simp only [Act.put, List.setIfInBounds_toArray, List.set_cons_zero, List.set_cons_succ]
      refine wpAnyH_ready (rs := [4]) (by kernel_rfl) (by simp) (AllReadyH.cons rfl (fun K hK => ?_) (AllReadyH.nil))
      · skip
        go_simp
        refine (own_any x.req x.slot x.left x.right _ HFX.out.1 HFX.out.2).mono ?_
        rintro e W4 ⟨rfl, hb4⟩
        refine hK.out _ _ ⟨Blk.below hS0.1 hb4 hS0.1.lt, hS0.2.trans (hb4.mono hS0.2.size)⟩ (fun hS4 => ?_)
        clear hK K
        simp only [List.setIfInBounds_toArray, List.set_cons_zero, List.set_cons_succ]
        refine wpAnyH_ready (rs := [10]) (by kernel_rfl) (by simp) (AllReadyH.cons rfl (fun K hK => ?_) (AllReadyH.nil))
        · skip
          go_simp
          refine (stay_tail r cl (some a) (x :: T') n c _ (HA.out.up hS4.2) HN.out HN1.out HC.out).mono ?_
          rintro e W10 ⟨A10, rfl, ht10, hb10⟩
          refine hK.out _ _ ⟨Blk.below hS4.1 hb10 hS4.1.lt, hS4.2.trans (hb10.mono hS4.2.size)⟩ (fun hS10 => ?_)
          clear hK K
          simp only [List.setIfInBounds_toArray, List.set_cons_zero, List.set_cons_succ]
          refine wpAnyH_ready (rs := [11]) (by kernel_rfl) (by simp) (AllReadyH.cons rfl (fun K hK => ?_) (AllReadyH.nil))
          · skip
            go_simp
            refine (with_any r cl (some a) n c A10 T' (n - 1) (n - 1) _ ht10 HN2.out HN3.out HFT.out).mono ?_
            rintro e W11 ⟨A11, rfl, ht11, hb11⟩
            refine hK.out _ _ ⟨Blk.below hS10.1 hb11 hS10.1.lt, hS10.2.trans (hb11.mono hS10.2.size)⟩ (fun hS11 => ?_)
            clear hK K
            simp only [List.setIfInBounds_toArray, List.set_cons_zero, List.set_cons_succ]
            refine wpAnyH_ready (rs := [12]) (by kernel_rfl) (by simp) (AllReadyH.cons rfl (fun K hK => ?_) (AllReadyH.nil))
            · skip
              have hbb := (hb4.trans (hb10.mono hb4.size)).trans (hb11.mono (hb4.trans (hb10.mono hb4.size)).size)
              have hkt := HBt.out.drew.below hbb HBt.out.lt
              have hkr := HBr.out.drew.below hbb HBr.out.lt
              have hlt : gt < W10.heap.size := (HBt.out.drew.below (hb4.trans (hb10.mono hb4.size)) HBt.out.lt).lt
              have hlr : gr < W10.heap.size := (HBr.out.drew.below (hb4.trans (hb10.mono hb4.size)) HBr.out.lt).lt
              obtain ⟨W12, hr12, hk12, hg12⟩ := op_storeT hkt x.req x.slot x.left x.right
              have hkr := hkr.grown hg12 (fun e => HNrt.out (Option.some.inj e))
              refine step_op_skip (hr12 _ _ _ _ rfl rfl rfl) rfl ?_
              refine hK.out _ _ ⟨Blk.grown hS11.1 hg12 (fun e => HNtq.out (Option.some.inj e).symm), grown_below hS11.2 hg12 hS11.2.size HGt.out⟩ (fun hS12 => ?_)
              clear hK K
              change wpAnyH _ _ _ _ _ _ _ (Act.put _ none (undef)) _
              simp only [Act.put]
              refine wpAnyH_ready (rs := [13]) (by kernel_rfl) (by simp) (AllReadyH.cons rfl (fun K hK => ?_) (AllReadyH.nil))
              · skip
                obtain ⟨W13, hr13, hk13, hg13⟩ := op_storeQ hkr r cl A11 (n - 1) (n - 1)
                have hk12 := hk12.grown hg13 (fun e => HNrt.out (Option.some.inj e).symm)
                refine step_op_skip (hr13 _ _ _ _ rfl rfl rfl) rfl ?_
                refine hK.out _ _ ⟨Blk.grown hS12.1 hg13 (fun e => HNrq.out (Option.some.inj e).symm), grown_below hS12.2 hg13 hS12.2.size HGr.out⟩ (fun hS13 => ?_)
                clear hK K
                change wpAnyH _ _ _ _ _ _ _ (Act.put _ none (undef)) _
                simp only [Act.put]
                refine wpAnyH_take (i := 14) (v := .int .i64 0) rfl (by kernel_rfl) (by kernel_rfl) (by kernel_rfl) (fun _ _ _ h => h) (Or.inl ⟨by rfl, fun w' hS' => by go_simp⟩) hS13 ?_
                change wpAnyH _ _ _ _ _ _ _ (Act.put _ (some 4) (.int .i64 0)) _
                simp only [Act.put, List.setIfInBounds_toArray, List.set_cons_zero, List.set_cons_succ]
                refine wpAnyH_done (by kernel_rfl) ?_ _
                refine NoPanic.normal ?_
                obtain ⟨z0, z1, z2⟩ := blk3 hk13
                obtain ⟨u0, u1, u2, u3⟩ := blk4 hk12
                have hn13 := ((ht11.grown hg12 (fun g e => by injection e with e; rw [← e]; exact hlt)).grown hg13 (fun g e => by injection e with e; rw [← e]; exact hlr)).less hS10.2.size
                have hb13 := hS13.2
                clear hr12 hr13 hg12 hg13
                go_wp2_with fail
                refine bodyPost_ret (v := .tuple #[.agg #[.int .i64 x.req, .int .i64 x.slot, .string x.left, .string x.right], .agg #[.int .i64 r, .bool cl, .slice A11 (n - 1) (n - 1)], .int .i64 0]) (by simp [results, Try.results15, go_sem, z0, z1, z2, u0, u1, u2, u3]) rfl ?_
                rw [HT.out.1, HT.out.2.1, HT.out.2.2.1, HT.out.2.2.2.1, HT.out.2.2.2.2]
                exact ⟨A11, n - 1, n - 1, rfl, HN2.out, Nat.le_refl _, hn13, hb13⟩

end Go.Proofs.Ytaelenjnjoeheaa
