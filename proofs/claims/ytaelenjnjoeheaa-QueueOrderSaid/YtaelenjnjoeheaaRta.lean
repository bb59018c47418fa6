/-
  collatorref16.Take and Close tell what takeQ and closeQ say. Nothing that was there is changed.
-/
import Derived.Test.YtaelenjnjoeheaaRpu
namespace Go.Proofs.Ytaelenjnjoeheaa
open Go.RowKit P16

/-- what is left of a list behind its first ones -/
def fromA (a : Addr) (c k : Nat) : Option Addr := if c = k then some a else some (a.add (k * 4))
theorem op_from1 {o : Oper} {a : Act} {p : Nat} {b : Addr} {n c : Nat} {W : World} (ho : o.op = Op.slice 22 (.tmp p) (some (.const (.int .i64 1))) none none) (hp : a.eval (.tmp p) = .slice (some b) n c) (h1 : 1 ≤ n) (h2 : n ≤ c) :
    (execOp a.eval o).run Try.prog W = .ok (.value (.slice (fromA b c 1) (n - 1) (c - 1))) W := by
  have hp' : a.tmps[p]?.getD undef = .slice (some b) n c := by simpa [Act.eval] using hp
  have hcell : Try.prog.cellsOf 39 = 4 := by kernel_rfl
  by_cases hk : c = 1
  · obtain rfl : n = 1 := by omega
    subst hk
    simp only [execOp, ho]
    go_simp
    simp [fromA]
  · have hkk : ¬ 1 = c := fun e => hk e.symm
    simp only [execOp, ho]
    go_simp
    rw [if_pos (by omega)]
    simp [fromA, hk, Addr.add]
theorem from_at {w : World} {a : Addr} {x : Tk} {T : List Tk} {n c : Nat} (h : TasksAt w (some a) (x :: T)) (hn : (x :: T).length = n) (h1 : 1 ≤ n) (hc : n ≤ c) : TasksAt w (fromA a c 1) T := by
  have := h.drop 1 c (by omega) (by omega)
  unfold fromA
  simpa using this

set_option maxHeartbeats 8000000 in
set_option maxRecDepth 100000 in
theorem rtake_any (r : Int) (cl : Bool) (T : List Tk) (A : Option Addr) (n c : Nat) (w : World) (x0 : Tk) (r0 : Int) (b0 : Bool) (T0 : List Tk) (e0 : Int) (ht : takeQ ⟨r, cl, T⟩ = (x0, ⟨r0, b0, T0⟩, e0))
    (ha : TasksAt w A T) (hn : T.length = n) (hc : n ≤ c) :
    Calls Try.prog 16 #[.agg #[.int .i64 r, .bool cl, .slice A n c]] w (TakeTold x0 r0 b0 T0 e0 w) := by
  obtain ⟨bo, hbo⟩ : ∃ bo, rightB ⟨r, cl, T⟩ = bo := ⟨_, rfl⟩
  have HBO := Lib.hid hbo
  have HT := Lib.hid ht
  have HA := Lib.hid ha
  have HN := Lib.hid hn
  have HC := Lib.hid hc
  clear hbo ht ha hn hc
  go_enter Try.func16, Try.ntmps16
  go_upto_region 1 with (fail)
  have hb0 : Blk (((w.alloc (.cells #[.int .i64 r, .bool cl, .slice A n c] 24)).alloc (.cells #[.int .i64 0, .int .i64 0, .string ⟨#[]⟩, .string ⟨#[]⟩] 39)).alloc (.cells #[.int .i64 0, .bool false, .slice none 0 0] 24)) w.heap.size 24 #[.int .i64 r, .bool cl, .slice A n c] := ((Blk.new w _ _).alloc _).alloc _
  have hb1 : Blk (((w.alloc (.cells #[.int .i64 r, .bool cl, .slice A n c] 24)).alloc (.cells #[.int .i64 0, .int .i64 0, .string ⟨#[]⟩, .string ⟨#[]⟩] 39)).alloc (.cells #[.int .i64 0, .bool false, .slice none 0 0] 24)) (w.heap.size + 1) 39 #[.int .i64 0, .int .i64 0, .string ⟨#[]⟩, .string ⟨#[]⟩] := by
    have := Blk.new (w.alloc (.cells #[.int .i64 r, .bool cl, .slice A n c] 24)) 39 #[.int .i64 0, .int .i64 0, .string ⟨#[]⟩, .string ⟨#[]⟩]
    have h2 : Blk ((w.alloc (.cells #[.int .i64 r, .bool cl, .slice A n c] 24)).alloc (.cells #[.int .i64 0, .int .i64 0, .string ⟨#[]⟩, .string ⟨#[]⟩] 39)) (w.heap.size + 1) 39 #[.int .i64 0, .int .i64 0, .string ⟨#[]⟩, .string ⟨#[]⟩] := by simpa [Nat.add_assoc] using this
    exact (h2.alloc _)
  have hb2 : Blk (((w.alloc (.cells #[.int .i64 r, .bool cl, .slice A n c] 24)).alloc (.cells #[.int .i64 0, .int .i64 0, .string ⟨#[]⟩, .string ⟨#[]⟩] 39)).alloc (.cells #[.int .i64 0, .bool false, .slice none 0 0] 24)) (w.heap.size + 2) 24 #[.int .i64 0, .bool false, .slice none 0 0] := by
    have := Blk.new ((w.alloc (.cells #[.int .i64 r, .bool cl, .slice A n c] 24)).alloc (.cells #[.int .i64 0, .int .i64 0, .string ⟨#[]⟩, .string ⟨#[]⟩] 39)) 24 #[.int .i64 0, .bool false, .slice none 0 0]
    have h2 : Blk (((w.alloc (.cells #[.int .i64 r, .bool cl, .slice A n c] 24)).alloc (.cells #[.int .i64 0, .int .i64 0, .string ⟨#[]⟩, .string ⟨#[]⟩] 39)).alloc (.cells #[.int .i64 0, .bool false, .slice none 0 0] 24)) (w.heap.size + 2) 24 #[.int .i64 0, .bool false, .slice none 0 0] := by simpa [Nat.add_assoc] using this
    exact h2
  have hw0 : Below w.heap.size w (((w.alloc (.cells #[.int .i64 r, .bool cl, .slice A n c] 24)).alloc (.cells #[.int .i64 0, .int .i64 0, .string ⟨#[]⟩, .string ⟨#[]⟩] 39)).alloc (.cells #[.int .i64 0, .bool false, .slice none 0 0] 24)) := (((Below.refl _ _).alloc (Nat.le_refl _) _).alloc (by simp) _).alloc (by simp <;> omega) _
  obtain ⟨w1, hw1⟩ : ∃ w1, w1 = ((w.alloc (.cells #[.int .i64 r, .bool cl, .slice A n c] 24)).alloc (.cells #[.int .i64 0, .int .i64 0, .string ⟨#[]⟩, .string ⟨#[]⟩] 39)).alloc (.cells #[.int .i64 0, .bool false, .slice none 0 0] 24) := ⟨_, rfl⟩
  obtain ⟨gq, hgq⟩ : ∃ g, g = w.heap.size := ⟨_, rfl⟩
  obtain ⟨gt, hgt⟩ : ∃ g, g = w.heap.size + 1 := ⟨_, rfl⟩
  obtain ⟨gr, hgr⟩ : ∃ g, g = w.heap.size + 2 := ⟨_, rfl⟩
  rw [← hw1] at hb0 hb1 hb2 hw0 ⊢
  rw [← hgr] at hb2 ⊢
  rw [← hgt] at hb1 ⊢
  rw [← hgq] at hb0
  have HGq : Hid (w.heap.size ≤ gq) := Lib.hid (by omega)
  have HGt : Hid (w.heap.size ≤ gt) := Lib.hid (by omega)
  have HGr : Hid (w.heap.size ≤ gr) := Lib.hid (by omega)
  have HNtq : Hid (gt ≠ gq) := Lib.hid (by omega)
  have HNrq : Hid (gr ≠ gq) := Lib.hid (by omega)
  have HNrt : Hid (gr ≠ gt) := Lib.hid (by omega)
  rw [show (⟨w.heap.size, 0, none⟩ : Addr) = ⟨gq, 0, none⟩ from by rw [hgq]]
  have HBq := Lib.hid hb0
  have HBt := Lib.hid hb1
  have HBr := Lib.hid hb2
  have HW := Lib.hid hw0
  clear hb0 hb1 hb2 hw0 hw1 hgq hgt hgr

  obtain ⟨y0, y1, y2⟩ := blk3 HBq.out
  go_wp2_with fail
  refine (rright_any r cl T A n c bo HBO.out _ HN.out).mono ?_
  rintro e w2 ⟨rfl, hb2⟩
  have HBq := Lib.hid (HBq.out.below hb2 HBq.out.lt)
  have HBt := Lib.hid (HBt.out.below hb2 HBt.out.lt)
  have HBr := Lib.hid (HBr.out.below hb2 HBr.out.lt)
  have HW := Lib.hid (below_step HW.out hb2)

  clear hb2 y0 y1 y2
  cases bo with
  | false =>
    have HT : Hid (x0 = zeroT ∧ r0 = 0 ∧ b0 = false ∧ T0 = [] ∧ e0 = 1) := Lib.hid (by have h := HT.out; rw [take_bad HBO.out] at h; exact take_parts h)
    obtain ⟨z0, z1, z2⟩ := blk3 HBr.out
    obtain ⟨u0, u1, u2, u3⟩ := blk4 HBt.out
    have q0 := Blk.frozen HBr.out 0
    have q1 := Blk.frozen HBr.out 1
    have q2 := Blk.frozen HBr.out 2
    have p0 := Blk.frozen HBt.out 0
    have p1 := Blk.frozen HBt.out 1
    have p2 := Blk.frozen HBt.out 2
    have p3 := Blk.frozen HBt.out 3
    have hne := HNrt.out
    have hnf := HNrt.out.symm
    go_wp2_with fail
    refine bodyPost_ret (v := .tuple #[.agg #[.int .i64 0, .int .i64 0, .string ⟨#[]⟩, .string ⟨#[]⟩], .agg #[.int .i64 0, .bool false, .slice none 0 0], .int .i64 1]) (by simp [results, Try.results16, go_sem, z0, z1, z2, u0, u1, u2, u3]) rfl ?_
    rw [HT.out.1, HT.out.2.1, HT.out.2.2.1, HT.out.2.2.2.1, HT.out.2.2.2.2]
    exact ⟨none, 0, 0, rfl, rfl, Nat.le_refl _, RowAt.nil, ((((((HW.out.setCell HGt.out _).setCell HGt.out _).setCell HGt.out _).setCell HGt.out _).setCell HGr.out _).setCell HGr.out _).setCell HGr.out _⟩

  | true =>
    obtain ⟨y0, y1, y2⟩ := blk3 HBq.out
    cases T with
    | nil =>
      obtain rfl : n = 0 := HN.out.symm
      have HT : Hid (x0 = zeroT ∧ r0 = 0 ∧ b0 = false ∧ T0 = [] ∧ e0 = 10) := Lib.hid (by have h := HT.out; rw [take_none HBO.out] at h; exact take_parts h)
      obtain ⟨z0, z1, z2⟩ := blk3 HBr.out
      obtain ⟨u0, u1, u2, u3⟩ := blk4 HBt.out
      have q0 := Blk.frozen HBr.out 0
      have q1 := Blk.frozen HBr.out 1
      have q2 := Blk.frozen HBr.out 2
      have p0 := Blk.frozen HBt.out 0
      have p1 := Blk.frozen HBt.out 1
      have p2 := Blk.frozen HBt.out 2
      have p3 := Blk.frozen HBt.out 3
      have hne := HNrt.out
      have hnf := HNrt.out.symm
      go_wp2_with fail
      refine bodyPost_ret (v := .tuple #[.agg #[.int .i64 0, .int .i64 0, .string ⟨#[]⟩, .string ⟨#[]⟩], .agg #[.int .i64 0, .bool false, .slice none 0 0], .int .i64 10]) (by simp [results, Try.results16, go_sem, z0, z1, z2, u0, u1, u2, u3]) rfl ?_
      rw [HT.out.1, HT.out.2.1, HT.out.2.2.1, HT.out.2.2.2.1, HT.out.2.2.2.2]
      exact ⟨none, 0, 0, rfl, rfl, Nat.le_refl _, RowAt.nil, ((((((HW.out.setCell HGt.out _).setCell HGt.out _).setCell HGt.out _).setCell HGt.out _).setCell HGr.out _).setCell HGr.out _).setCell HGr.out _⟩

    | cons x T' =>
      have hn1 : 1 ≤ n := by have := HN.out; simp only [List.length_cons] at this; omega
      have HN1 := Lib.hid hn1
      have HN2 : Hid (T'.length = n - 1) := Lib.hid (by have := HN.out; simp only [List.length_cons] at this; omega)
      obtain ⟨a, rfl, hx⟩ := first_cells HA.out (x := x) rfl
      have HX := Lib.hid hx
      have HT : Hid (x0 = x ∧ r0 = r ∧ b0 = cl ∧ T0 = T' ∧ e0 = 0) := Lib.hid (by have h := HT.out; rw [take_ok HBO.out] at h; exact take_parts h)
      have t0 : ((n : Int) == 0) = false := by rw [beq_eq_false_iff_ne]; omega
      clear hx
      go_upto_region 6 with (fail)
      refine wp_region_noPanic ?_
      refine wp_region_held_drew (S := fun W => Blk W gq 24 #[.int .i64 r, .bool cl, .slice (some a) n c] ∧ Below w.heap.size w W) (by kernel_rfl) (⟨HBq.out.drew, HW.out.drew⟩) (fun hS0 => ?_)
      change wpAnyH _ _ _ _ _ 15 #[false, false, false, false, false, false, false, false, false, false, false, false, false, false, false] _ (World.drew _)
      refine wpAnyH_take (i := 0) (v := .pointer (some ⟨gq, 2, none⟩)) rfl (by kernel_rfl) (by kernel_rfl) (by kernel_rfl) (fun _ _ _ h => h) (Or.inl ⟨by rfl, fun w' hS' => by go_simp⟩) hS0 ?_
      change wpAnyH _ _ _ _ _ _ _ (Act.put _ (some 18) (.pointer (some ⟨gq, 2, none⟩))) _
      simp only [Act.put, List.setIfInBounds_toArray, List.set_cons_zero, List.set_cons_succ]
      refine wpAnyH_take (i := 1) (v := .slice (some a) n c) rfl (by kernel_rfl) (by kernel_rfl) (by kernel_rfl) (fun _ _ _ h => h) (Or.inl ⟨by rfl, fun w' hS' => by obtain ⟨y0, y1, y2⟩ := blk3 hS'.1; go_simp⟩) hS0 ?_
      change wpAnyH _ _ _ _ _ _ _ (Act.put _ (some 19) (.slice (some a) n c)) _
      simp only [Act.put, List.setIfInBounds_toArray, List.set_cons_zero, List.set_cons_succ]
      refine wpAnyH_take (i := 2) (v := .pointer (some a)) rfl (by kernel_rfl) (by kernel_rfl) (by kernel_rfl) (fun _ _ _ h => h) (Or.inl ⟨by rfl, fun w' hS' => by go_simp; intro h; exact absurd h (by omega)⟩) hS0 ?_
      change wpAnyH _ _ _ _ _ _ _ (Act.put _ (some 20) (.pointer (some a))) _
      simp only [Act.put, List.setIfInBounds_toArray, List.set_cons_zero, List.set_cons_succ]
      refine wpAnyH_take (i := 3) (v := .agg #[.int .i64 x.req, .int .i64 x.slot, .string x.left, .string x.right]) rfl (by kernel_rfl) (by kernel_rfl) (by kernel_rfl) (fun _ _ _ h => h) (Or.inl ⟨by rfl, fun w' hS' => by obtain ⟨x0, x1, x2, x3⟩ := HX.out w' hS'.2; go_simp⟩) hS0 ?_
      change wpAnyH _ _ _ _ _ _ _ (Act.put _ (some 21) (.agg #[.int .i64 x.req, .int .i64 x.slot, .string x.left, .string x.right])) _
      simp only [Act.put, List.setIfInBounds_toArray, List.set_cons_zero, List.set_cons_succ]
      refine wpAnyH_take (i := 4) (v := .pointer (some ⟨gq, 0, none⟩)) rfl (by kernel_rfl) (by kernel_rfl) (by kernel_rfl) (fun _ _ _ h => h) (Or.inl ⟨by rfl, fun w' hS' => by go_simp⟩) hS0 ?_
      change wpAnyH _ _ _ _ _ _ _ (Act.put _ (some 22) (.pointer (some ⟨gq, 0, none⟩))) _
      simp only [Act.put, List.setIfInBounds_toArray, List.set_cons_zero, List.set_cons_succ]
      refine wpAnyH_take (i := 5) (v := .int .i64 r) rfl (by kernel_rfl) (by kernel_rfl) (by kernel_rfl) (fun _ _ _ h => h) (Or.inl ⟨by rfl, fun w' hS' => by obtain ⟨y0, y1, y2⟩ := blk3 hS'.1; go_simp⟩) hS0 ?_
      change wpAnyH _ _ _ _ _ _ _ (Act.put _ (some 23) (.int .i64 r)) _
      simp only [Act.put, List.setIfInBounds_toArray, List.set_cons_zero, List.set_cons_succ]
      refine wpAnyH_take (i := 6) (v := .pointer (some ⟨gq, 1, none⟩)) rfl (by kernel_rfl) (by kernel_rfl) (by kernel_rfl) (fun _ _ _ h => h) (Or.inl ⟨by rfl, fun w' hS' => by go_simp⟩) hS0 ?_
      change wpAnyH _ _ _ _ _ _ _ (Act.put _ (some 24) (.pointer (some ⟨gq, 1, none⟩))) _
      simp only [Act.put, List.setIfInBounds_toArray, List.set_cons_zero, List.set_cons_succ]
      refine wpAnyH_take (i := 7) (v := .bool cl) rfl (by kernel_rfl) (by kernel_rfl) (by kernel_rfl) (fun _ _ _ h => h) (Or.inl ⟨by rfl, fun w' hS' => by obtain ⟨y0, y1, y2⟩ := blk3 hS'.1; go_simp⟩) hS0 ?_
      change wpAnyH _ _ _ _ _ _ _ (Act.put _ (some 25) (.bool cl)) _
      simp only [Act.put, List.setIfInBounds_toArray, List.set_cons_zero, List.set_cons_succ]
      refine wpAnyH_take (i := 8) (v := .pointer (some ⟨gq, 2, none⟩)) rfl (by kernel_rfl) (by kernel_rfl) (by kernel_rfl) (fun _ _ _ h => h) (Or.inl ⟨by rfl, fun w' hS' => by go_simp⟩) hS0 ?_
      change wpAnyH _ _ _ _ _ _ _ (Act.put _ (some 26) (.pointer (some ⟨gq, 2, none⟩))) _
      simp only [Act.put, List.setIfInBounds_toArray, List.set_cons_zero, List.set_cons_succ]
      refine wpAnyH_take (i := 9) (v := .slice (some a) n c) rfl (by kernel_rfl) (by kernel_rfl) (by kernel_rfl) (fun _ _ _ h => h) (Or.inl ⟨by rfl, fun w' hS' => by obtain ⟨y0, y1, y2⟩ := blk3 hS'.1; go_simp⟩) hS0 ?_
      change wpAnyH _ _ _ _ _ _ _ (Act.put _ (some 27) (.slice (some a) n c)) _
      simp only [Act.put, List.setIfInBounds_toArray, List.set_cons_zero, List.set_cons_succ]
      refine wpAnyH_take (i := 10) (v := .slice (fromA a c 1) (n - 1) (c - 1)) rfl (by kernel_rfl) (by kernel_rfl) (by kernel_rfl) (fun _ _ _ h => h) (Or.inl ⟨by rfl, fun w' hS' => by exact op_from1 rfl rfl HN1.out HC.out⟩) hS0 ?_
      change wpAnyH _ _ _ _ _ _ _ (Act.put _ (some 28) (.slice (fromA a c 1) (n - 1) (c - 1))) _
      simp only [Act.put, List.setIfInBounds_toArray, List.set_cons_zero, List.set_cons_succ]
      refine wpAnyH_take (i := 11) (v := .agg #[.int .i64 r, .bool cl, .slice (fromA a c 1) (n - 1) (c - 1)]) rfl (by kernel_rfl) (by kernel_rfl) (by kernel_rfl) (fun _ _ _ h => h) (Or.inl ⟨by rfl, fun w' hS' => by go_simp⟩) hS0 ?_
      change wpAnyH _ _ _ _ _ _ _ (Act.put _ (some 29) (.agg #[.int .i64 r, .bool cl, .slice (fromA a c 1) (n - 1) (c - 1)])) _
      simp only [Act.put, List.setIfInBounds_toArray, List.set_cons_zero, List.set_cons_succ]
      refine wpAnyH_ready (rs := [12]) (by kernel_rfl) (by simp) (AllReadyH.cons rfl (fun K hK => ?_) (AllReadyH.nil))
      · skip
        obtain ⟨W12, hr12, hk12, hg12⟩ := op_storeT HBt.out.drew x.req x.slot x.left x.right
        have hkr := HBr.out.drew.grown hg12 (fun e => HNrt.out (Option.some.inj e))
        refine step_op_skip (hr12 _ _ _ _ rfl rfl rfl) rfl ?_
        refine hK.out _ _ ⟨Blk.grown hS0.1 hg12 (fun e => HNtq.out (Option.some.inj e).symm), grown_below hS0.2 hg12 hS0.2.size HGt.out⟩ (fun hS12 => ?_)
        clear hK K
        change wpAnyH _ _ _ _ _ _ _ (Act.put _ none (undef)) _
        simp only [Act.put]
        refine wpAnyH_ready (rs := [13]) (by kernel_rfl) (by simp) (AllReadyH.cons rfl (fun K hK => ?_) (AllReadyH.nil))
        · skip
          obtain ⟨W13, hr13, hk13, hg13⟩ := op_storeQ hkr r cl (fromA a c 1) (n - 1) (c - 1)
          have hk12 := hk12.grown hg13 (fun e => HNrt.out (Option.some.inj e).symm)
          refine step_op_skip (hr13 _ _ _ _ rfl rfl rfl) rfl ?_
          refine hK.out _ _ ⟨Blk.grown hS12.1 hg13 (fun e => HNrq.out (Option.some.inj e).symm), grown_below hS12.2 hg13 hS12.2.size HGr.out⟩ (fun hS13 => ?_)
          clear hK K
          change wpAnyH _ _ _ _ _ _ _ (Act.put _ none (undef)) _
          simp only [Act.put]
          refine wpAnyH_take (i := 14) (v := .int .i64 0) rfl (by kernel_rfl) (by kernel_rfl) (by kernel_rfl) (fun _ _ _ h => h) (Or.inl ⟨by rfl, fun w' hS' => by go_simp⟩) hS13 ?_
          change wpAnyH _ _ _ _ _ _ _ (Act.put _ (some 4) (.int .i64 0)) _
          simp only [Act.put, List.setIfInBounds_toArray, List.set_cons_zero, List.set_cons_succ]
          refine wpAnyH_done (by kernel_rfl) ?_ _
          refine NoPanic.normal ?_
          obtain ⟨z0, z1, z2⟩ := blk3 hk13
          obtain ⟨u0, u1, u2, u3⟩ := blk4 hk12
          have hb13 := hS13.2
          clear hr12 hr13 hg12 hg13
          go_wp2_with fail
          refine bodyPost_ret (v := .tuple #[.agg #[.int .i64 x.req, .int .i64 x.slot, .string x.left, .string x.right], .agg #[.int .i64 r, .bool cl, .slice (fromA a c 1) (n - 1) (c - 1)], .int .i64 0]) (by simp [results, Try.results16, go_sem, z0, z1, z2, u0, u1, u2, u3]) rfl ?_
          rw [HT.out.1, HT.out.2.1, HT.out.2.2.1, HT.out.2.2.2.1, HT.out.2.2.2.2]
          exact ⟨fromA a c 1, n - 1, c - 1, rfl, HN2.out, by have := HC.out; omega, from_at (HA.out.up hb13) HN.out HN1.out HC.out, hb13⟩


set_option maxHeartbeats 8000000 in
set_option maxRecDepth 100000 in
theorem rclose_any (r : Int) (cl : Bool) (T : List Tk) (A : Option Addr) (n c : Nat) (w : World) (r0 : Int) (b0 : Bool) (T0 : List Tk) (e0 : Int) (ht : closeQ ⟨r, cl, T⟩ = (⟨r0, b0, T0⟩, e0))
    (ha : TasksAt w A T) (hn : T.length = n) (hc : n ≤ c) :
    Calls Try.prog 18 #[.agg #[.int .i64 r, .bool cl, .slice A n c]] w (CloseTold r0 b0 T0 e0 w) := by
  obtain ⟨bo, hbo⟩ : ∃ bo, rightB ⟨r, cl, T⟩ = bo := ⟨_, rfl⟩
  have HBO := Lib.hid hbo
  have HT := Lib.hid ht
  have HA := Lib.hid ha
  have HN := Lib.hid hn
  have HC := Lib.hid hc
  clear hbo ht ha hn hc
  go_enter Try.func18, Try.ntmps18
  go_upto_region 1 with (fail)
  have hb0 : Blk ((w.alloc (.cells #[.int .i64 r, .bool cl, .slice A n c] 24)).alloc (.cells #[.int .i64 0, .bool false, .slice none 0 0] 24)) w.heap.size 24 #[.int .i64 r, .bool cl, .slice A n c] := (Blk.new w _ _).alloc _
  have hb1 : Blk ((w.alloc (.cells #[.int .i64 r, .bool cl, .slice A n c] 24)).alloc (.cells #[.int .i64 0, .bool false, .slice none 0 0] 24)) (w.heap.size + 1) 24 #[.int .i64 0, .bool false, .slice none 0 0] := by
    have := Blk.new (w.alloc (.cells #[.int .i64 r, .bool cl, .slice A n c] 24)) 24 #[.int .i64 0, .bool false, .slice none 0 0]
    have h2 : Blk ((w.alloc (.cells #[.int .i64 r, .bool cl, .slice A n c] 24)).alloc (.cells #[.int .i64 0, .bool false, .slice none 0 0] 24)) (w.heap.size + 1) 24 #[.int .i64 0, .bool false, .slice none 0 0] := by simpa [Nat.add_assoc] using this
    exact h2
  have hw0 : Below w.heap.size w ((w.alloc (.cells #[.int .i64 r, .bool cl, .slice A n c] 24)).alloc (.cells #[.int .i64 0, .bool false, .slice none 0 0] 24)) := ((Below.refl _ _).alloc (Nat.le_refl _) _).alloc (by simp) _
  obtain ⟨w1, hw1⟩ : ∃ w1, w1 = (w.alloc (.cells #[.int .i64 r, .bool cl, .slice A n c] 24)).alloc (.cells #[.int .i64 0, .bool false, .slice none 0 0] 24) := ⟨_, rfl⟩
  obtain ⟨gq, hgq⟩ : ∃ g, g = w.heap.size := ⟨_, rfl⟩
  obtain ⟨gr, hgr⟩ : ∃ g, g = w.heap.size + 1 := ⟨_, rfl⟩
  rw [← hw1] at hb0 hb1 hw0 ⊢
  rw [← hgr] at hb1 ⊢
  rw [← hgq] at hb0
  have HGq : Hid (w.heap.size ≤ gq) := Lib.hid (by omega)
  have HGr : Hid (w.heap.size ≤ gr) := Lib.hid (by omega)
  have HNrq : Hid (gr ≠ gq) := Lib.hid (by omega)
  rw [show (⟨w.heap.size, 0, none⟩ : Addr) = ⟨gq, 0, none⟩ from by rw [hgq]]
  have HBq := Lib.hid hb0
  have HBr := Lib.hid hb1
  have HW := Lib.hid hw0
  clear hb0 hb1 hw0 hw1 hgq hgr

  obtain ⟨y0, y1, y2⟩ := blk3 HBq.out
  go_wp2_with fail
  refine (rright_any r cl T A n c bo HBO.out _ HN.out).mono ?_
  rintro e w2 ⟨rfl, hb2⟩
  have HBq := Lib.hid (HBq.out.below hb2 HBq.out.lt)
  have HBr := Lib.hid (HBr.out.below hb2 HBr.out.lt)
  have HW := Lib.hid (below_step HW.out hb2)

  clear hb2 y0 y1 y2
  cases bo with
  | false =>
    have HT : Hid (r0 = 0 ∧ b0 = false ∧ T0 = [] ∧ e0 = 1) := Lib.hid (by have h := HT.out; rw [close_bad HBO.out] at h; exact close_parts h)
    obtain ⟨z0, z1, z2⟩ := blk3 HBr.out
    have q0 := Blk.frozen HBr.out 0
    have q1 := Blk.frozen HBr.out 1
    have q2 := Blk.frozen HBr.out 2
    go_wp2_with fail
    refine bodyPost_ret (v := .tuple #[.agg #[.int .i64 0, .bool false, .slice none 0 0], .int .i64 1]) (by simp [results, Try.results18, go_sem, z0, z1, z2]) rfl ?_
    rw [HT.out.1, HT.out.2.1, HT.out.2.2.1, HT.out.2.2.2]
    exact ⟨none, 0, 0, rfl, rfl, Nat.le_refl _, RowAt.nil, ((HW.out.setCell HGr.out _).setCell HGr.out _).setCell HGr.out _⟩

  | true =>
    have HT : Hid (r0 = r ∧ b0 = true ∧ T0 = T ∧ e0 = 0) := Lib.hid (by have h := HT.out; rw [close_ok HBO.out] at h; exact close_parts h)
    obtain ⟨y0, y1, y2⟩ := blk3 HBq.out
    obtain ⟨z0, z1, z2⟩ := blk3 HBr.out
    have q0 := Blk.frozen HBr.out 0
    have q1 := Blk.frozen HBr.out 1
    have q2 := Blk.frozen HBr.out 2
    go_wp2_with fail
    refine bodyPost_ret (v := .tuple #[.agg #[.int .i64 r, .bool true, .slice A n c], .int .i64 0]) (by simp [results, Try.results18, go_sem, z0, z1, z2]) rfl ?_
    rw [HT.out.1, HT.out.2.1, HT.out.2.2.1, HT.out.2.2.2]
    have hw5 := ((HW.out.setCell HGr.out (p := ⟨gr, 0, none⟩) (.int .i64 r)).setCell HGr.out (p := ⟨gr, 1, none⟩) (.bool true)).setCell HGr.out (p := ⟨gr, 2, none⟩) (.slice A n c)
    exact ⟨A, n, c, rfl, HN.out, HC.out, HA.out.up hw5, hw5⟩

end Go.Proofs.Ytaelenjnjoeheaa
