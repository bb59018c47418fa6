/-
  Package queue: own: a task in memory of its own; nothing that was there is changed.
-/
import Derived.Test.YtaelenjnjoeheaaSml
import Derived.Test.YtaelenjnjoeheaaShelf
namespace Go.Proofs.Ytaelenjnjoeheaa
open Go.RowKit P16

theorem clone_any (s : ByteArray) (w : World) (hs : s.size ≤ 140737488351232) :
    Calls Try.prog 30 #[.string s] w fun e w' => e = .returned (.string s) ∧ Below w.heap.size w w' := by
  go_enter Try.func30, Try.ntmps30
  go_wp2_with (go_at_call 32; refine (Try.stringslite_Clone _ _ (by omega)).mono ?_; rintro e w' ⟨rfl, hb⟩)
  go_ret
  exact ⟨rfl, hb⟩
theorem op_store_own {g j : Nat} {s : ByteArray} {t : TypeId} {cs : Array Value} {W : World} {o : Oper} {a : Act} {p q : Operand} (hb : Blk W g t cs) (hj : cs[j]? = some (.string s)) (ho : o.op = Op.store 9 p q) (hp : a.eval p = .pointer (some ⟨g, j, none⟩)) (hq : a.eval q = .string s) :
    (execOp a.eval o).run Try.prog W = .ok .skip (W.setCell ⟨g, j, none⟩ (.string s)) := by
  have y := (Blk.cell hb j).trans hj
  have z := Blk.frozen hb j
  simp only [execOp, ho, hp, hq]
  go_simp

set_option maxHeartbeats 4000000 in
theorem own_any (i0 i1 : Int) (l r : ByteArray) (w : World) (h1 : l.size ≤ 140737488351232) (h2 : r.size ≤ 140737488351232) :
    Calls Try.prog 28 #[.agg #[.int .i64 i0, .int .i64 i1, .string l, .string r]] w fun e w' => e = .returned (.agg #[.int .i64 i0, .int .i64 i1, .string l, .string r]) ∧ Below w.heap.size w w' := by
  have HFl := Lib.hid h1
  have HFr := Lib.hid h2
  clear h1 h2
  go_enter Try.func28, Try.ntmps28
  go_wp2_with fail
  have hb0 : Blk ((w.alloc (.cells #[.int .i64 i0, .int .i64 i1, .string l, .string r] 39)).alloc (.cells #[.int .i64 0, .int .i64 0, .string ⟨#[]⟩, .string ⟨#[]⟩] 39)) w.heap.size 39 #[.int .i64 i0, .int .i64 i1, .string l, .string r] := (Blk.new w _ _).alloc _
  have hb2 : Blk ((w.alloc (.cells #[.int .i64 i0, .int .i64 i1, .string l, .string r] 39)).alloc (.cells #[.int .i64 0, .int .i64 0, .string ⟨#[]⟩, .string ⟨#[]⟩] 39)) (w.heap.size + 1) 39 #[.int .i64 0, .int .i64 0, .string ⟨#[]⟩, .string ⟨#[]⟩] := by
    have := Blk.new (w.alloc (.cells #[.int .i64 i0, .int .i64 i1, .string l, .string r] 39)) 39 #[.int .i64 0, .int .i64 0, .string ⟨#[]⟩, .string ⟨#[]⟩]
    simpa using this
  have hw0 : Below w.heap.size w ((w.alloc (.cells #[.int .i64 i0, .int .i64 i1, .string l, .string r] 39)).alloc (.cells #[.int .i64 0, .int .i64 0, .string ⟨#[]⟩, .string ⟨#[]⟩] 39)) := ((Below.refl _ _).alloc (Nat.le_refl _) _).alloc (by simp) _
  obtain ⟨w1, hw1⟩ : ∃ w1, w1 = (w.alloc (.cells #[.int .i64 i0, .int .i64 i1, .string l, .string r] 39)).alloc (.cells #[.int .i64 0, .int .i64 0, .string ⟨#[]⟩, .string ⟨#[]⟩] 39) := ⟨_, rfl⟩
  obtain ⟨g, hg⟩ : ∃ g, g = w.heap.size := ⟨_, rfl⟩
  obtain ⟨g2, hg2⟩ : ∃ g2, g2 = w.heap.size + 1 := ⟨_, rfl⟩
  rw [← hw1] at hb0 hb2 hw0 ⊢
  rw [← hg2] at hb2 ⊢
  rw [← hg] at hb0
  have HG : Hid (w.heap.size ≤ g) := Lib.hid (by omega)
  have HG2 : Hid (w.heap.size ≤ g2) := Lib.hid (by omega)
  have HNE : Hid (g2 ≠ g) := Lib.hid (by omega)
  rw [show (⟨w.heap.size, 0, none⟩ : Addr) = ⟨g, 0, none⟩ from by rw [hg]]
  have HB0 := Lib.hid hb0
  have HB2 := Lib.hid hb2
  have HW0 := Lib.hid hw0
  clear hb0 hb2 hw0 hw1 hg hg2
  refine wp_region_noPanic ?_
  refine wp_region_held_drew (S := fun W => (Blk W g 39 #[.int .i64 i0, .int .i64 i1, .string l, .string r] ∧ Blk W g2 39 #[.int .i64 0, .int .i64 0, .string ⟨#[]⟩, .string ⟨#[]⟩]) ∧ Below w.heap.size w W) (by kernel_rfl) (⟨⟨HB0.out, HB2.out⟩, HW0.out.drew⟩) (fun hS0 => ?_)
  change wpAnyH _ _ _ _ _ 10 #[false, false, false, false, false, false, false, false, false, false] _ (World.drew _)
  refine wpAnyH_take (i := 0) (v := .pointer (some ⟨g, 2, none⟩)) rfl (by kernel_rfl) (by kernel_rfl) (by kernel_rfl) (fun _ _ _ h => h) (Or.inl ⟨by rfl, fun w' hS' => by go_simp⟩) hS0 ?_
  change wpAnyH _ _ _ _ _ _ _ (Act.put _ (some 3) (.pointer (some ⟨g, 2, none⟩))) _
  simp only [Act.put, List.setIfInBounds_toArray, List.set_cons_zero, List.set_cons_succ]
  refine wpAnyH_take (i := 1) (v := .string l) rfl (by kernel_rfl) (by kernel_rfl) (by kernel_rfl) (fun _ _ _ h => h) (Or.inl ⟨by rfl, fun w' hS' => by obtain ⟨y0, y1, y2, y3⟩ := blk4 hS'.1.1; go_simp⟩) hS0 ?_
  change wpAnyH _ _ _ _ _ _ _ (Act.put _ (some 4) (.string l)) _
  simp only [Act.put, List.setIfInBounds_toArray, List.set_cons_zero, List.set_cons_succ]
  refine wpAnyH_take (i := 3) (v := .pointer (some ⟨g, 3, none⟩)) rfl (by kernel_rfl) (by kernel_rfl) (by kernel_rfl) (fun _ _ _ h => h) (Or.inl ⟨by rfl, fun w' hS' => by go_simp⟩) hS0 ?_
  change wpAnyH _ _ _ _ _ _ _ (Act.put _ (some 6) (.pointer (some ⟨g, 3, none⟩))) _
  simp only [Act.put, List.setIfInBounds_toArray, List.set_cons_zero, List.set_cons_succ]
  refine wpAnyH_take (i := 4) (v := .string r) rfl (by kernel_rfl) (by kernel_rfl) (by kernel_rfl) (fun _ _ _ h => h) (Or.inl ⟨by rfl, fun w' hS' => by obtain ⟨y0, y1, y2, y3⟩ := blk4 hS'.1.1; go_simp⟩) hS0 ?_
  change wpAnyH _ _ _ _ _ _ _ (Act.put _ (some 7) (.string r)) _
  simp only [Act.put, List.setIfInBounds_toArray, List.set_cons_zero, List.set_cons_succ]
  refine wpAnyH_ready (rs := [2]) (by kernel_rfl) (by simp) (AllReadyH.cons rfl (fun K hK => ?_) (AllReadyH.nil))
  · skip
    go_simp
    refine (clone_any l _ HFl.out).mono ?_
    rintro e W1 ⟨rfl, hb3⟩
    refine hK.out _ _ ⟨⟨Blk.below hS0.1.1 hb3 hS0.1.1.lt, Blk.below hS0.1.2 hb3 hS0.1.2.lt⟩, hS0.2.trans (hb3.mono hS0.2.size)⟩ (fun hS2 => ?_)
    clear hK K
    simp only [List.setIfInBounds_toArray, List.set_cons_zero, List.set_cons_succ]
    refine wpAnyH_take (i := 6) (v := .pointer (some ⟨g, 2, none⟩)) rfl (by kernel_rfl) (by kernel_rfl) (by kernel_rfl) (fun _ _ _ h => h) (Or.inl ⟨by rfl, fun w' hS' => by go_simp⟩) hS2 ?_
    change wpAnyH _ _ _ _ _ _ _ (Act.put _ (some 9) (.pointer (some ⟨g, 2, none⟩))) _
    simp only [Act.put, List.setIfInBounds_toArray, List.set_cons_zero, List.set_cons_succ]
    refine wpAnyH_ready (rs := [5]) (by kernel_rfl) (by simp) (AllReadyH.cons rfl (fun K hK => ?_) (AllReadyH.nil))
    · skip
      go_simp
      refine (clone_any r _ HFr.out).mono ?_
      rintro e W4 ⟨rfl, hb6⟩
      refine hK.out _ _ ⟨⟨Blk.below hS2.1.1 hb6 hS2.1.1.lt, Blk.below hS2.1.2 hb6 hS2.1.2.lt⟩, hS2.2.trans (hb6.mono hS2.2.size)⟩ (fun hS5 => ?_)
      clear hK K
      simp only [List.setIfInBounds_toArray, List.set_cons_zero, List.set_cons_succ]
      refine wpAnyH_ready (rs := [7]) (by kernel_rfl) (by simp) (AllReadyH.cons rfl (fun K hK => ?_) (AllReadyH.nil))
      · skip
        refine step_op_skip (op_store_own (j := 2) (s := l) hS5.1.1 (by rfl) rfl rfl rfl) rfl ?_
        refine hK.out _ _ ⟨⟨Blk.set_ hS5.1.1 2 (.string l), Blk.far hS5.1.2 HNE.out _⟩, hS5.2.setCell HG.out _⟩ (fun hS7 => ?_)
        clear hK K
        change wpAnyH _ _ _ _ _ _ _ (Act.put _ none (undef)) _
        simp only [Act.put]
        refine wpAnyH_take (i := 8) (v := .pointer (some ⟨g, 3, none⟩)) rfl (by kernel_rfl) (by kernel_rfl) (by kernel_rfl) (fun _ _ _ h => h) (Or.inl ⟨by rfl, fun w' hS' => by go_simp⟩) hS7 ?_
        change wpAnyH _ _ _ _ _ _ _ (Act.put _ (some 10) (.pointer (some ⟨g, 3, none⟩))) _
        simp only [Act.put, List.setIfInBounds_toArray, List.set_cons_zero, List.set_cons_succ]
        refine wpAnyH_ready (rs := [9]) (by kernel_rfl) (by simp) (AllReadyH.cons rfl (fun K hK => ?_) (AllReadyH.nil))
        · skip
          refine step_op_skip (op_store_own (j := 3) (s := r) hS7.1.1 (by rfl) rfl rfl rfl) rfl ?_
          refine hK.out _ _ ⟨⟨Blk.set_ hS7.1.1 3 (.string r), Blk.far hS7.1.2 HNE.out _⟩, hS7.2.setCell HG.out _⟩ (fun hS8 => ?_)
          clear hK K
          change wpAnyH _ _ _ _ _ _ _ (Act.put _ none (undef)) _
          simp only [Act.put]
          refine wpAnyH_done (by kernel_rfl) ?_ _
          refine NoPanic.normal ?_
          have hend := hS8
          obtain ⟨⟨hx1, hz1⟩, hw1⟩ := hend
          obtain ⟨y0, y1, y2, y3⟩ := blk4 hx1
          obtain ⟨z0, z1, z2, z3⟩ := blk4 hz1
          have q0 := Blk.frozen hz1 0
          have q1 := Blk.frozen hz1 1
          have q2 := Blk.frozen hz1 2
          have q3 := Blk.frozen hz1 3
          have HN := HNE.out
          have HW1 := Lib.hid hw1
          clear hx1 hz1 hw1
          go_wp2_with fail
          refine bodyPost_ret (v := .agg #[.int .i64 i0, .int .i64 i1, .string l, .string r]) (by simp [results, Try.results28, go_sem, z0, z1, z2, z3]) rfl ?_
          exact ⟨rfl, (((HW1.out.setCell HG2.out _).setCell HG2.out _).setCell HG2.out _).setCell HG2.out _⟩

end Go.Proofs.Ytaelenjnjoeheaa
