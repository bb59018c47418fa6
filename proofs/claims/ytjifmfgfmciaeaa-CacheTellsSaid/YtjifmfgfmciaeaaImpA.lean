/-
  Package lru: strings.Clone, own, owns, find, front, Keys: what each returns, and that nothing that was there is changed.
-/
import Derived.Test.YtjifmfgfmciaeaaFit
import Derived.Test.YtjifmfgfmciaeaaGet
import Derived.Test.YtjifmfgfmciaeaaShelf
import Derived.Deep.RegionHeld3
namespace Go.Proofs.Ytjifmfgfmciaeaa
open Go.RowKit

theorem clone_any (s : ByteArray) (w : World) (hs : s.size ≤ 140737488355328) :
    Calls Try.prog 48 #[.string s] w fun e w' => e = .returned (.string s) ∧ Below w.heap.size w w' := by
  go_enter Try.func48, Try.ntmps48
  go_wp2_with (go_at_call 57; refine (Try.stringslite_Clone _ _ (by omega)).mono ?_; rintro e w' ⟨rfl, hb⟩)
  go_ret
  exact ⟨rfl, hb⟩

/-- the cells of a slot that lies in a block of its own -/
theorem slot_cells5 {W : World} {g : Nat} {t : TypeId} {x : Sl} (h : Blk W g t #[.int .u64 x.sum, .int .i64 x.len, .string x.left, .string x.right, .string x.val]) :
    W.cell? ⟨g, 0, none⟩ = some (.int .u64 x.sum) ∧ W.cell? ⟨g, 1, none⟩ = some (.int .i64 x.len) ∧ W.cell? ⟨g, 2, none⟩ = some (.string x.left) ∧ W.cell? ⟨g, 3, none⟩ = some (.string x.right) ∧ W.cell? ⟨g, 4, none⟩ = some (.string x.val) :=
  ⟨h.cell 0, h.cell 1, h.cell 2, h.cell 3, h.cell 4⟩
theorem op_store_own {g j : Nat} {s : ByteArray} {t : TypeId} {cs : Array Value} {W : World} {o : Oper} {a : Act} {p q : Operand} (hb : Blk W g t cs) (hj : cs[j]? = some (.string s)) (ho : o.op = Op.store 9 p q) (hp : a.eval p = .pointer (some ⟨g, j, none⟩)) (hq : a.eval q = .string s) :
    (execOp a.eval o).run Try.prog W = .ok .skip (W.setCell ⟨g, j, none⟩ (.string s)) := by
  have y := (Blk.cell hb j).trans hj
  have z := Blk.frozen hb j
  simp only [execOp, ho, hp, hq]
  go_simp

set_option maxHeartbeats 2000000 in
theorem own_any (x : Sl) (w : World) (hx : FitS [x]) :
    Calls Try.prog 58 #[.agg #[.int .u64 x.sum, .int .i64 x.len, .string x.left, .string x.right, .string x.val]] w fun e w' => e = .returned (.agg #[.int .u64 x.sum, .int .i64 x.len, .string x.left, .string x.right, .string x.val]) ∧ Below w.heap.size w w' := by
  obtain ⟨⟨f1, f2, f3⟩, -, -⟩ := hx x (List.mem_singleton.2 rfl)
  have HFleft := Lib.hid f1
  have HFright := Lib.hid f2
  have HFval := Lib.hid f3
  clear hx f1 f2 f3
  go_enter Try.func58, Try.ntmps58
  go_wp2_with fail
  have hb0 : Blk ((w.alloc (.cells #[.int .u64 x.sum, .int .i64 x.len, .string x.left, .string x.right, .string x.val] 63)).alloc (.cells #[.int .u64 0, .int .i64 0, .string ⟨#[]⟩, .string ⟨#[]⟩, .string ⟨#[]⟩] 63)) w.heap.size 63 #[.int .u64 x.sum, .int .i64 x.len, .string x.left, .string x.right, .string x.val] := (Blk.new w _ _).alloc _
  have hb2 : Blk ((w.alloc (.cells #[.int .u64 x.sum, .int .i64 x.len, .string x.left, .string x.right, .string x.val] 63)).alloc (.cells #[.int .u64 0, .int .i64 0, .string ⟨#[]⟩, .string ⟨#[]⟩, .string ⟨#[]⟩] 63)) (w.heap.size + 1) 63 #[.int .u64 0, .int .i64 0, .string ⟨#[]⟩, .string ⟨#[]⟩, .string ⟨#[]⟩] := by
    have := Blk.new (w.alloc (.cells #[.int .u64 x.sum, .int .i64 x.len, .string x.left, .string x.right, .string x.val] 63)) 63 #[.int .u64 0, .int .i64 0, .string ⟨#[]⟩, .string ⟨#[]⟩, .string ⟨#[]⟩]
    simpa using this
  have hw0 : Below w.heap.size w ((w.alloc (.cells #[.int .u64 x.sum, .int .i64 x.len, .string x.left, .string x.right, .string x.val] 63)).alloc (.cells #[.int .u64 0, .int .i64 0, .string ⟨#[]⟩, .string ⟨#[]⟩, .string ⟨#[]⟩] 63)) := ((Below.refl _ _).alloc (Nat.le_refl _) _).alloc (by simp) _
  obtain ⟨w1, hw1⟩ : ∃ w1, w1 = (w.alloc (.cells #[.int .u64 x.sum, .int .i64 x.len, .string x.left, .string x.right, .string x.val] 63)).alloc (.cells #[.int .u64 0, .int .i64 0, .string ⟨#[]⟩, .string ⟨#[]⟩, .string ⟨#[]⟩] 63) := ⟨_, rfl⟩
  obtain ⟨g, hg⟩ : ∃ g, g = w.heap.size := ⟨_, rfl⟩
  obtain ⟨g2, hg2⟩ : ∃ g2, g2 = w.heap.size + 1 := ⟨_, rfl⟩
  rw [← hw1] at hb0 hb2 hw0 ⊢
  rw [← hg2] at hb2 ⊢
  rw [← hg] at hb0
  have HG : Hid (w.heap.size ≤ g) := Lib.hid (by omega)
  have HG2 : Hid (w.heap.size ≤ g2) := Lib.hid (by omega)
  have HNE : Hid (g2 ≠ g) := Lib.hid (by omega)
  rw [show (⟨w.heap.size, 0, none⟩ : Addr) = ⟨g, 0, none⟩ from by rw [hg]]
  have HB0 := Lib.hid hb0
  have HB2 := Lib.hid hb2
  have HW0 := Lib.hid hw0
  clear hb0 hb2 hw0 hw1 hg hg2
  refine wp_region_noPanic ?_
  refine wp_region_held_drew (S := fun W => (Blk W g 63 #[.int .u64 x.sum, .int .i64 x.len, .string x.left, .string x.right, .string x.val] ∧ Blk W g2 63 #[.int .u64 0, .int .i64 0, .string ⟨#[]⟩, .string ⟨#[]⟩, .string ⟨#[]⟩]) ∧ Below w.heap.size w W) (by kernel_rfl) (⟨⟨HB0.out, HB2.out⟩, HW0.out.drew⟩) (fun hS0 => ?_)
  change wpAnyH _ _ _ _ _ 15 #[false, false, false, false, false, false, false, false, false, false, false, false, false, false, false] _ (World.drew _)
  refine wpAnyH_take (i := 0) (v := .pointer (some ⟨g, 2, none⟩)) rfl (by kernel_rfl) (by kernel_rfl) (by kernel_rfl) (fun _ _ _ h => h) (Or.inl ⟨by rfl, fun w' hS' => by go_simp⟩) hS0 ?_
  change wpAnyH _ _ _ _ _ _ _ (Act.put _ (some 3) (.pointer (some ⟨g, 2, none⟩))) _
  simp only [Act.put, List.setIfInBounds_toArray, List.set_cons_zero, List.set_cons_succ]
  refine wpAnyH_take (i := 1) (v := .string x.left) rfl (by kernel_rfl) (by kernel_rfl) (by kernel_rfl) (fun _ _ _ h => h) (Or.inl ⟨by rfl, fun w' hS' => by obtain ⟨y0, y1, y2, y3, y4⟩ := slot_cells5 hS'.1.1; go_simp⟩) hS0 ?_
  change wpAnyH _ _ _ _ _ _ _ (Act.put _ (some 4) (.string x.left)) _
  simp only [Act.put, List.setIfInBounds_toArray, List.set_cons_zero, List.set_cons_succ]
  refine wpAnyH_take (i := 3) (v := .pointer (some ⟨g, 3, none⟩)) rfl (by kernel_rfl) (by kernel_rfl) (by kernel_rfl) (fun _ _ _ h => h) (Or.inl ⟨by rfl, fun w' hS' => by go_simp⟩) hS0 ?_
  change wpAnyH _ _ _ _ _ _ _ (Act.put _ (some 6) (.pointer (some ⟨g, 3, none⟩))) _
  simp only [Act.put, List.setIfInBounds_toArray, List.set_cons_zero, List.set_cons_succ]
  refine wpAnyH_take (i := 4) (v := .string x.right) rfl (by kernel_rfl) (by kernel_rfl) (by kernel_rfl) (fun _ _ _ h => h) (Or.inl ⟨by rfl, fun w' hS' => by obtain ⟨y0, y1, y2, y3, y4⟩ := slot_cells5 hS'.1.1; go_simp⟩) hS0 ?_
  change wpAnyH _ _ _ _ _ _ _ (Act.put _ (some 7) (.string x.right)) _
  simp only [Act.put, List.setIfInBounds_toArray, List.set_cons_zero, List.set_cons_succ]
  refine wpAnyH_take (i := 6) (v := .pointer (some ⟨g, 4, none⟩)) rfl (by kernel_rfl) (by kernel_rfl) (by kernel_rfl) (fun _ _ _ h => h) (Or.inl ⟨by rfl, fun w' hS' => by go_simp⟩) hS0 ?_
  change wpAnyH _ _ _ _ _ _ _ (Act.put _ (some 9) (.pointer (some ⟨g, 4, none⟩))) _
  simp only [Act.put, List.setIfInBounds_toArray, List.set_cons_zero, List.set_cons_succ]
  refine wpAnyH_take (i := 7) (v := .string x.val) rfl (by kernel_rfl) (by kernel_rfl) (by kernel_rfl) (fun _ _ _ h => h) (Or.inl ⟨by rfl, fun w' hS' => by obtain ⟨y0, y1, y2, y3, y4⟩ := slot_cells5 hS'.1.1; go_simp⟩) hS0 ?_
  change wpAnyH _ _ _ _ _ _ _ (Act.put _ (some 10) (.string x.val)) _
  simp only [Act.put, List.setIfInBounds_toArray, List.set_cons_zero, List.set_cons_succ]
  refine wpAnyH_ready (rs := [2]) (by kernel_rfl) (by simp) (AllReadyH.cons rfl (fun K hK => ?_) (AllReadyH.nil))
  · skip
    go_simp
    refine (clone_any x.left _ HFleft.out).mono ?_
    rintro e W1 ⟨rfl, hb3⟩
    refine hK.out _ _ ⟨⟨Blk.below hS0.1.1 hb3 hS0.1.1.lt, Blk.below hS0.1.2 hb3 hS0.1.2.lt⟩, hS0.2.trans (hb3.mono hS0.2.size)⟩ (fun hS2 => ?_)
    clear hK K
    simp only [List.setIfInBounds_toArray, List.set_cons_zero, List.set_cons_succ]
    refine wpAnyH_take (i := 9) (v := .pointer (some ⟨g, 2, none⟩)) rfl (by kernel_rfl) (by kernel_rfl) (by kernel_rfl) (fun _ _ _ h => h) (Or.inl ⟨by rfl, fun w' hS' => by go_simp⟩) hS2 ?_
    change wpAnyH _ _ _ _ _ _ _ (Act.put _ (some 12) (.pointer (some ⟨g, 2, none⟩))) _
    simp only [Act.put, List.setIfInBounds_toArray, List.set_cons_zero, List.set_cons_succ]
    refine wpAnyH_ready (rs := [5]) (by kernel_rfl) (by simp) (AllReadyH.cons rfl (fun K hK => ?_) (AllReadyH.nil))
    · skip
      go_simp
      refine (clone_any x.right _ HFright.out).mono ?_
      rintro e W4 ⟨rfl, hb6⟩
      refine hK.out _ _ ⟨⟨Blk.below hS2.1.1 hb6 hS2.1.1.lt, Blk.below hS2.1.2 hb6 hS2.1.2.lt⟩, hS2.2.trans (hb6.mono hS2.2.size)⟩ (fun hS5 => ?_)
      clear hK K
      simp only [List.setIfInBounds_toArray, List.set_cons_zero, List.set_cons_succ]
      refine wpAnyH_ready (rs := [8]) (by kernel_rfl) (by simp) (AllReadyH.cons rfl (fun K hK => ?_) (AllReadyH.nil))
      · skip
        go_simp
        refine (clone_any x.val _ HFval.out).mono ?_
        rintro e W7 ⟨rfl, hb9⟩
        refine hK.out _ _ ⟨⟨Blk.below hS5.1.1 hb9 hS5.1.1.lt, Blk.below hS5.1.2 hb9 hS5.1.2.lt⟩, hS5.2.trans (hb9.mono hS5.2.size)⟩ (fun hS8 => ?_)
        clear hK K
        simp only [List.setIfInBounds_toArray, List.set_cons_zero, List.set_cons_succ]
        refine wpAnyH_ready (rs := [10]) (by kernel_rfl) (by simp) (AllReadyH.cons rfl (fun K hK => ?_) (AllReadyH.nil))
        · skip
          refine step_op_skip (op_store_own (j := 2) (s := x.left) hS8.1.1 (by rfl) rfl rfl rfl) rfl ?_
          refine hK.out _ _ ⟨⟨Blk.set_ hS8.1.1 2 (.string x.left), Blk.far hS8.1.2 HNE.out _⟩, hS8.2.setCell HG.out _⟩ (fun hS10 => ?_)
          clear hK K
          change wpAnyH _ _ _ _ _ _ _ (Act.put _ none (undef)) _
          simp only [Act.put]
          refine wpAnyH_take (i := 11) (v := .pointer (some ⟨g, 3, none⟩)) rfl (by kernel_rfl) (by kernel_rfl) (by kernel_rfl) (fun _ _ _ h => h) (Or.inl ⟨by rfl, fun w' hS' => by go_simp⟩) hS10 ?_
          change wpAnyH _ _ _ _ _ _ _ (Act.put _ (some 13) (.pointer (some ⟨g, 3, none⟩))) _
          simp only [Act.put, List.setIfInBounds_toArray, List.set_cons_zero, List.set_cons_succ]
          refine wpAnyH_ready (rs := [12]) (by kernel_rfl) (by simp) (AllReadyH.cons rfl (fun K hK => ?_) (AllReadyH.nil))
          · skip
            refine step_op_skip (op_store_own (j := 3) (s := x.right) hS10.1.1 (by rfl) rfl rfl rfl) rfl ?_
            refine hK.out _ _ ⟨⟨Blk.set_ hS10.1.1 3 (.string x.right), Blk.far hS10.1.2 HNE.out _⟩, hS10.2.setCell HG.out _⟩ (fun hS11 => ?_)
            clear hK K
            change wpAnyH _ _ _ _ _ _ _ (Act.put _ none (undef)) _
            simp only [Act.put]
            refine wpAnyH_take (i := 13) (v := .pointer (some ⟨g, 4, none⟩)) rfl (by kernel_rfl) (by kernel_rfl) (by kernel_rfl) (fun _ _ _ h => h) (Or.inl ⟨by rfl, fun w' hS' => by go_simp⟩) hS11 ?_
            change wpAnyH _ _ _ _ _ _ _ (Act.put _ (some 14) (.pointer (some ⟨g, 4, none⟩))) _
            simp only [Act.put, List.setIfInBounds_toArray, List.set_cons_zero, List.set_cons_succ]
            refine wpAnyH_ready (rs := [14]) (by kernel_rfl) (by simp) (AllReadyH.cons rfl (fun K hK => ?_) (AllReadyH.nil))
            · skip
              refine step_op_skip (op_store_own (j := 4) (s := x.val) hS11.1.1 (by rfl) rfl rfl rfl) rfl ?_
              refine hK.out _ _ ⟨⟨Blk.set_ hS11.1.1 4 (.string x.val), Blk.far hS11.1.2 HNE.out _⟩, hS11.2.setCell HG.out _⟩ (fun hS12 => ?_)
              clear hK K
              change wpAnyH _ _ _ _ _ _ _ (Act.put _ none (undef)) _
              simp only [Act.put]
              refine wpAnyH_done (by kernel_rfl) ?_ _
              refine NoPanic.normal ?_
              obtain ⟨⟨hb1, hb2⟩, hw1⟩ := hS12
              obtain ⟨y0, y1, y2, y3, y4⟩ := slot_cells5 hb1
              have z0 := Blk.cell hb2 0
              have z1 := Blk.cell hb2 1
              have z2 := Blk.cell hb2 2
              have z3 := Blk.cell hb2 3
              have z4 := Blk.cell hb2 4
              have q0 := Blk.frozen hb2 0
              have q1 := Blk.frozen hb2 1
              have q2 := Blk.frozen hb2 2
              have q3 := Blk.frozen hb2 3
              have q4 := Blk.frozen hb2 4
              simp only [List.getElem?_toArray, List.getElem?_cons_zero, List.getElem?_cons_succ] at z0 z1 z2 z3 z4
              have HW1 := Lib.hid hw1
              have HN := HNE.out
              clear hb1 hw1
              go_wp2_with fail
              refine bodyPost_ret (v := .agg #[.int .u64 x.sum, .int .i64 x.len, .string x.left, .string x.right, .string x.val]) (by simp [results, Try.results58, go_sem, z0, z1, z2, z3, z4]) rfl ?_
              exact ⟨rfl, ((((HW1.out.setCell HG2.out _).setCell HG2.out _).setCell HG2.out _).setCell HG2.out _).setCell HG2.out _⟩

end Go.Proofs.Ytjifmfgfmciaeaa
