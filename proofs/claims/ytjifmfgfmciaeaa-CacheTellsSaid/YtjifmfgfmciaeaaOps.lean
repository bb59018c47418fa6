/-
  Steps of a region that draws its order: what is held may be strengthened on the way; what lays a list of slots that are written out; an append.
-/
import Derived.Test.YtjifmfgfmciaeaaRef
namespace Go.Proofs.Ytjifmfgfmciaeaa
open Go.RowKit

theorem wpAnyH_more {P : Program} {md : Region.Mode} {ops : Array Oper} {Q : Exit → Act → World → Prop} {S S' : World → Prop} (hS : ∀ w, S' w → S w) : ∀ {fuel : Nat} {listed : Array Bool} {a : Act} {w : World}, wpAnyH P md ops Q S' fuel listed a w → wpAnyH P md ops Q S fuel listed a w
  | 0, _, _, _, h => h
  | _ + 1, _, _, _, h => ⟨h.1, fun i hi => wpOp_mono (fun _ w' h' => ⟨hS w' h'.1, wpAnyH_more hS h'.2⟩) (h.2 i hi)⟩
theorem step_op_run {P : Program} {ops : Array Oper} {o : Oper} {a : Act} {w w' : World} {K : Act → World → Prop} {Q : Exit → Act → World → Prop} {E : Prop} {v' : Value}
    (hrun : (execOp a.eval o).run P w = .ok (.value v') w') (hgd : o.guard = none) (h : K (a.put o.dst v') w') : if Region.wanted o (yielded ops a.tmps) = true then Oper.wp P o a w K Q else E := by
  have hw : Region.wanted o (yielded ops a.tmps) = true := by simp [Region.wanted, hgd]
  rw [if_pos hw]
  unfold Oper.wp
  rw [hrun]
  exact h
theorem step_op_skip {P : Program} {ops : Array Oper} {o : Oper} {a : Act} {w w' : World} {K : Act → World → Prop} {Q : Exit → Act → World → Prop} {E : Prop}
    (hrun : (execOp a.eval o).run P w = .ok .skip w') (hgd : o.guard = none) (h : K (a.put o.dst undef) w') : if Region.wanted o (yielded ops a.tmps) = true then Oper.wp P o a w K Q else E := by
  have hw : Region.wanted o (yielded ops a.tmps) = true := by simp [Region.wanted, hgd]
  rw [if_pos hw]
  unfold Oper.wp
  rw [hrun]
  exact h
theorem op_move {v : Value} {o : Oper} {a : Act} {x : Operand} {W : World} (ho : o.op = Op.move x) (hx : a.eval x = v) : (execOp a.eval o).run Try.prog W = .ok (.value v) W := by
  simp [execOp, ho, hx]
theorem op_assign {v : Value} {o : Oper} {a : Act} {x : Operand} {W : World} (ho : o.op = Op.assign x) (hx : a.eval x = v) : (execOp a.eval o).run Try.prog W = .ok (.value v) W := by
  simp [execOp, ho, hx]
/-- a list written out is one that the call has made -/
theorem own_lit {α : Type} {f : α → List Value} {n : Nat} (hl : ∀ x, (f x).length = n) (t : TypeId) (w : World) (L : List α) (hL : L.length ≤ 1048576) :
    OwnR f n t w (w.alloc (.cells (L.flatMap f).toArray t)) (.slice (some ⟨w.heap.size, 0, none⟩) L.length L.length) L := by
  refine ⟨⟨flat_len hl L, .inr ⟨w.heap.size, L.length, (L.flatMap f).toArray, rfl, Nat.le_refl _, Blk.new w t _, Nat.le_refl _, by unfold maxLen; omega, ?_, ?_⟩⟩, (Below.refl _ _).alloc (Nat.le_refl _) _⟩
  · simp only [List.size_toArray]; exact flat_len hl L
  · show ((L.flatMap f).toArray).toList.take _ = _
    rw [List.take_of_length_le (by rw [List.toList_toArray, flat_len hl]; omega)]
theorem op_slice1 (x : Sl) (W : World) :
    ∃ g W1, (∀ (o : Oper) (a : Act) (p : Nat), o.op = Op.buildSlice 58 1 #[(0, .tmp p)] → a.eval (.tmp p) = x.v → (execOp a.eval o).run Try.prog W = .ok (.value (.slice (some ⟨g, 0, none⟩) 1 1)) W1) ∧
      OwnS W W1 (.slice (some ⟨g, 0, none⟩) 1 1) [x] := by
  refine ⟨W.heap.size, W.alloc (.cells ([x].flatMap Sl.cells).toArray 63), fun o a p ho hx => ?_, own_lit sl_len _ W [x] (by simp)⟩
  have hx' : a.tmps[p]?.getD undef = .agg #[.int .u64 x.sum, .int .i64 x.len, .string x.left, .string x.right, .string x.val] := by simpa [Act.eval, Sl.v] using hx
  simp only [execOp, ho]
  go_simp
  rfl
theorem op_slice2 (x y : Sl) (W : World) :
    ∃ g W1, (∀ (o : Oper) (a : Act) (p q : Nat), o.op = Op.buildSlice 58 2 #[(0, .tmp p), (1, .tmp q)] → a.eval (.tmp p) = x.v → a.eval (.tmp q) = y.v → (execOp a.eval o).run Try.prog W = .ok (.value (.slice (some ⟨g, 0, none⟩) 2 2)) W1) ∧
      OwnS W W1 (.slice (some ⟨g, 0, none⟩) 2 2) [x, y] := by
  refine ⟨W.heap.size, W.alloc (.cells ([x, y].flatMap Sl.cells).toArray 63), fun o a p q ho hx hy => ?_, own_lit sl_len _ W [x, y] (by simp)⟩
  have hx' : a.tmps[p]?.getD undef = .agg #[.int .u64 x.sum, .int .i64 x.len, .string x.left, .string x.right, .string x.val] := by simpa [Act.eval, Sl.v] using hx
  have hy' : a.tmps[q]?.getD undef = .agg #[.int .u64 y.sum, .int .i64 y.len, .string y.left, .string y.right, .string y.val] := by simpa [Act.eval, Sl.v] using hy
  simp only [execOp, ho]
  go_simp
  rfl
/-- what lies in a block that is known whole, behind -/
theorem blk_cells {w W : World} {g : Nat} {t : TypeId} {x : Sl} (h : Blk w g t #[.int .u64 x.sum, .int .i64 x.len, .string x.left, .string x.right, .string x.val]) (hb : Below w.heap.size w W) :
    W.cell? ⟨g, 0, none⟩ = some (.int .u64 x.sum) ∧ W.cell? ⟨g, 1, none⟩ = some (.int .i64 x.len) ∧ W.cell? ⟨g, 2, none⟩ = some (.string x.left) ∧ W.cell? ⟨g, 3, none⟩ = some (.string x.right) ∧ W.cell? ⟨g, 4, none⟩ = some (.string x.val) := by
  have h2 := Blk.below h hb h.lt
  exact ⟨h2.cell 0, h2.cell 1, h2.cell 2, h2.cell 3, h2.cell 4⟩

end Go.Proofs.Ytjifmfgfmciaeaa
