/-
  Steps of a region that draws its order: what runs; a task and a queue stored into a box that is known whole.
-/
import Derived.Test.YtaelenjnjoeheaaTsk
import Derived.Deep.RegionHeld3
import Derived.Deep.DeepCutAuto
import Derived.Lib.MinMax
namespace Go.Proofs.Ytaelenjnjoeheaa
open Go.RowKit P16

theorem step_op_run {P : Program} {ops : Array Oper} {o : Oper} {a : Act} {w w' : World} {K : Act → World → Prop} {Q : Exit → Act → World → Prop} {E : Prop} {v' : Value}
    (hrun : (execOp a.eval o).run P w = .ok (.value v') w') (hgd : o.guard = none) (h : K (a.put o.dst v') w') : if Region.wanted o (yielded ops a.tmps) = true then Oper.wp P o a w K Q else E := by
  have hw : Region.wanted o (yielded ops a.tmps) = true := by simp [Region.wanted, hgd]
  rw [if_pos hw]
  unfold Oper.wp
  rw [hrun]
  exact h
theorem step_op_skip {P : Program} {ops : Array Oper} {o : Oper} {a : Act} {w w' : World} {K : Act → World → Prop} {Q : Exit → Act → World → Prop} {E : Prop}
    (hrun : (execOp a.eval o).run P w = .ok .skip w') (hgd : o.guard = none) (h : K (a.put o.dst undef) w') : if Region.wanted o (yielded ops a.tmps) = true then Oper.wp P o a w K Q else E := by
  have hw : Region.wanted o (yielded ops a.tmps) = true := by simp [Region.wanted, hgd]
  rw [if_pos hw]
  unfold Oper.wp
  rw [hrun]
  exact h
theorem op_move {v : Value} {o : Oper} {a : Act} {x : Operand} {W : World} (ho : o.op = Op.move x) (hx : a.eval x = v) : (execOp a.eval o).run Try.prog W = .ok (.value v) W := by
  simp [execOp, ho, hx]
theorem op_assign {v : Value} {o : Oper} {a : Act} {x : Operand} {W : World} (ho : o.op = Op.assign x) (hx : a.eval x = v) : (execOp a.eval o).run Try.prog W = .ok (.value v) W := by
  simp [execOp, ho, hx]
theorem Blk.drew {w : World} {g : Nat} {t : TypeId} {cs : Array Value} (h : Blk w g t cs) : Blk w.drew g t cs := h
theorem Blk.drewN {w : World} {g : Nat} {t : TypeId} {cs : Array Value} (h : Blk w g t cs) (n : Nat) : Blk (w.drewN n) g t cs := h
theorem blk3 {w : World} {g : Nat} {t : TypeId} {v0 v1 v2 : Value} (h : Blk w g t #[v0, v1, v2]) : w.cell? ⟨g, 0, none⟩ = some v0 ∧ w.cell? ⟨g, 1, none⟩ = some v1 ∧ w.cell? ⟨g, 2, none⟩ = some v2 :=
  ⟨h.cell 0, h.cell 1, h.cell 2⟩
theorem blk4 {w : World} {g : Nat} {t : TypeId} {v0 v1 v2 v3 : Value} (h : Blk w g t #[v0, v1, v2, v3]) : w.cell? ⟨g, 0, none⟩ = some v0 ∧ w.cell? ⟨g, 1, none⟩ = some v1 ∧ w.cell? ⟨g, 2, none⟩ = some v2 ∧ w.cell? ⟨g, 3, none⟩ = some v3 :=
  ⟨h.cell 0, h.cell 1, h.cell 2, h.cell 3⟩
theorem grown_set (W : World) (g j : Nat) (u : Value) : W.grownBy (W.setCell ⟨g, j, none⟩ u) (some g) :=
  ⟨rfl, rfl, rfl, by simp, fun k _ hk => heap_setCell_other W ⟨g, j, none⟩ k _ (fun e => hk (by simp [e]))⟩
theorem grown_below {B : Nat} {w W W' : World} {g : Nat} (h : Below B w W) (hg : W.grownBy W' (some g)) (hB : B ≤ W.heap.size) (hb : B ≤ g) : Below B w W' :=
  h.grown hg hB (fun b e => by injection e with e; omega)
theorem op_storeT {g : Nat} {u0 u1 u2 u3 : Value} {W : World} (hb : Blk W g 39 #[u0, u1, u2, u3]) (i0 i1 : Int) (l r : ByteArray) :
    ∃ W1, (∀ (o : Oper) (a : Act) (p q : Operand), o.op = Op.store 39 p q → a.eval p = .pointer (some ⟨g, 0, none⟩) → a.eval q = .agg #[.int .i64 i0, .int .i64 i1, .string l, .string r] → (execOp a.eval o).run Try.prog W = .ok .skip W1) ∧
      Blk W1 g 39 #[.int .i64 i0, .int .i64 i1, .string l, .string r] ∧ W.grownBy W1 (some g) := by
  obtain ⟨y0, y1, y2, y3⟩ := blk4 hb
  have z0 := Blk.frozen hb 0
  have z1 := Blk.frozen hb 1
  have z2 := Blk.frozen hb 2
  have z3 := Blk.frozen hb 3
  refine ⟨(((W.setCell ⟨g, 0, none⟩ (.int .i64 i0)).setCell ⟨g, 1, none⟩ (.int .i64 i1)).setCell ⟨g, 2, none⟩ (.string l)).setCell ⟨g, 3, none⟩ (.string r), fun o a p q ho hx hy => ?_,
    (((Blk.set_ hb 0 (.int .i64 i0)).set_ 1 (.int .i64 i1)).set_ 2 (.string l)).set_ 3 (.string r), (((grown_set _ _ _ _).trans (grown_set _ _ _ _)).trans (grown_set _ _ _ _)).trans (grown_set _ _ _ _)⟩
  simp only [execOp, ho, hx, hy]
  go_simp
theorem op_storeQ {g : Nat} {u0 u1 u2 : Value} {W : World} (hb : Blk W g 24 #[u0, u1, u2]) (i0 : Int) (b1 : Bool) (A : Option Addr) (n c : Nat) :
    ∃ W1, (∀ (o : Oper) (a : Act) (p q : Operand), o.op = Op.store 24 p q → a.eval p = .pointer (some ⟨g, 0, none⟩) → a.eval q = .agg #[.int .i64 i0, .bool b1, .slice A n c] → (execOp a.eval o).run Try.prog W = .ok .skip W1) ∧
      Blk W1 g 24 #[.int .i64 i0, .bool b1, .slice A n c] ∧ W.grownBy W1 (some g) := by
  obtain ⟨y0, y1, y2⟩ := blk3 hb
  have z0 := Blk.frozen hb 0
  have z1 := Blk.frozen hb 1
  have z2 := Blk.frozen hb 2
  refine ⟨((W.setCell ⟨g, 0, none⟩ (.int .i64 i0)).setCell ⟨g, 1, none⟩ (.bool b1)).setCell ⟨g, 2, none⟩ (.slice A n c), fun o a p q ho hx hy => ?_,
    ((Blk.set_ hb 0 (.int .i64 i0)).set_ 1 (.bool b1)).set_ 2 (.slice A n c), ((grown_set _ _ _ _).trans (grown_set _ _ _ _)).trans (grown_set _ _ _ _)⟩
  simp only [execOp, ho, hx, hy]
  go_simp
theorem op_allocQ (W : World) : ∃ g W1, (∀ (o : Oper) (a : Act), o.op = Op.alloc 24 → (execOp a.eval o).run Try.prog W = .ok (.value (.pointer (some ⟨g, 0, none⟩))) W1) ∧ Blk W1 g 24 #[.int .i64 0, .bool false, .slice none 0 0] ∧ Below W.heap.size W W1 ∧ W.heap.size ≤ g := by
  refine ⟨W.heap.size, W.alloc (.cells #[.int .i64 0, .bool false, .slice none 0 0] 24), fun o a ho => ?_, Blk.new _ _ _, (Below.refl _ _).alloc (Nat.le_refl _) _, Nat.le_refl _⟩
  rw [show execOp a.eval o = execOp a.eval { o with op := Op.alloc 24 } from by rw [← ho]]
  kernel_rfl
/-- a task laid in memory as a list of one -/
theorem op_oneT (x : Tk) (W : World) : ∃ g W1, (∀ (o : Oper) (a : Act) (p : Nat), o.op = Op.buildSlice 22 1 #[(0, .tmp p)] → a.eval (.tmp p) = .agg #[.int .i64 x.req, .int .i64 x.slot, .string x.left, .string x.right] → (execOp a.eval o).run Try.prog W = .ok (.value (.slice (some ⟨g, 0, none⟩) 1 1)) W1) ∧
    g = W.heap.size ∧ W1 = W.alloc (.cells #[.int .i64 x.req, .int .i64 x.slot, .string x.left, .string x.right] 39) := by
  refine ⟨W.heap.size, W.alloc (.cells #[.int .i64 x.req, .int .i64 x.slot, .string x.left, .string x.right] 39), fun o a p ho hx => ?_, rfl, rfl⟩
  have hx' : a.tmps[p]?.getD undef = .agg #[.int .i64 x.req, .int .i64 x.slot, .string x.left, .string x.right] := by simpa [Act.eval] using hx
  simp only [execOp, ho]
  go_simp

end Go.Proofs.Ytaelenjnjoeheaa
