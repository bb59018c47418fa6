/-
  Steps of a region that draws its order: what runs, one number laid in memory, an append; lists of numbers that a call makes.
-/
import Derived.Test.YtllkegonhghkcaaRin
import Derived.Deep.RegionHeld3
namespace Go.Proofs.Ytllkegonhghkcaa
open Go.RowKit P15

theorem step_op_run {P : Program} {ops : Array Oper} {o : Oper} {a : Act} {w w' : World} {K : Act → World → Prop} {Q : Exit → Act → World → Prop} {E : Prop} {v' : Value}
    (hrun : (execOp a.eval o).run P w = .ok (.value v') w') (hgd : o.guard = none) (h : K (a.put o.dst v') w') : if Region.wanted o (yielded ops a.tmps) = true then Oper.wp P o a w K Q else E := by
  have hw : Region.wanted o (yielded ops a.tmps) = true := by simp [Region.wanted, hgd]
  rw [if_pos hw]
  unfold Oper.wp
  rw [hrun]
  exact h
theorem step_op_skip {P : Program} {ops : Array Oper} {o : Oper} {a : Act} {w w' : World} {K : Act → World → Prop} {Q : Exit → Act → World → Prop} {E : Prop}
    (hrun : (execOp a.eval o).run P w = .ok .skip w') (hgd : o.guard = none) (h : K (a.put o.dst undef) w') : if Region.wanted o (yielded ops a.tmps) = true then Oper.wp P o a w K Q else E := by
  have hw : Region.wanted o (yielded ops a.tmps) = true := by simp [Region.wanted, hgd]
  rw [if_pos hw]
  unfold Oper.wp
  rw [hrun]
  exact h
theorem op_move {v : Value} {o : Oper} {a : Act} {x : Operand} {W : World} (ho : o.op = Op.move x) (hx : a.eval x = v) : (execOp a.eval o).run Try.prog W = .ok (.value v) W := by
  simp [execOp, ho, hx]
theorem op_assign {v : Value} {o : Oper} {a : Act} {x : Operand} {W : World} (ho : o.op = Op.assign x) (hx : a.eval x = v) : (execOp a.eval o).run Try.prog W = .ok (.value v) W := by
  simp [execOp, ho, hx]
/-- one number -/
theorem op_one (n : Int) (W : World) : ∃ g W1, (∀ (o : Oper) (a : Act) (p : Nat), o.op = Op.buildSlice 26 1 #[(0, .tmp p)] → a.eval (.tmp p) = .int .i64 n → (execOp a.eval o).run Try.prog W = .ok (.value (.slice (some ⟨g, 0, none⟩) 1 1)) W1) ∧
    g = W.heap.size ∧ W1 = W.alloc (.cells #[.int .i64 n] 3) := by
  refine ⟨W.heap.size, W.alloc (.cells #[.int .i64 n] 3), fun o a p ho hx => ?_, rfl, rfl⟩
  have hx' : a.tmps[p]?.getD undef = .int .i64 n := by simpa [Act.eval] using hx
  simp only [execOp, ho]
  go_simp
theorem int_push {w0 W : World} {v : Value} {L : List Int} (h : OwnI w0 W v L) (n : Int) (m : Nat) (hm : L.length + 1 = m) (hL : m ≤ 1048576) :
    ∃ A' c' W', (Builtin.append_ #[26, 26] 26 #[v, .slice (some ⟨W.heap.size, 0, none⟩) 1 1]).run Try.prog (W.alloc (.cells #[.int .i64 n] 3)) = .ok (.slice A' m c') W' ∧ OwnI w0 W' (.slice A' m c') (L ++ [n]) ∧ W.grownBy W' v.ownBlock :=
  OwnR.push i_len i_one (by decide) infoI (by rfl) Try.underlying26 (by decide) h n m hm hL
theorem int_append {w0 w : World} {v : Value} {L M : List Int} (h : OwnI w0 w v L) {A : Option Addr} (m c : Nat) (hA : IntsAt w A M) (hm : M.length = m) (k : Nat) (hk : L.length + m = k) (hb : k ≤ 1048576) :
    ∃ A' c' w', (Builtin.append_ #[26, 26] 26 #[v, .slice A m c]).run Try.prog w = .ok (.slice A' k c') w' ∧ OwnI w0 w' (.slice A' k c') (L ++ M) ∧ w.grownBy w' v.ownBlock := by
  have hl : (L ++ M).length = k := by rw [List.length_append, hm, hk]
  obtain ⟨A', c', w', h1, h2, h3⟩ := OwnR.append i_len i_one (by decide) infoI (by rfl) Try.underlying26 (by decide) h m c hA hm (L ++ M) rfl (by rw [hl]; exact hb)
  rw [hl] at h1 h2
  exact ⟨A', c', w', h1, h2, h3⟩
theorem OwnR.grown {α : Type} {f : α → List Value} {n : Nat} {t : TypeId} {w0 w w' : World} {v : Value} {L : List α} (h : OwnR f n t w0 w v L) (hg : w.grownBy w' v.ownBlock) : Below w0.heap.size w0 w' :=
  h.2.grown hg h.2.size (fun _ e => (OwnR.typed h e).1)

end Go.Proofs.Ytllkegonhghkcaa
