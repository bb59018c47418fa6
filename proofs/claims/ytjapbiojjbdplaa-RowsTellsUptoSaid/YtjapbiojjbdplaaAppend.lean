/-
  An append of texts onto a list of the call's own, the source nil, empty or not: how it runs, and a step of the walk for an append whose run is known, guarded or not.
-/
import Derived.Test.YtjapbiojjbdplaaAwake
namespace Go.Proofs.Ytjapbiojjbdplaa
open Go.RowKit
open Pl

theorem run_append_strs (w : World) (base : Nat) (v : Value) (n : Nat) (xs : List Value) (hown : w.ownsRow base 9 1 v n xs) (H : Nat) (A : Option Addr) (m c : Nat) (news : List ByteArray) (hA : Strs w H A news) (hm : news.length = m)
    (hb : n + m ≤ 1099511627776) (hbase : base ≤ w.heap.size) :
    ∃ A' c' w', (Builtin.append_ #[22, 22] 22 #[v, .slice A m c]).run Try.prog w = .ok (.slice A' (n + m) c') w' ∧ w'.ownsRow base 9 1 (.slice A' (n + m) c') (n + m) (xs ++ news.map .string) ∧ w.grownBy w' v.ownBlock := by
  obtain ⟨i0, hi, hz0, hz1, hz2⟩ := info_parts info9
  cases A with
  | none =>
    have hn : news = [] := Classical.byContradiction fun h => by obtain ⟨a, e, _⟩ := hA h; cases e
    subst hn
    simp at hm
    subst hm
    have hrun : (Builtin.append_ #[22, 22] 22 #[v, .slice none 0 c]).run Try.prog w = .ok v w := by
      rcases hown.2 with ⟨rfl, rfl⟩ | ⟨g, cap, cur, rfl, _, _, hnc, _⟩
      · simp [Builtin.append_, run_underlying Try.underlying22, sizeOf, typeInfo, hi, Builtin.lenOf, Builtin.firstCells]
      · simp [Builtin.append_, run_underlying Try.underlying22, sizeOf, typeInfo, hi, Builtin.lenOf, Builtin.firstCells, hnc, storeCells]
    obtain ⟨A', c', rfl, _, _⟩ := row_shape hown
    exact ⟨A', c', w, hrun, by simpa using hown, World.grownBy.refl w _⟩
  | some a =>
    have hcells : ∀ j u, (news.map Value.string)[j]? = some u → w.cell? (a.add j) = some u := by
      intro j u hu
      rw [List.getElem?_map] at hu
      cases hj : news[j]? with
      | none => rw [hj] at hu; cases hu
      | some x =>
        rw [hj] at hu
        injection hu with hu
        subst hu
        obtain ⟨a', e, _, hcell⟩ := hA (by intro e; subst e; simp at hj)
        injection e with e
        subst e
        exact hcell j x hj
    obtain ⟨v', w', hrun, h2, h3, _, _⟩ := run_append_own_at (P := Try.prog) w base 22 22 9 i0 _ 1 16 Try.underlying22 hi hz0 hz1 hz2 rfl (by decide) v n xs hown
      a m c (news.map .string) (by simpa using hm) hcells (by intro u hu; simp at hu; obtain ⟨x, _, rfl⟩ := hu; rfl) (by unfold maxLen; omega) (by omega) hbase
    obtain ⟨A', c', rfl, _, _⟩ := row_shape h2
    exact ⟨A', c', w', hrun, h2, h3⟩

theorem wpList_append_run {P : Program} {ops : Array Oper} {rest : List Oper} {o : Oper} {a : Act} {w w' : World} {Q : Exit → Act → World → Prop} {sl x : Operand} {t ty : TypeId} {v u v' : Value}
    (hop : o.op = Op.call { callee := Callee.builtin Builtin.append, args := #[sl, x], argTypes := #[t, t] }) (hty : o.type = ty) (hwant : Region.wanted o (yielded ops a.tmps) = true) (hs : a.eval sl = v) (hx : a.eval x = u)
    (hrun : (Builtin.append_ #[t, t] ty #[v, u]).run P w = .ok v' w') (h : wpList P ops Q rest (a.put o.dst v') w') : wpList P ops Q (o :: rest) a w := by
  subst hty
  refine wpList_step fun K hK => ?_
  rw [if_pos hwant]
  unfold Oper.wp
  simp [execOp, hop, resolve, invoke, builtin, hs, hx, hrun, Result.andThen]
  exact hK _ _ h

end Go.Proofs.Ytjapbiojjbdplaa
