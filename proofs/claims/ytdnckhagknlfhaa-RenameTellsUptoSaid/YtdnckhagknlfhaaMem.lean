/-
  What lists of texts and of numbers are in memory (Strs, Ints), what a block that is known whole is (Blk), and how appends run. No walk of a function of the program.
-/
import Derived.Test.YtdnckhagknlfhaaRows
import Derived.WalkKit
import Derived.Lib.Hide
import Derived.Lib.Strings
import Derived.Below
import Derived.Laws.OwnMore
import Derived.Laws.Rows
import Derived.Deep.AppendLies
import Derived.Deep.Draws
import Derived.Maps.AppendAt
import Derived.Deep.QuietTactic
import Derived.BigQuiet
namespace Go.Proofs.Ytdnckhagknlfhaa
open Go.RowKit

theorem ret_bool {a b : Bool} (h : a = b) : Ending.returned (.bool a) = .returned (.bool b) := by rw [h]
theorem ret_int {k : IntKind} {a b : Int} (h : a = b) : Ending.returned (.int k a) = .returned (.int k b) := by rw [h]
theorem at_getD {α : Type} {l : List α} {k : Nat} {x : α} (hk : k < l.length) (h : x = l[k]) : l[k]? = some x := by rw [h]; exact List.getElem?_eq_getElem hk
theorem info9 : (Try.prog.info? 9).map (fun i => (i.zero, i.size, i.bytes)) = some (some (.string ⟨#[]⟩), 1, 16) := by kernel_rfl
theorem info3 : (Try.prog.info? 3).map (fun i => (i.zero, i.size, i.bytes)) = some (some (.int .i64 0), 1, 8) := by kernel_rfl
theorem grown_of_below {W w1 : World} (h : Below W.heap.size W w1) (row : Option Nat) : W.grownBy w1 row := ⟨h.os, h.tape, h.output, h.size, fun i hi _ => h.block i hi⟩
theorem row_shape {W : World} {base : Nat} {e : TypeId} {v : Value} {n : Nat} {xs : List Value} (h : W.ownsRow base e 1 v n xs) : ∃ A c, v = .slice A n c ∧ n ≤ c ∧ c ≤ maxLen := by
  rcases h.2 with ⟨rfl, rfl⟩ | ⟨g, cap, cur, rfl, _, _, h1, h2, _⟩
  · exact ⟨none, 0, rfl, Nat.le_refl _, Nat.zero_le _⟩
  · exact ⟨_, cap, rfl, h1, h2⟩
theorem below_drewN {B : Nat} {a w : World} (h : Below B a w) (n : Nat) : Below B a (w.drewN n) := ⟨h.os, h.tape, h.output, h.size, h.block⟩
theorem lt_of_cell {w : World} {p : Addr} {v : Value} (h : w.cell? p = some v) : p.block < w.heap.size := by
  rcases Nat.lt_or_ge p.block w.heap.size with g | g
  · exact g
  · simp [World.cell?, Array.getElem?_eq_none g] at h

/-- the slice '.slice A ss.length _' holds the texts ss, below block B -/
def Strs (w : World) (B : Nat) (A : Option Addr) (ss : List ByteArray) : Prop :=
  ss ≠ [] → ∃ a, A = some a ∧ a.block < B ∧ ∀ j s, ss[j]? = some s → w.cell? (a.add j) = some (.string s)

theorem add_block (a : Addr) (n : Nat) : (a.add n).block = a.block := by unfold Addr.add; split <;> rfl
theorem add_twice (a : Addr) (i j : Nat) : (a.add i).add j = a.add (i + j) := by
  unfold Addr.add
  by_cases hi : i = 0 <;> by_cases hj : j = 0 <;> simp [hi, hj, Nat.add_assoc]

section
variable {w w' : World} {B B' : Nat} {A : Option Addr} {ss : List ByteArray}
theorem Strs.nil : Strs w B A [] := fun h => absurd rfl h
theorem Strs.at_ (h : Strs w B A ss) {k : Nat} (hk : k < ss.length) : ∃ a, A = some a ∧ a.block < B ∧ w.cell? (a.add k) = some (.string ss[k]) := by
  obtain ⟨a, e, hb, hc⟩ := h (by intro e; subst e; simp at hk)
  exact ⟨a, e, hb, hc k _ (List.getElem?_eq_getElem hk)⟩
theorem Strs.keep (h : Strs w B A ss) (hk : ∀ p : Addr, p.block < B → w'.cell? p = w.cell? p) : Strs w' B A ss := fun hn => by
  obtain ⟨a, e, hb, hc⟩ := h hn
  exact ⟨a, e, hb, fun j s hj => (hk _ (by rw [add_block]; exact hb)).trans (hc j s hj)⟩
theorem Strs.more (h : Strs w B A ss) (hB : B ≤ B') : Strs w B' A ss := fun hn => by
  obtain ⟨a, e, hb, hc⟩ := h hn
  exact ⟨a, e, by omega, hc⟩
theorem Strs.below (h : Strs w B A ss) (hb : Below B w w') : Strs w' B A ss := h.keep fun _ hp => hb.cell hp
theorem Strs.drewN (h : Strs w B A ss) (n : Nat) : Strs (w.drewN n) B A ss := h
theorem Strs.drew (h : Strs w B A ss) : Strs w.drew B A ss := h
theorem Strs.alloc (h : Strs w B A ss) (hB : B ≤ w.heap.size) (o : Obj) : Strs (w.alloc o) B A ss := h.keep fun p hp => World.cell?_alloc_lt w o p (by omega)
theorem Strs.setCell (h : Strs w B A ss) {p : Addr} (hB : B ≤ p.block) (u : Value) : Strs (w.setCell p u) B A ss :=
  h.keep fun q hq => World.cell?_setCell_other w p q u (fun e => by subst e; omega)
theorem Strs.drop (h : Strs w B A ss) (k c : Nat) (hk : k ≤ ss.length) (hc : ss.length ≤ c) : Strs w B (if c = k then A else A.map (·.add k)) (ss.drop k) := fun hn => by
  have hk' : k < ss.length := by
    rcases Nat.lt_or_ge k ss.length with h' | h'
    · exact h'
    · exact absurd (List.drop_eq_nil_of_le h') hn
  obtain ⟨a, rfl, hb, hcell⟩ := h (by intro e; subst e; simp at hk')
  rw [if_neg (by omega)]
  refine ⟨a.add k, rfl, by rw [add_block]; exact hb, fun j s hj => ?_⟩
  rw [add_twice]
  exact hcell _ s (by rw [← hj, List.getElem?_drop])
theorem Strs.take (h : Strs w B A ss) (k : Nat) : Strs w B A (ss.take k) := fun hn => by
  obtain ⟨a, e, hb, hcell⟩ := h (by intro e; subst e; simp at hn)
  refine ⟨a, e, hb, fun j s hj => hcell j s ?_⟩
  rw [List.getElem?_take] at hj
  split at hj
  · exact hj
  · cases hj
theorem Strs.of_own {base : Nat} {e : TypeId} {c : Nat} (h : w.ownsRow base e 1 (.slice A ss.length c) ss.length (ss.map .string)) : Strs w w.heap.size A ss := fun hn => by
  obtain ⟨g, cap, hv, _, hlt⟩ := h.form (List.length_pos_iff.2 hn)
  have hA : A = some ⟨g, 0, none⟩ := by injection hv
  subst hA
  refine ⟨_, rfl, hlt, fun j s hj => ?_⟩
  exact h.cells (g := g) rfl j _ (by rw [List.getElem?_map, hj]; rfl)
end

/-- the slice '.slice A zs.length _' holds the numbers zs, below block B -/
def Ints (w : World) (B : Nat) (A : Option Addr) (zs : List Int) : Prop :=
  zs ≠ [] → ∃ a, A = some a ∧ a.block < B ∧ ∀ j z, zs[j]? = some z → w.cell? (a.add j) = some (.int .i64 z)
section
variable {w w' : World} {B B' : Nat} {A : Option Addr} {zs : List Int}
theorem Ints.at_ (h : Ints w B A zs) {k : Nat} (hk : k < zs.length) : ∃ a, A = some a ∧ a.block < B ∧ w.cell? (a.add k) = some (.int .i64 zs[k]) := by
  obtain ⟨a, e, hb, hc⟩ := h (by intro e; subst e; simp at hk)
  exact ⟨a, e, hb, hc k _ (List.getElem?_eq_getElem hk)⟩
theorem Ints.keep (h : Ints w B A zs) (hk : ∀ p : Addr, p.block < B → w'.cell? p = w.cell? p) : Ints w' B A zs := fun hn => by
  obtain ⟨a, e, hb, hc⟩ := h hn
  exact ⟨a, e, hb, fun j s hj => (hk _ (by rw [add_block]; exact hb)).trans (hc j s hj)⟩
theorem Ints.more (h : Ints w B A zs) (hB : B ≤ B') : Ints w B' A zs := fun hn => by
  obtain ⟨a, e, hb, hc⟩ := h hn
  exact ⟨a, e, by omega, hc⟩
theorem Ints.below (h : Ints w B A zs) (hb : Below B w w') : Ints w' B A zs := h.keep fun _ hp => hb.cell hp
end


section
variable {w w' : World} {B B' : Nat} {A : Option Addr} {zs : List Int}
theorem Ints.nil : Ints w B A [] := fun h => absurd rfl h
theorem Ints.drewN (h : Ints w B A zs) (n : Nat) : Ints (w.drewN n) B A zs := h
theorem Ints.drew (h : Ints w B A zs) : Ints w.drew B A zs := h
theorem Ints.alloc (h : Ints w B A zs) (hB : B ≤ w.heap.size) (o : Obj) : Ints (w.alloc o) B A zs := h.keep fun p hp => World.cell?_alloc_lt w o p (by omega)
theorem Ints.setCell (h : Ints w B A zs) {p : Addr} (hB : B ≤ p.block) (u : Value) : Ints (w.setCell p u) B A zs :=
  h.keep fun q hq => World.cell?_setCell_other w p q u (fun e => by subst e; omega)
theorem Ints.grown (h : Ints w B A zs) {row : Option Nat} (hg : w.grownBy w' row) (hB : B ≤ w.heap.size) (hr : ∀ g, row = some g → B ≤ g) : Ints w' B A zs :=
  h.keep fun p hp => World.cell?_of_block (hg.block p.block (by omega) (fun e => by have := hr _ e.symm; omega))
theorem Ints.of_own {base : Nat} {e : TypeId} {c : Nat} (h : w.ownsRow base e 1 (.slice A zs.length c) zs.length (zs.map (.int .i64))) : Ints w w.heap.size A zs := fun hn => by
  obtain ⟨g, cap, hv, _, hlt⟩ := h.form (List.length_pos_iff.2 hn)
  have hA : A = some ⟨g, 0, none⟩ := by injection hv
  subst hA
  refine ⟨_, rfl, hlt, fun j s hj => ?_⟩
  exact h.cells (g := g) rfl j _ (by rw [List.getElem?_map, hj]; rfl)
end
/-- a new list of numbers, written out -/
theorem ints_new (w : World) (zs : List Int) : Ints (w.alloc (.cells (zs.map (Value.int .i64)).toArray 3)) (w.heap.size + 1) (some ⟨w.heap.size, 0, none⟩) zs := fun _ => by
  refine ⟨_, rfl, by simp, fun j s hj => ?_⟩
  have hb := heap_alloc_new w (.cells (zs.map (Value.int .i64)).toArray 3)
  have := cell_of_row _ w.heap.size j _ 3 (0, 0) hb
  have he : ((⟨w.heap.size, 0, none⟩ : Addr).add j) = ⟨w.heap.size, j, none⟩ := by
    by_cases hj0 : j = 0 <;> simp [Addr.add, hj0]
  rw [he, this]
  simp [hj]
theorem run_append_ints (w : World) (base : Nat) (v : Value) (n : Nat) (xs : List Value) (hown : w.ownsRow base 3 1 v n xs) (a : Addr) (c : Nat) (z : Int) (hA : w.cell? a = some (.int .i64 z))
    (hb : n + 1 ≤ 1099511627776) (hbase : base ≤ w.heap.size) :
    ∃ A' c' w', (Builtin.append_ #[27, 27] 27 #[v, .slice (some a) 1 c]).run Try.prog w = .ok (.slice A' (n + 1) c') w' ∧ w'.ownsRow base 3 1 (.slice A' (n + 1) c') (n + 1) (xs ++ [.int .i64 z]) ∧ w.grownBy w' v.ownBlock := by
  obtain ⟨i0, hi, hz0, hz1, hz2⟩ := info_parts info3
  have hcells : ∀ j u, [Value.int .i64 z][j]? = some u → w.cell? (a.add j) = some u := by
    intro j u hu
    cases j with
    | zero => simp at hu; subst hu; simpa [Addr.add] using hA
    | succ j => simp at hu
  obtain ⟨v', w', hrun, h2, h3, _, _⟩ := run_append_own_at (P := Try.prog) w base 27 27 3 i0 _ 1 8 Try.underlying27 hi hz0 hz1 hz2 rfl (by decide) v n xs hown
    a 1 c [.int .i64 z] rfl hcells (by intro u hu; simp at hu; subst hu; rfl) (by unfold maxLen; omega) (by omega) hbase
  obtain ⟨A', c', rfl, _, _⟩ := row_shape h2
  exact ⟨A', c', w', hrun, h2, h3⟩
/-- a new list of texts, written out -/
theorem strs_new (w : World) (ss : List ByteArray) : Strs (w.alloc (.cells (ss.map Value.string).toArray 9)) (w.heap.size + 1) (some ⟨w.heap.size, 0, none⟩) ss := fun _ => by
  refine ⟨_, rfl, by simp, fun j s hj => ?_⟩
  have hb := heap_alloc_new w (.cells (ss.map Value.string).toArray 9)
  have := cell_of_row _ w.heap.size j _ 9 (0, 0) hb
  have he : ((⟨w.heap.size, 0, none⟩ : Addr).add j) = ⟨w.heap.size, j, none⟩ := by
    by_cases hj0 : j = 0 <;> simp [Addr.add, hj0]
  rw [he, this]
  simp [hj]

set_option maxRecDepth 10000 in
theorem run_append_strs (w : World) (base : Nat) (v : Value) (n : Nat) (xs : List Value) (hown : w.ownsRow base 9 1 v n xs) (H : Nat) (A : Option Addr) (m c : Nat) (news : List ByteArray) (hA : Strs w H A news) (hm : news.length = m)
    (hb : n + m ≤ 1099511627776) (hbase : base ≤ w.heap.size) :
    ∃ A' c' w', (Builtin.append_ #[39, 39] 39 #[v, .slice A m c]).run Try.prog w = .ok (.slice A' (n + m) c') w' ∧ w'.ownsRow base 9 1 (.slice A' (n + m) c') (n + m) (xs ++ news.map .string) ∧ w.grownBy w' v.ownBlock := by
  obtain ⟨i0, hi, hz0, hz1, hz2⟩ := info_parts info9
  cases A with
  | none =>
    have hn : news = [] := Classical.byContradiction fun h => by obtain ⟨a, e, _⟩ := hA h; cases e
    subst hn
    simp at hm
    subst hm
    have hrun : (Builtin.append_ #[39, 39] 39 #[v, .slice none 0 c]).run Try.prog w = .ok v w := by
      rcases hown.2 with ⟨rfl, rfl⟩ | ⟨g, cap, cur, rfl, _, _, hnc, _⟩
      · simp [Builtin.append_, run_underlying Try.underlying39, sizeOf, typeInfo, hi, Builtin.lenOf, Builtin.firstCells]
      · simp [Builtin.append_, run_underlying Try.underlying39, sizeOf, typeInfo, hi, Builtin.lenOf, Builtin.firstCells, hnc, storeCells]
    obtain ⟨A', c', rfl, _, _⟩ := row_shape hown
    exact ⟨A', c', w, hrun, by simpa using hown, World.grownBy.refl w _⟩
  | some a =>
    have hcells : ∀ j u, (news.map Value.string)[j]? = some u → w.cell? (a.add j) = some u := by
      intro j u hu
      rw [List.getElem?_map] at hu
      cases hj : news[j]? with
      | none => rw [hj] at hu; cases hu
      | some x =>
        rw [hj] at hu
        injection hu with hu
        subst hu
        obtain ⟨a', e, _, hcell⟩ := hA (by intro e; subst e; simp at hj)
        injection e with e
        subst e
        exact hcell j x hj
    obtain ⟨v', w', hrun, h2, h3, _, _⟩ := run_append_own_at (P := Try.prog) w base 39 39 9 i0 _ 1 16 Try.underlying39 hi hz0 hz1 hz2 rfl (by decide) v n xs hown
      a m c (news.map .string) (by simpa using hm) hcells (by intro u hu; simp at hu; obtain ⟨x, _, rfl⟩ := hu; rfl) (by unfold maxLen; omega) (by omega) hbase
    obtain ⟨A', c', rfl, _, _⟩ := row_shape h2
    exact ⟨A', c', w', hrun, h2, h3⟩

theorem wpList_append_run {P : Program} {ops : Array Oper} {rest : List Oper} {o : Oper} {a : Act} {w w' : World} {Q : Exit → Act → World → Prop} {sl x : Operand} {t ty : TypeId} {v u v' : Value}
    (hop : o.op = Op.call { callee := Callee.builtin Builtin.append, args := #[sl, x], argTypes := #[t, t] }) (hty : o.type = ty) (hwant : Region.wanted o (yielded ops a.tmps) = true) (hs : a.eval sl = v) (hx : a.eval x = u)
    (hrun : (Builtin.append_ #[t, t] ty #[v, u]).run P w = .ok v' w') (h : wpList P ops Q rest (a.put o.dst v') w') : wpList P ops Q (o :: rest) a w := by
  subst hty
  refine wpList_step fun K hK => ?_
  rw [if_pos hwant]
  unfold Oper.wp
  simp [execOp, hop, resolve, invoke, builtin, hs, hx, hrun, Result.andThen]
  exact hK _ _ h

end Go.Proofs.Ytdnckhagknlfhaa
