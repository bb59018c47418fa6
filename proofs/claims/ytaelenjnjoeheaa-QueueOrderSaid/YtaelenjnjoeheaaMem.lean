/-
  What lies in memory: blocks that are known whole, fields of structs, rows that a call makes, and how appends run. No walk of a function of the program.
-/
import Derived.Test.YtaelenjnjoeheaaRows
import Derived.WalkKit
import Derived.Lib.Hide
import Derived.Lib.Strings
import Derived.Below
import Derived.Laws.OwnMore
import Derived.Laws.Rows
import Derived.Deep.AppendLies
import Derived.Deep.Draws
import Derived.Maps.AppendAt
import Derived.Deep.QuietTactic
import Derived.BigQuiet
import Derived.Deep.OwnRows
namespace Go.Proofs.Ytaelenjnjoeheaa
open Go.RowKit

theorem ret_bool {a b : Bool} (h : a = b) : Ending.returned (.bool a) = .returned (.bool b) := by rw [h]
theorem ret_int {k : IntKind} {a b : Int} (h : a = b) : Ending.returned (.int k a) = .returned (.int k b) := by rw [h]
theorem at_getD {α : Type} {l : List α} {k : Nat} {x : α} (hk : k < l.length) (h : x = l[k]) : l[k]? = some x := by rw [h]; exact List.getElem?_eq_getElem hk
theorem grown_of_below {W w1 : World} (h : Below W.heap.size W w1) (row : Option Nat) : W.grownBy w1 row := ⟨h.os, h.tape, h.output, h.size, fun i hi _ => h.block i hi⟩
theorem below_drewN {B : Nat} {a w : World} (h : Below B a w) (n : Nat) : Below B a (w.drewN n) := ⟨h.os, h.tape, h.output, h.size, h.block⟩
theorem lt_of_cell {w : World} {p : Addr} {v : Value} (h : w.cell? p = some v) : p.block < w.heap.size := by
  rcases Nat.lt_or_ge p.block w.heap.size with g | g
  · exact g
  · simp [World.cell?, Array.getElem?_eq_none g] at h
theorem add_block (a : Addr) (n : Nat) : (a.add n).block = a.block := by unfold Addr.add; split <;> rfl
theorem add_twice (a : Addr) (i j : Nat) : (a.add i).add j = a.add (i + j) := by
  unfold Addr.add
  by_cases hi : i = 0 <;> by_cases hj : j = 0 <;> simp [hi, hj, Nat.add_assoc]
theorem add_zero_block (g j : Nat) : ((⟨g, 0, none⟩ : Addr).add j) = ⟨g, j, none⟩ := by by_cases hj0 : j = 0 <;> simp [Addr.add, hj0]
theorem field_at (a : Addr) (n i : Nat) (hi : i ≠ 0) : (⟨(a.add n).block, (a.add n).off + i, none⟩ : Addr) = a.add (n + i) := by
  rw [← add_twice]
  conv => rhs; unfold Addr.add
  rw [if_neg hi]
  rfl
theorem own_slice {w : World} {base n size : Nat} {e : TypeId} {v : Value} {xs : List Value} (h : w.ownsRow base e size v n xs) : ∃ A c, v = .slice A n c := by
  rcases h.2 with ⟨rfl, h0⟩ | ⟨g, cap, cur, rfl, _⟩
  · exact ⟨none, 0, by rw [h0]⟩
  · exact ⟨_, cap, rfl⟩

/-- a block that is known whole -/
def Blk (w : World) (g : Nat) (t : TypeId) (cs : Array Value) : Prop := w.heap[g]? = some (.cells cs t (0, 0))
section
variable {w w' : World} {g : Nat} {t : TypeId} {cs : Array Value}
theorem Blk.lt (h : Blk w g t cs) : g < w.heap.size := by
  rcases Nat.lt_or_ge g w.heap.size with hlt | hge
  · exact hlt
  · unfold Blk at h; rw [Array.getElem?_eq_none hge] at h; cases h
theorem Blk.cell (h : Blk w g t cs) (i : Nat) : w.cell? ⟨g, i, none⟩ = cs[i]? := cell_of_row w g i cs t (0, 0) h
theorem Blk.frozen (h : Blk w g t cs) (i : Nat) : w.frozen? ⟨g, i, none⟩ = false := by
  unfold Blk at h
  simp [World.frozen?, h]
theorem Blk.new (w : World) (t : TypeId) (cs : Array Value) : Blk (w.alloc (.cells cs t)) w.heap.size t cs := heap_alloc_new w _
theorem Blk.alloc (h : Blk w g t cs) (o : Obj) : Blk (w.alloc o) g t cs := (Below.heap_alloc w o g h.lt).trans h
theorem Blk.set_ (h : Blk w g t cs) (i : Nat) (u : Value) : Blk (w.setCell ⟨g, i, none⟩ u) g t (cs.setIfInBounds i u) := by
  unfold Blk at h ⊢
  simp [World.setCell, Array.getElem?_modify, h]
theorem Blk.far (h : Blk w g t cs) {p : Addr} (hp : g ≠ p.block) (u : Value) : Blk (w.setCell p u) g t cs := (Below.heap_setCell w p u g hp).trans h
theorem Blk.below {B : Nat} (h : Blk w g t cs) (hb : Below B w w') (hg : g < B) : Blk w' g t cs := (hb.block g hg).trans h
theorem Blk.grown {row : Option Nat} (h : Blk w g t cs) (hb : w.grownBy w' row) (hg : some g ≠ row) : Blk w' g t cs := (hb.block g h.lt hg).trans h
end
theorem bcell {W w1 : World} (hb : Below W.heap.size W w1) : (∀ b o, b < W.heap.size → w1.cell? ⟨b, o, none⟩ = W.cell? ⟨b, o, none⟩) ∧ (∀ b o, b < W.heap.size → w1.frozen? ⟨b, o, none⟩ = W.frozen? ⟨b, o, none⟩) :=
  ⟨fun b o h => hb.cell (p := ⟨b, o, none⟩) h, fun b o h => hb.frozen (p := ⟨b, o, none⟩) h⟩
/-- nothing but draws -/
def Drew (w w' : World) : Prop := ∃ n, w' = w.drewN n
theorem Drew.refl (w : World) : Drew w w := ⟨0, rfl⟩
theorem Drew.more {w w' : World} (h : Drew w w') (n : Nat) : Drew w (w'.drewN n) := by
  obtain ⟨m, rfl⟩ := h
  exact ⟨m + n, by rw [World.drewN_drewN]⟩
theorem Drew.below {w w' : World} (h : Drew w w') : Below w.heap.size w w' := by
  obtain ⟨n, rfl⟩ := h
  exact below_drewN (Below.refl _ _) n
theorem wpList_append_run {P : Program} {ops : Array Oper} {rest : List Oper} {o : Oper} {a : Act} {w w' : World} {Q : Exit → Act → World → Prop} {sl x : Operand} {t ty : TypeId} {v u v' : Value}
    (hop : o.op = Op.call { callee := Callee.builtin Builtin.append, args := #[sl, x], argTypes := #[t, t] }) (hty : o.type = ty) (hwant : Region.wanted o (yielded ops a.tmps) = true) (hs : a.eval sl = v) (hx : a.eval x = u)
    (hrun : (Builtin.append_ #[t, t] ty #[v, u]).run P w = .ok v' w') (h : wpList P ops Q rest (a.put o.dst v') w') : wpList P ops Q (o :: rest) a w := by
  subst hty
  refine wpList_step fun K hK => ?_
  rw [if_pos hwant]
  unfold Oper.wp
  simp [execOp, hop, resolve, invoke, builtin, hs, hx, hrun, Result.andThen]
  exact hK _ _ h
theorem step_append_run2 {P : Program} {ops : Array Oper} {o : Oper} {a : Act} {w w' : World} {K : Act → World → Prop} {Q : Exit → Act → World → Prop} {E : Prop} {sl x : Operand} {t ty : TypeId} {v u v' : Value}
    (hrun : (Builtin.append_ #[t, t] ty #[v, u]).run P w = .ok v' w') (hgd : o.guard = none) (hop : o.op = Op.call { callee := Callee.builtin Builtin.append, args := #[sl, x], argTypes := #[t, t] }) (hty : o.type = ty) (hs : a.eval sl = v) (hx : a.eval x = u)
    (h : K (a.put o.dst v') w') : if Region.wanted o (yielded ops a.tmps) = true then Oper.wp P o a w K Q else E := by
  subst hty
  have hw : Region.wanted o (yielded ops a.tmps) = true := by simp [Region.wanted, hgd]
  rw [if_pos hw]
  unfold Oper.wp
  simp [execOp, hop, resolve, invoke, builtin, hs, hx, hrun, Result.andThen]
  exact h
/-- how long lists of parts of one length are -/
theorem flat_len {α : Type} {f : α → List Value} {n : Nat} (h : ∀ x, (f x).length = n) : ∀ L : List α, (L.flatMap f).length = L.length * n
  | [] => by simp
  | x :: L => by rw [List.flatMap_cons, List.length_append, h, flat_len h L, List.length_cons, Nat.add_mul]; omega

/-! ### rows of structs, whatever their cells -/
/-- the slice '.slice A L.length _' holds what f tells of the things in L, n cells each -/
def RowAt {α : Type} (f : α → List Value) (n : Nat) (w : World) (A : Option Addr) (L : List α) : Prop :=
  L ≠ [] → ∃ a, A = some a ∧ a.block < w.heap.size ∧ ∀ k x, L[k]? = some x → ∀ j u, (f x)[j]? = some u → w.cell? (a.add (k * n + j)) = some u
section
variable {α : Type} {f : α → List Value} {n : Nat} {w w' : World} {A : Option Addr} {L M : List α}
theorem RowAt.nil : RowAt f n w A [] := fun h => absurd rfl h
theorem RowAt.at_ (h : RowAt f n w A L) {k : Nat} {x : α} (hk : L[k]? = some x) : ∃ a, A = some a ∧ a.block < w.heap.size ∧ ∀ j u, (f x)[j]? = some u → w.cell? (a.add (k * n + j)) = some u := by
  obtain ⟨a, e, hb, hc⟩ := h (by intro e; subst e; simp at hk)
  exact ⟨a, e, hb, hc k x hk⟩
theorem RowAt.up (h : RowAt f n w A L) (hb : Below w.heap.size w w') : RowAt f n w' A L := fun hn => by
  obtain ⟨a, e, hl, hc⟩ := h hn
  exact ⟨a, e, Nat.lt_of_lt_of_le hl hb.size, fun k x hk j u hu => (hb.cell (by rw [add_block]; exact hl)).trans (hc k x hk j u hu)⟩
theorem RowAt.drew (h : RowAt f n w A L) : RowAt f n w.drew A L := h
theorem RowAt.drewN (h : RowAt f n w A L) (k : Nat) : RowAt f n (w.drewN k) A L := h
theorem RowAt.take (h : RowAt f n w A L) (k : Nat) : RowAt f n w A (L.take k) := fun hn => by
  obtain ⟨a, e, hb, hc⟩ := h (by intro e; subst e; simp at hn)
  refine ⟨a, e, hb, fun j x hj => hc j x ?_⟩
  rw [List.getElem?_take] at hj
  split at hj
  · exact hj
  · cases hj
theorem RowAt.drop (h : RowAt f n w A L) (k c : Nat) (hk : k ≤ L.length) (hc : L.length ≤ c) : RowAt f n w (if c = k then A else A.map (·.add (k * n))) (L.drop k) := fun hn => by
  have hkl : k < L.length := by
    rcases Nat.lt_or_ge k L.length with g | g
    · exact g
    · rw [List.drop_eq_nil_of_le g] at hn; exact absurd rfl hn
  obtain ⟨a, e, hb, hcell⟩ := h (by intro e; subst e; simp at hkl)
  subst e
  rw [if_neg (by omega)]
  refine ⟨a.add (k * n), rfl, by rw [add_block]; exact hb, fun j x hj i u hu => ?_⟩
  rw [List.getElem?_drop] at hj
  rw [add_twice, show k * n + (j * n + i) = (k + j) * n + i by rw [Nat.add_mul]; omega]
  exact hcell _ x hj i u hu
theorem flat_at (hl : ∀ x, (f x).length = n) : ∀ {L : List α} {k : Nat} {x : α}, L[k]? = some x → ∀ j u, (f x)[j]? = some u → (L.flatMap f)[k * n + j]? = some u
  | [], k, x, h => by simp at h
  | y :: L, 0, x, h => fun j u hu => by
    simp at h
    subst h
    have hj : j < (f y).length := (List.getElem?_eq_some_iff.1 hu).1
    rw [List.flatMap_cons, List.getElem?_append_left (by omega)]
    simpa using hu
  | y :: L, k + 1, x, h => fun j u hu => by
    rw [List.flatMap_cons, List.getElem?_append_right (by rw [hl, Nat.add_mul]; omega), hl, show (k + 1) * n + j - n = k * n + j by rw [Nat.add_mul]; omega]
    exact flat_at hl (by simpa using h) j u hu
theorem RowAt.of_own (hl : ∀ x, (f x).length = n) {base m c : Nat} {t : TypeId} (h : w.ownsRow base t n (.slice A m c) m (L.flatMap f)) (hm : L.length = m) : RowAt f n w A L := fun hne => by
  obtain ⟨g, cap, hv, _, hlt⟩ := h.form (by rw [← hm]; exact List.length_pos_iff.2 hne)
  have hA : A = some ⟨g, 0, none⟩ := by injection hv
  subst hA
  refine ⟨_, rfl, hlt, fun k x hk j u hu => h.cells (g := g) rfl _ _ (flat_at hl hk j u hu)⟩
theorem RowAt.of_blk (hl : ∀ x, (f x).length = n) {g : Nat} {t : TypeId} (h : Blk w g t (L.flatMap f).toArray) : RowAt f n w (some ⟨g, 0, none⟩) L := fun _ => by
  refine ⟨_, rfl, h.lt, fun k x hk j u hu => ?_⟩
  rw [add_zero_block]
  exact (h.cell _).trans (by simpa using flat_at hl hk j u hu)
theorem RowAt.cells (hl : ∀ x, (f x).length = n) (hn : 0 < n) {a : Addr} (h : RowAt f n w (some a) L) : ∀ j u, (L.flatMap f)[j]? = some u → w.cell? (a.add j) = some u := by
  intro j u hu
  have hj : j < (L.flatMap f).length := (List.getElem?_eq_some_iff.1 hu).1
  rw [flat_len hl] at hj
  have hd : j / n < L.length := Nat.div_lt_of_lt_mul (by rw [Nat.mul_comm]; exact hj)
  obtain ⟨x, hx⟩ : ∃ x, L[j / n]? = some x := ⟨_, List.getElem?_eq_getElem hd⟩
  have hm : j % n < n := Nat.mod_lt _ hn
  obtain ⟨v, hv⟩ : ∃ v, (f x)[j % n]? = some v := ⟨_, List.getElem?_eq_getElem (by rw [hl]; exact hm)⟩
  have e : j / n * n + j % n = j := by rw [Nat.mul_comm]; exact Nat.div_add_mod j n
  have h1 := flat_at hl hx _ _ hv
  rw [e, hu] at h1
  injection h1 with h1
  subst h1
  obtain ⟨a', ea, _, hc⟩ := h.at_ hx
  injection ea with ea
  subst ea
  have := hc _ _ hv
  rwa [e] at this

/-- v is a list that was made behind w0; nothing that was there in w0 is changed -/
def OwnR (f : α → List Value) (n : Nat) (t : TypeId) (w0 w : World) (v : Value) (L : List α) : Prop := w.ownsRow w0.heap.size t n v L.length (L.flatMap f) ∧ Below w0.heap.size w0 w
variable {t ls : TypeId} {w0 : World} {v : Value}
theorem OwnR.nil (w : World) : OwnR f n t w w (.slice none 0 0) [] := ⟨World.ownsRow_nil _ _ _ _, Below.refl _ _⟩
theorem OwnR.nil' {w0 w : World} (h : Below w0.heap.size w0 w) : OwnR f n t w0 w (.slice none 0 0) [] := ⟨World.ownsRow_nil _ _ _ _, h⟩
theorem OwnR.up (h : OwnR f n t w0 w v L) (hb : Below w.heap.size w w') : OwnR f n t w0 w' v L :=
  ⟨World.ownsRow.kept h.1 (grown_of_below hb none) (by cases v.ownBlock <;> simp), h.2.trans (hb.mono h.2.size)⟩
theorem OwnR.base {w1 : World} (h : OwnR f n t w1 w v L) (hb : Below w0.heap.size w0 w1) : OwnR f n t w0 w v L := by
  refine ⟨⟨h.1.1, ?_⟩, hb.trans (h.2.mono hb.size)⟩
  rcases h.1.2 with h1 | ⟨g, cap, cur, h1, h2, h3⟩
  · exact .inl h1
  · exact .inr ⟨g, cap, cur, h1, Nat.le_trans hb.size h2, h3⟩
theorem OwnR.at_ (hl : ∀ x, (f x).length = n) {c m : Nat} (h : OwnR f n t w0 w (.slice A m c) L) (hm : L.length = m) : RowAt f n w A L := by
  subst hm
  exact RowAt.of_own hl h.1 rfl
theorem OwnR.slice (h : OwnR f n t w0 w v L) : ∃ A c, v = .slice A L.length c := own_slice h.1
theorem OwnR.cap {m c : Nat} (h : OwnR f n t w0 w (.slice A m c) L) : L.length ≤ c ∧ c ≤ maxLen := by
  rcases h.1.2 with ⟨h1, h2⟩ | ⟨g, cap, cur, h1, _, _, h3, h4, _⟩
  · injection h1 with _ h5 h6
    exact ⟨by omega, by omega⟩
  · injection h1 with _ _ h5
    exact ⟨by omega, by omega⟩
/-- one more, out of a box of its own -/
theorem OwnR.push (hl : ∀ x, (f x).length = n) (h1 : ∀ x, ∀ u ∈ f x, u.oneCell' = true) (hn : 0 < n) {z : Value} {bytes : Nat} (hinfo : (Try.prog.info? t).map (fun i => (i.zero, i.size, i.bytes)) = some (some z, n, bytes)) (hzn : z.cells.size = n) (hls : Try.prog.underlying ls = some (.slice t)) (hby : bytes ≤ 1024)
    {W : World} (h : OwnR f n t w0 W v L) (x : α) (m : Nat) (hm : L.length + 1 = m) (hL : m ≤ 1048576) :
    ∃ A' c' W', (Builtin.append_ #[ls, ls] ls #[v, .slice (some ⟨W.heap.size, 0, none⟩) 1 1]).run Try.prog (W.alloc (.cells (f x).toArray t)) = .ok (.slice A' m c') W' ∧ OwnR f n t w0 W' (.slice A' m c') (L ++ [x]) ∧ W.grownBy W' v.ownBlock := by
  subst hm
  obtain ⟨i0, hi, hz0, hz1, hz2⟩ := info_parts hinfo
  have hal : Below W.heap.size W (W.alloc (.cells (f x).toArray t)) := (Below.refl _ _).alloc (Nat.le_refl _) _
  have h2 := h.up hal
  have hnew := Blk.new W t (f x).toArray
  have hb2 : (L.length + 1) * bytes ≤ 1048576 * 1024 := Nat.mul_le_mul hL hby
  obtain ⟨v', W', hrun, hown, hg, _, _⟩ := run_append_own_at (P := Try.prog) (W.alloc (.cells (f x).toArray t)) w0.heap.size ls ls t i0 _ n bytes hls hi hz0 hz1 hz2 hzn hn v L.length (L.flatMap f) h2.1
    ⟨W.heap.size, 0, none⟩ 1 1 (f x) (by rw [hl]; omega) (by
      intro j u hu
      rw [add_zero_block, hnew.cell j]
      simpa using hu) (h1 x) (by unfold maxLen; omega) (by omega) h2.2.size
  obtain ⟨A', c', rfl⟩ := own_slice hown
  refine ⟨A', c', W', hrun, ⟨?_, h2.2.grown hg h2.2.size (fun k hk => (h2.1.lt k hk).1)⟩, ⟨hg.os, hg.tape, hg.output, by have := hg.size; simp at this; omega, fun i hi hne => (hg.block i (by simp; omega) hne).trans (Below.heap_alloc W _ i hi)⟩⟩
  rw [List.flatMap_append, List.length_append]
  simpa using hown
/-- a list behind one that a call makes -/
theorem OwnR.append (hl : ∀ x, (f x).length = n) (h1 : ∀ x, ∀ u ∈ f x, u.oneCell' = true) (hn : 0 < n) {z : Value} {bytes : Nat} (hinfo : (Try.prog.info? t).map (fun i => (i.zero, i.size, i.bytes)) = some (some z, n, bytes)) (hzn : z.cells.size = n) (hls : Try.prog.underlying ls = some (.slice t)) (hby : bytes ≤ 1024)
    (h : OwnR f n t w0 w v L) {A : Option Addr} (m c : Nat) (hA : RowAt f n w A M) (hm : M.length = m) (Y : List α) (hY : Y = L ++ M) (hb : Y.length ≤ 1048576) :
    ∃ A' c' w', (Builtin.append_ #[ls, ls] ls #[v, .slice A m c]).run Try.prog w = .ok (.slice A' Y.length c') w' ∧ OwnR f n t w0 w' (.slice A' Y.length c') Y ∧ w.grownBy w' v.ownBlock := by
  subst hm
  have hle : L.length + M.length = Y.length := by rw [hY, List.length_append]
  obtain ⟨i0, hi, hz0, hz1, hz2⟩ := info_parts hinfo
  cases A with
  | none =>
    have hn : M = [] := Classical.byContradiction fun g => by obtain ⟨a, e, _⟩ := hA g; cases e
    subst hn
    have hYL : Y = L := by rw [hY, List.append_nil]
    subst hYL
    have hrun : (Builtin.append_ #[ls, ls] ls #[v, .slice none 0 c]).run Try.prog w = .ok v w := by
      rcases h.1.2 with ⟨rfl, _⟩ | ⟨g, cap, cur, rfl, _, _, hnc, _⟩
      · simp [Builtin.append_, run_underlying hls, sizeOf, typeInfo, hi, Builtin.lenOf, Builtin.firstCells]
      · simp [Builtin.append_, run_underlying hls, sizeOf, typeInfo, hi, Builtin.lenOf, Builtin.firstCells, hnc, storeCells]
    obtain ⟨A', c', rfl⟩ := own_slice h.1
    exact ⟨A', c', w, hrun, h, World.grownBy.refl w _⟩
  | some a =>
    have hb2 : Y.length * bytes ≤ 1048576 * 1024 := Nat.mul_le_mul hb hby
    obtain ⟨v', w', hrun, h2, h3, _, _⟩ := run_append_own_at (P := Try.prog) w w0.heap.size ls ls t i0 _ n bytes hls hi hz0 hz1 hz2 hzn hn v L.length (L.flatMap f) h.1
      a M.length c (M.flatMap f) (flat_len hl M) (hA.cells hl hn) (by intro u hu; obtain ⟨x, _, hx⟩ := List.mem_flatMap.1 hu; exact h1 x u hx) (by unfold maxLen; omega) (by rw [hle]; omega) h.2.size
    obtain ⟨A', c', rfl⟩ := own_slice h2
    rw [hle] at hrun h2
    refine ⟨A', c', w', hrun, ⟨?_, h.2.grown h3 h.2.size (fun g e => (h.1.lt g e).1)⟩, h3⟩
    rw [hY] at h2 ⊢
    rw [List.flatMap_append]
    exact h2
end

end Go.Proofs.Ytaelenjnjoeheaa
