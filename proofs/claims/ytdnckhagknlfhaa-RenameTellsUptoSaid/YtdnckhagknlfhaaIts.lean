/-
  Lists of items that a call makes: an append of one item, and a copy of items that are there.
-/
import Derived.Test.YtdnckhagknlfhaaAwake
namespace Go.Proofs.Ytdnckhagknlfhaa
open Go.RowKit

theorem its_len : ∀ x : It, x.cells.length = 4 := fun _ => rfl
theorem its_one : ∀ x : It, ∀ v ∈ x.cells, v.oneCell' = true := fun x v hv => by
  simp [It.cells] at hv; rcases hv with rfl | rfl | rfl | rfl <;> rfl
theorem info33 : (Try.prog.info? 33).map (fun i => (i.zero, i.size, i.bytes)) = some (some (.agg #[.string ⟨#[]⟩, .int .i64 0, .string ⟨#[]⟩, .bool false]), 4, 48) := by kernel_rfl
/-- v is a list of items that was made behind w0; nothing that was there in w0 is changed -/
def OwnI (w0 w : World) (v : Value) (L : List It) : Prop := w.ownsRow w0.heap.size 33 4 v L.length (L.flatMap It.cells) ∧ Below w0.heap.size w0 w
theorem OwnI.nil (w : World) : OwnI w w (.slice none 0 0) [] := ⟨World.ownsRow_nil _ _ _ _, Below.refl _ _⟩
theorem OwnI.up {w0 w w' : World} {v : Value} {L : List It} (h : OwnI w0 w v L) (hb : Below w.heap.size w w') : OwnI w0 w' v L :=
  ⟨World.ownsRow.kept h.1 (grown_of_below hb none) (by cases v.ownBlock <;> simp), h.2.trans (hb.mono h.2.size)⟩
theorem OwnI.push {w0 W : World} {v : Value} {L : List It} (h : OwnI w0 W v L) (m : It) (l : Nat) (hl : L.length + 1 = l) (hL : l ≤ 65536) :
    ∃ A' c' W', (Builtin.append_ #[23, 23] 23 #[v, .slice (some ⟨W.heap.size, 0, none⟩) 1 1]).run Try.prog (W.alloc (.cells #[.string m.path, .int .i64 m.kind, .string m.data, .bool m.bad] 33)) = .ok (.slice A' l c') W' ∧ OwnI w0 W' (.slice A' l c') (L ++ [m]) ∧ W.grownBy W' v.ownBlock := by
  subst hl
  obtain ⟨i0, hi, hz0, hz1, hz2⟩ := info_parts info33
  have hal : Below W.heap.size W (W.alloc (.cells #[.string m.path, .int .i64 m.kind, .string m.data, .bool m.bad] 33)) := (Below.refl _ _).alloc (Nat.le_refl _) _
  have h2 := h.up hal
  have hnew := Blk.new W 33 #[.string m.path, .int .i64 m.kind, .string m.data, .bool m.bad]
  obtain ⟨v', W', hrun, hown, hg, _, _⟩ := run_append_own_at (P := Try.prog) (W.alloc (.cells #[.string m.path, .int .i64 m.kind, .string m.data, .bool m.bad] 33)) w0.heap.size 23 23 33 i0 _ 4 48 Try.underlying23 hi hz0 hz1 hz2 rfl (by decide) v L.length (L.flatMap It.cells) h2.1
    ⟨W.heap.size, 0, none⟩ 1 1 m.cells rfl (by
      intro j u hu
      rw [add_zero_block, hnew.cell j]
      simpa [It.cells] using hu) (its_one m) (by unfold maxLen; omega) (by omega) h2.2.size
  obtain ⟨A', c', rfl⟩ := own_slice hown
  refine ⟨A', c', W', hrun, ⟨?_, h2.2.grown hg h2.2.size (fun k hk => (h2.1.lt k hk).1)⟩, ⟨hg.os, hg.tape, hg.output, by have := hg.size; simp at this; omega, fun i hi hne => (hg.block i (by simp; omega) hne).trans (Below.heap_alloc W _ i hi)⟩⟩
  rw [List.flatMap_append, List.length_append]
  simpa using hown
theorem items_cells {w : World} {a : Addr} {L : List It} (h : ItemsAt w (some a) L) : ∀ j u, (L.flatMap It.cells)[j]? = some u → w.cell? (a.add j) = some u := by
  intro j u hu
  have hj : j < (L.flatMap It.cells).length := (List.getElem?_eq_some_iff.1 hu).1
  rw [flat_len its_len] at hj
  obtain ⟨x, hx⟩ : ∃ x, L[j / 4]? = some x := ⟨_, List.getElem?_eq_getElem (by omega)⟩
  obtain ⟨a', ea, _, c0, c1, c2, c3⟩ := h.at_ hx
  injection ea with ea
  subst ea
  obtain ⟨f0, f1, f2, f3⟩ := it_at hx
  rw [field_at _ _ 1 (by decide)] at c1
  rw [field_at _ _ 2 (by decide)] at c2
  rw [field_at _ _ 3 (by decide)] at c3
  rcases (show j = j / 4 * 4 ∨ j = j / 4 * 4 + 1 ∨ j = j / 4 * 4 + 2 ∨ j = j / 4 * 4 + 3 by omega) with e | e | e | e
  · rw [e] at hu; rw [e, c0]; rw [← hu]; exact f0.symm
  · rw [e] at hu; rw [e, c1]; rw [← hu]; exact f1.symm
  · rw [e] at hu; rw [e, c2]; rw [← hu]; exact f2.symm
  · rw [e] at hu; rw [e, c3]; rw [← hu]; exact f3.symm
/-- a copy of items: append to nothing -/
theorem copy_items {w : World} {A : Option Addr} {L : List It} (m c : Nat) (h : ItemsAt w A L) (hm : L.length = m) (hL : m ≤ 65536) :
    ∃ A' c' w', (Builtin.append_ #[23, 23] 23 #[.slice none 0 0, .slice A m c]).run Try.prog w = .ok (.slice A' m c') w' ∧ OwnI w w' (.slice A' m c') L := by
  subst hm
  obtain ⟨i0, hi, hz0, hz1, hz2⟩ := info_parts info33
  cases A with
  | none =>
    have hn : L = [] := Classical.byContradiction fun g => by obtain ⟨a, e, _⟩ := h g; cases e
    subst hn
    have hrun : (Builtin.append_ #[23, 23] 23 #[.slice none 0 0, .slice none 0 c]).run Try.prog w = .ok (.slice none 0 0) w := by
      simp [Builtin.append_, run_underlying Try.underlying23, sizeOf, typeInfo, hi, Builtin.lenOf, Builtin.firstCells]
    exact ⟨none, 0, w, hrun, OwnI.nil w⟩
  | some a =>
    obtain ⟨v', w', hrun, h2, h3, _, _⟩ := run_append_own_at (P := Try.prog) w w.heap.size 23 23 33 i0 _ 4 48 Try.underlying23 hi hz0 hz1 hz2 rfl (by decide) (.slice none 0 0) 0 [] (World.ownsRow_nil _ _ _ _)
      a L.length c (L.flatMap It.cells) (flat_len its_len L) (items_cells h) (by intro u hu; obtain ⟨x, _, hx⟩ := List.mem_flatMap.1 hu; exact its_one x u hx) (by unfold maxLen; omega) (by omega) (Nat.le_refl _)
    obtain ⟨A', c', rfl⟩ := own_slice h2
    rw [Nat.zero_add] at hrun h2
    exact ⟨A', c', w', hrun, by simpa using h2, (Below.refl _ _).grown h3 (Nat.le_refl _) (fun k hk => by cases hk)⟩
theorem ItemsAt.of_own {w : World} {base n c : Nat} {A : Option Addr} {L : List It} (h : w.ownsRow base 33 4 (.slice A n c) n (L.flatMap It.cells)) (hn : L.length = n) : ItemsAt w A L := fun hne => by
  obtain ⟨g, cap, hv, _, hlt⟩ := h.form (by rw [← hn]; exact List.length_pos_iff.2 hne)
  have hA : A = some ⟨g, 0, none⟩ := by injection hv
  subst hA
  refine ⟨_, rfl, hlt, fun k x hk => ?_⟩
  obtain ⟨h1, h2, h3, h4⟩ := it_at hk
  rw [field_at _ _ 1 (by decide), field_at _ _ 2 (by decide), field_at _ _ 3 (by decide)]
  exact ⟨h.cells (g := g) rfl _ _ h1, h.cells (g := g) rfl _ _ h2, h.cells (g := g) rfl _ _ h3, h.cells (g := g) rfl _ _ h4⟩

end Go.Proofs.Ytdnckhagknlfhaa
