/-
  Operations of drawn regions on lists of pairs: a pair is read, a slice of one pair is made, pairs are appended.
-/
import Derived.Test.YtdnckhagknlfhaaApA
import Derived.Test.YtdnckhagknlfhaaGreedy
namespace Go.Proofs.Ytdnckhagknlfhaa
open Go.RowKit

/-- a pair's cells, and its value -/
abbrev pc (x : Pr) : Array Value := #[.string x.fr, .string x.tt, .int .i64 x.sc]
abbrev pv (x : Pr) : Value := .agg #[.string x.fr, .string x.tt, .int .i64 x.sc]
theorem op_slice29 (x : Pr) (W : World) :
    ∃ g W1, (∀ (o : Oper) (a : Act) (y : Nat), o.op = Op.buildSlice 29 1 #[(0, .tmp y)] → a.eval (.tmp y) = pv x → (execOp a.eval o).run Try.prog W = .ok (.value (.slice (some ⟨g, 0, none⟩) 1 1)) W1) ∧
      Blk W1 g 37 (pc x) ∧ Below W.heap.size W W1 ∧ W.heap.size ≤ g := by
  refine ⟨W.heap.size, W.alloc (.cells (pc x) 37), fun o a y ho hy => ?_, Blk.new _ _ _, (Below.refl _ _).alloc (Nat.le_refl _) _, Nat.le_refl _⟩
  have hy' : a.tmps[y]?.getD undef = pv x := by simpa [Act.eval] using hy
  simp only [execOp, ho]
  go_simp
theorem one_pr {W : World} {g : Nat} {x : Pr} (hb : Blk W g 37 (pc x)) : PrsAt W (some ⟨g, 0, none⟩) [x] := fun _ => by
  refine ⟨⟨g, 0, none⟩, rfl, hb.lt, fun j it hj => ?_⟩
  have y0 := Blk.cell hb 0
  have y1 := Blk.cell hb 1
  have y2 := Blk.cell hb 2
  simp only [List.getElem?_toArray, List.getElem?_cons_zero, List.getElem?_cons_succ] at y0 y1 y2
  have hj0 : j = 0 := by
    rcases Nat.lt_or_ge j 1 with h | h
    · omega
    · rw [List.getElem?_eq_none (by simpa using h)] at hj; cases hj
  subst hj0
  have e : it = x := by simpa using hj.symm
  subst e
  rw [add_zero_block]
  exact ⟨y0, y1, y2⟩
theorem prs_cells {w : World} {a : Addr} {L : List Pr} (h : PrsAt w (some a) L) : ∀ j u, (L.flatMap Pr.cells)[j]? = some u → w.cell? (a.add j) = some u := by
  intro j u hu
  have hj : j < (L.flatMap Pr.cells).length := (List.getElem?_eq_some_iff.1 hu).1
  rw [flat_len prs_len] at hj
  obtain ⟨x, hx⟩ : ∃ x, L[j / 3]? = some x := ⟨_, List.getElem?_eq_getElem (by omega)⟩
  obtain ⟨a', ea, _, hc⟩ := h (by intro e; subst e; simp at hx)
  injection ea with ea
  subst ea
  obtain ⟨c0, c1, c2⟩ := hc _ _ hx
  obtain ⟨f0, f1, f2⟩ := prs_at hx
  rw [field_at _ _ 1 (by decide)] at c1
  rw [field_at _ _ 2 (by decide)] at c2
  rcases (show j = j / 3 * 3 ∨ j = j / 3 * 3 + 1 ∨ j = j / 3 * 3 + 2 by omega) with e | e | e
  · rw [e] at hu; rw [e, c0]; rw [← hu]; exact f0.symm
  · rw [e] at hu; rw [e, c1]; rw [← hu]; exact f1.symm
  · rw [e] at hu; rw [e, c2]; rw [← hu]; exact f2.symm
theorem PrsAt.take {w : World} {A : Option Addr} {L : List Pr} (h : PrsAt w A L) (k : Nat) : PrsAt w A (L.take k) := fun hn => by
  obtain ⟨a, e, hb, hc⟩ := h (by intro e; subst e; simp at hn)
  refine ⟨a, e, hb, fun j it hj => hc j it ?_⟩
  rw [List.getElem?_take] at hj
  split at hj
  · exact hj
  · cases hj
theorem PrsAt.drop {w : World} {A : Option Addr} {L : List Pr} (h : PrsAt w A L) (k c : Nat) (hk : k ≤ L.length) (hc : L.length ≤ c) : PrsAt w (if c = k then A else A.map (·.add (k * 3))) (L.drop k) := fun hn => by
  have hkl : k < L.length := by
    rcases Nat.lt_or_ge k L.length with g | g
    · exact g
    · rw [List.drop_eq_nil_of_le g] at hn; exact absurd rfl hn
  obtain ⟨a, e, hb, hcell⟩ := h (by intro e; subst e; simp at hkl)
  subst e
  rw [if_neg (by omega)]
  refine ⟨a.add (k * 3), rfl, by rw [add_block]; exact hb, fun j it hj => ?_⟩
  rw [List.getElem?_drop] at hj
  obtain ⟨c0, c1, c2⟩ := hcell (k + j) it hj
  have e : k * 3 + j * 3 = (k + j) * 3 := by omega
  rw [add_twice, e]
  exact ⟨c0, c1, c2⟩
theorem Prs.cap {w0 w : World} {A : Option Addr} {n c : Nat} {L : List Pr} (h : Prs w0 w (.slice A n c) L) : L.length ≤ c := by
  rcases h.1.2 with ⟨h1, h2⟩ | ⟨g, cap, cur, h1, _, _, h3, _⟩
  · injection h1 with _ _ h4
    have : L.length = 0 := by
      cases L with
      | nil => rfl
      | cons x l => simp at h2
    omega
  · injection h1 with _ _ h4
    omega
theorem Prs.far {w0 w : World} {v : Value} {L : List Pr} (h : Prs w0 w v L) {g : Nat} (hg : w.heap.size ≤ g) : some g ≠ v.ownBlock := fun e => by
  have := (h.1.lt g e.symm).2
  omega
theorem append_prs {w0 w : World} {v : Value} {L M : List Pr} (h : Prs w0 w v L) {A : Option Addr} (m c : Nat) (hA : PrsAt w A M) (hm : M.length = m) (Y : List Pr) (hY : Y = L ++ M) (hb : Y.length ≤ 65536) :
    ∃ A' c' w', (Builtin.append_ #[29, 29] 29 #[v, .slice A m c]).run Try.prog w = .ok (.slice A' Y.length c') w' ∧ Prs w0 w' (.slice A' Y.length c') Y ∧ w.grownBy w' v.ownBlock := by
  subst hm
  have hl : L.length + M.length = Y.length := by rw [hY, List.length_append]
  obtain ⟨i0, hi, hz0, hz1, hz2⟩ := info_parts info37
  cases A with
  | none =>
    have hn : M = [] := Classical.byContradiction fun g => by obtain ⟨a, e, _⟩ := hA g; cases e
    subst hn
    have hYL : Y = L := by rw [hY, List.append_nil]
    subst hYL
    have hrun : (Builtin.append_ #[29, 29] 29 #[v, .slice none 0 c]).run Try.prog w = .ok v w := by
      rcases h.1.2 with ⟨rfl, _⟩ | ⟨g, cap, cur, rfl, _, _, hnc, _⟩
      · simp [Builtin.append_, run_underlying Try.underlying29, sizeOf, typeInfo, hi, Builtin.lenOf, Builtin.firstCells]
      · simp [Builtin.append_, run_underlying Try.underlying29, sizeOf, typeInfo, hi, Builtin.lenOf, Builtin.firstCells, hnc, storeCells]
    obtain ⟨A', c', rfl⟩ := own_slice h.1
    exact ⟨A', c', w, hrun, h, ⟨rfl, rfl, rfl, Nat.le_refl _, fun _ _ _ => rfl⟩⟩
  | some a =>
    obtain ⟨v', w', hrun, h2, h3, _, _⟩ := run_append_own_at (P := Try.prog) w w0.heap.size 29 29 37 i0 _ 3 40 Try.underlying29 hi hz0 hz1 hz2 rfl (by decide) v L.length (L.flatMap Pr.cells) h.1
      a M.length c (M.flatMap Pr.cells) (flat_len prs_len M) (prs_cells hA) (by intro u hu; obtain ⟨x, _, hx⟩ := List.mem_flatMap.1 hu; exact prs_one x u hx) (by unfold maxLen; omega) (by omega) h.2.size
    obtain ⟨A', c', rfl⟩ := own_slice h2
    rw [hl] at hrun h2
    refine ⟨A', c', w', hrun, ⟨?_, h.2.grown h3 h.2.size (fun g e => (h.1.lt g e).1)⟩, h3⟩
    rw [hY] at h2 ⊢
    rw [List.flatMap_append]
    exact h2

end Go.Proofs.Ytdnckhagknlfhaa
