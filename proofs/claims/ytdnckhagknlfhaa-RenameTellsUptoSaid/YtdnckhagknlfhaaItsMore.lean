/-
  Lists of items that a call makes: an append of items that are there, how far a list reaches, a list's parts.
-/
import Derived.Test.YtdnckhagknlfhaaIts
namespace Go.Proofs.Ytdnckhagknlfhaa
open Go.RowKit

theorem OwnI.cap {w0 w : World} {A : Option Addr} {n c : Nat} {L : List It} (h : OwnI w0 w (.slice A n c) L) : L.length ≤ c := by
  rcases h.1.2 with ⟨h1, h2⟩ | ⟨g, cap, cur, h1, _, _, h3, _⟩
  · injection h1 with _ _ h4
    have : L.length = 0 := by
      cases L with
      | nil => rfl
      | cons x l => simp at h2
    omega
  · injection h1 with _ _ h4
    omega
theorem append_items {w0 w : World} {v : Value} {L M : List It} (h : OwnI w0 w v L) {A : Option Addr} (m c : Nat) (hA : ItemsAt w A M) (hm : M.length = m) (Y : List It) (hY : Y = L ++ M) (hb : Y.length ≤ 65536) :
    ∃ A' c' w', (Builtin.append_ #[23, 23] 23 #[v, .slice A m c]).run Try.prog w = .ok (.slice A' Y.length c') w' ∧ OwnI w0 w' (.slice A' Y.length c') Y := by
  subst hm
  have hl : L.length + M.length = Y.length := by rw [hY, List.length_append]
  obtain ⟨i0, hi, hz0, hz1, hz2⟩ := info_parts info33
  cases A with
  | none =>
    have hn : M = [] := Classical.byContradiction fun g => by obtain ⟨a, e, _⟩ := hA g; cases e
    subst hn
    have hYL : Y = L := by rw [hY, List.append_nil]
    subst hYL
    have hrun : (Builtin.append_ #[23, 23] 23 #[v, .slice none 0 c]).run Try.prog w = .ok v w := by
      rcases h.1.2 with ⟨rfl, _⟩ | ⟨g, cap, cur, rfl, _, _, hnc, _⟩
      · simp [Builtin.append_, run_underlying Try.underlying23, sizeOf, typeInfo, hi, Builtin.lenOf, Builtin.firstCells]
      · simp [Builtin.append_, run_underlying Try.underlying23, sizeOf, typeInfo, hi, Builtin.lenOf, Builtin.firstCells, hnc, storeCells]
    obtain ⟨A', c', rfl⟩ := own_slice h.1
    exact ⟨A', c', w, hrun, h⟩
  | some a =>
    obtain ⟨v', w', hrun, h2, h3, _, _⟩ := run_append_own_at (P := Try.prog) w w0.heap.size 23 23 33 i0 _ 4 48 Try.underlying23 hi hz0 hz1 hz2 rfl (by decide) v L.length (L.flatMap It.cells) h.1
      a M.length c (M.flatMap It.cells) (flat_len its_len M) (items_cells hA) (by intro u hu; obtain ⟨x, _, hx⟩ := List.mem_flatMap.1 hu; exact its_one x u hx) (by unfold maxLen; omega) (by omega) h.2.size
    obtain ⟨A', c', rfl⟩ := own_slice h2
    rw [hl] at hrun h2
    refine ⟨A', c', w', hrun, ?_, h.2.grown h3 h.2.size (fun g e => (h.1.lt g e).1)⟩
    rw [hY] at h2 ⊢
    rw [List.flatMap_append]
    exact h2
theorem ItemsAt.take {w : World} {A : Option Addr} {L : List It} (h : ItemsAt w A L) (k : Nat) : ItemsAt w A (L.take k) := fun hn => by
  obtain ⟨a, e, hb, hc⟩ := h (by intro e; subst e; simp at hn)
  refine ⟨a, e, hb, fun j it hj => hc j it ?_⟩
  rw [List.getElem?_take] at hj
  split at hj
  · exact hj
  · cases hj
theorem ItemsAt.drop {w : World} {A : Option Addr} {L : List It} (h : ItemsAt w A L) (k c : Nat) (hk : k ≤ L.length) (hc : L.length ≤ c) : ItemsAt w (if c = k then A else A.map (·.add (k * 4))) (L.drop k) := fun hn => by
  have hkl : k < L.length := by
    rcases Nat.lt_or_ge k L.length with g | g
    · exact g
    · rw [List.drop_eq_nil_of_le g] at hn; exact absurd rfl hn
  obtain ⟨a, e, hb, hcell⟩ := h (by intro e; subst e; simp at hkl)
  subst e
  rw [if_neg (by omega)]
  refine ⟨a.add (k * 4), rfl, by rw [add_block]; exact hb, fun j it hj => ?_⟩
  rw [List.getElem?_drop] at hj
  obtain ⟨c0, c1, c2, c3⟩ := hcell (k + j) it hj
  have e : k * 4 + j * 4 = (k + j) * 4 := by omega
  rw [add_twice, e]
  exact ⟨c0, c1, c2, c3⟩
theorem ItemsAt.drew {w : World} {A : Option Addr} {L : List It} (h : ItemsAt w A L) : ItemsAt w.drew A L := h

end Go.Proofs.Ytdnckhagknlfhaa
