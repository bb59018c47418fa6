/-
  collatorlaw03.Lines, in the form that stage 5's laws ask for.
-/
import Derived.Test.YtmonemgjgcfhlaaLines
namespace Go.Proofs.Ytmonemgjgcfhlaa
open Go.RowKit

theorem row_cap {W : World} {base : Nat} {e : TypeId} {A : Option Addr} {n c : Nat} {xs : List Value} (h : W.ownsRow base e 1 (.slice A n c) n xs) : n ≤ c := by
  obtain ⟨_, _, hv, hc, _⟩ := row_shape h
  injection hv with _ _ hv
  subst hv
  exact hc
theorem few_sizes : ∀ i, i < 5 → (few.getD i ⟨#[]⟩).size ≤ 5 := by decide
theorem fewAt_size (z : Int) : (fewAt z).size ≤ 5 := by
  have h := pickI_range z 5 (by omega)
  exact few_sizes _ (by omega)
theorem plain_size {m : Nat} {zs : List Int} {s : ByteArray} (h : s ∈ plainL m zs) : s.size ≤ 5 := by
  unfold plainL at h
  obtain ⟨z, _, rfl⟩ := List.mem_map.1 h
  exact fewAt_size z
theorem lines_size {m : Nat} {zs : List Int} {s : ByteArray} (h : s ∈ linesL m zs) : s.size ≤ 5 := by
  unfold linesL at h
  split at h
  · rcases List.mem_or_eq_of_mem_set h with h | h
    · exact plain_size h
    · subst h; decide
  · exact plain_size h
theorem lines_len (m : Nat) (zs : List Int) : (linesL m zs).length ≤ m := by rw [linesL_length, plainL_length]; omega
theorem lines_fit {m : Nat} (zs : List Int) : ∀ s ∈ linesL m zs, s.size ≤ maxLen := fun s hs => by have := lines_size hs; unfold maxLen; omega
theorem lines_fit' {m : Nat} (zs : List Int) : ∀ s ∈ linesL m zs, s.size ≤ 140737488355328 := fun s hs => by have := lines_size hs; omega
/-- Lines, of m at most -/
theorem lines_at (m : Nat) (mi : Int) (hmi : (m : Int) = mi) (hm0 : m ≤ 1000) (hm1 : 0 < m) (A : Option Addr) (zs : List Int) (c : Nat) (w : World) (ha : Ints w w.heap.size A zs) (h1 : zs.length ≤ 140737488355328) (hz : ∀ z ∈ zs, -9223372036854775808 ≤ z ∧ z ≤ 9223372036854775807) :
    Calls Try.prog 11 #[.slice A zs.length c, .int .i64 mi] w fun e w' => ∃ A' c', e = .returned (.slice A' (linesL m zs).length c') ∧ Strs w' w'.heap.size A' (linesL m zs) ∧ (linesL m zs).length ≤ c' ∧ Below w.heap.size w w' := by
  subst hmi
  refine (lines_any m hm0 hm1 A zs c w ha (by omega) hz).mono ?_
  rintro e w' ⟨A', c', rfl, ho, hb⟩
  exact ⟨A', c', rfl, Strs.of_own ho, row_cap ho, hb⟩

end Go.Proofs.Ytmonemgjgcfhlaa
