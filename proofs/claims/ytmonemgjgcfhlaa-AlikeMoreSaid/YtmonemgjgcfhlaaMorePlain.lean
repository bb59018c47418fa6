/-
  Plain mathematics for AlikeMore: a line more on one side, on both sides; what stays by order is in both.
-/
import Derived.Test.YtmonemgjgcfhlaaPlain
import Derived.Test.YtmonemgjgcfhlaaDist
namespace Go.Proofs.Ytmonemgjgcfhlaa
namespace Al
variable {α : Type} [DecidableEq α]

/-- one line more -/
theorem cm_snoc (l b : List α) (x : α) : cm (l ++ [x]) b = cm l b + if cnt x l < cnt x b then 1 else 0 := by
  unfold cnt
  by_cases h : l.count x < b.count x
  · rw [if_pos h, cm_eq (l := inter b l ++ [x])]
    · rw [List.length_append]; rfl
    · intro y
      rw [List.count_append, inter_count, List.count_append, List.count_cons, List.count_nil]
      by_cases e : x = y
      · subst e; simp; omega
      · have e' : (x == y) = false := by simpa using e
        simp [e']; omega
  · rw [if_neg h, cm_eq (l := inter b l)]
    · rfl
    · intro y
      rw [inter_count, List.count_append, List.count_cons, List.count_nil]
      by_cases e : x = y
      · subst e; simp; omega
      · have e' : (x == y) = false := by simpa using e
        simp [e']; omega
/-- the same line more on both sides -/
theorem cm_both (a b : List α) (x : α) : cm (a ++ [x]) (x :: b) = cm a b + 1 := by
  rw [cm_eq (l := inter b a ++ [x])]
  · rw [List.length_append]; rfl
  · intro y
    rw [List.count_append, inter_count, List.count_append, List.count_cons, List.count_cons, List.count_nil]
    by_cases e : x = y
    · subst e; simp; omega
    · have e' : (x == y) = false := by simpa using e
      simp [e']; omega
theorem cm_cons_le (x : α) (a b : List α) : cm a b ≤ cm (x :: a) b := by
  have h : (x :: a).Perm (a ++ [x]) := (List.perm_append_singleton x a).symm
  rw [cm_perm h (List.Perm.refl b), cm_snoc]
  omega
theorem cm_cons_le' (y : α) (a b : List α) : cm a b ≤ cm a (y :: b) := by rw [cm_comm a b, cm_comm a]; exact cm_cons_le y b a
theorem cm_cons_both (x : α) (a b : List α) : cm (x :: a) (x :: b) = cm a b + 1 := by
  have h : (x :: a).Perm (a ++ [x]) := (List.perm_append_singleton x a).symm
  rw [cm_perm h (List.Perm.refl _), cm_both]
/-- what stays by order is in both -/
theorem cm_ed : ∀ (N : Nat) (a b : List α), a.length + b.length ≤ N → a.length + b.length ≤ Pm.ed a b + 2 * cm a b
  | _, [], b, _ => by rw [Pm.ed_nil]; simp
  | _, a, [], _ => by rw [Pm.ed_nil']; simp
  | 0, x :: a, y :: b, h => by simp at h
  | N + 1, x :: a, y :: b, h => by
    simp only [List.length_cons] at h
    rw [Pm.ed_cons]
    by_cases e : x = y
    · subst e
      have ih := cm_ed N a b (by omega)
      rw [if_pos rfl, cm_cons_both]
      simp only [List.length_cons]
      omega
    · have i1 := cm_ed N a (y :: b) (by simp only [List.length_cons]; omega)
      have i2 := cm_ed N (x :: a) b (by simp only [List.length_cons]; omega)
      have m1 := cm_cons_le x a (y :: b)
      have m2 := cm_cons_le' y (x :: a) b
      rw [if_neg e]
      simp only [List.length_cons] at i1 i2 ⊢
      omega
end Al
end Go.Proofs.Ytmonemgjgcfhlaa
