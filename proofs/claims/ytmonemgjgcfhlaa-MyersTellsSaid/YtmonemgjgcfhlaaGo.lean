/-
  Plain mathematics, no program: the steps of the shortest script, and of several the first one; edits of steps; what the search knows of what is left to pay.
-/
import Derived.Test.YtmonemgjgcfhlaaNums
namespace Go.Proofs.Ytmonemgjgcfhlaa
namespace Pm
/-- a step: its kind (1 keeps, 2 cuts, 3 adds), and the line that it adds -/
abbrev Stp (α : Type) := Int × List α
section
variable {α : Type} [DecidableEq α]
/-- the steps by which the way is gone -/
def steps : Nat → List α → List α → List (Stp α)
  | 0, _, _ => []
  | _ + 1, [], [] => []
  | N + 1, [], q :: b => (3, [q]) :: steps N [] b
  | N + 1, _ :: a, [] => (2, []) :: steps N a []
  | N + 1, p :: a, q :: b => if p = q then (1, []) :: steps N a b else if ed (p :: a) (q :: b) = ed a (q :: b) + 1 then (2, []) :: steps N a (q :: b) else (3, [q]) :: steps N (p :: a) b
def way (a b : List α) : List (Stp α) := steps (a.length + b.length) a b
theorem steps_more : ∀ (N : Nat) (a b : List α), a.length + b.length ≤ N → steps N a b = way a b
  | 0, [], [], _ => rfl
  | 0, p :: a, b, h => by simp at h
  | 0, [], q :: b, h => by simp at h
  | N + 1, [], [], _ => rfl
  | N + 1, [], q :: b, h => by
    simp only [List.length_cons, List.length_nil] at h
    rw [steps, steps_more N [] b (by simp; omega)]
    show _ = steps (0 + (b.length + 1)) [] (q :: b)
    rw [Nat.zero_add, steps, steps_more b.length [] b (by simp)]
  | N + 1, p :: a, [], h => by
    simp only [List.length_cons, List.length_nil] at h
    rw [steps, steps_more N a [] (by simp; omega)]
    show _ = steps (a.length + 1 + 0) (p :: a) []
    rw [Nat.add_zero, steps, steps_more a.length a [] (by simp)]
  | N + 1, p :: a, q :: b, h => by
    simp only [List.length_cons] at h
    show _ = steps (a.length + 1 + (b.length + 1)) (p :: a) (q :: b)
    rw [show a.length + 1 + (b.length + 1) = (a.length + b.length + 1) + 1 from by omega, steps, steps, steps_more N a b (by omega), steps_more N a (q :: b) (by simp; omega), steps_more N (p :: a) b (by simp; omega),
      steps_more (a.length + b.length + 1) a b (by omega), steps_more (a.length + b.length + 1) a (q :: b) (by simp; omega), steps_more (a.length + b.length + 1) (p :: a) b (by simp; omega)]
theorem way_nil : way ([] : List α) [] = [] := rfl
theorem way_keep (p : α) (a b : List α) : way (p :: a) (p :: b) = (1, []) :: way a b := by
  show steps (a.length + 1 + (b.length + 1)) (p :: a) (p :: b) = _
  rw [show a.length + 1 + (b.length + 1) = (a.length + b.length + 1) + 1 from by omega, steps, if_pos rfl, steps_more _ a b (by omega)]
theorem way_cut (p : α) (a b : List α) (h : ∀ q b', b = q :: b' → p ≠ q) (he : ed (p :: a) b = ed a b + 1) : way (p :: a) b = (2, []) :: way a b := by
  cases b with
  | nil =>
    show steps (a.length + 1 + 0) (p :: a) [] = _
    rw [Nat.add_zero, steps, steps_more _ a [] (by simp)]
  | cons q b =>
    show steps (a.length + 1 + (b.length + 1)) (p :: a) (q :: b) = _
    rw [show a.length + 1 + (b.length + 1) = (a.length + b.length + 1) + 1 from by omega, steps, if_neg (h q b rfl), if_pos he, steps_more _ a (q :: b) (by simp; omega)]
theorem way_add (q : α) (a b : List α) (h : ∀ p a', a = p :: a' → p ≠ q ∧ ed (p :: a') (q :: b) ≠ ed a' (q :: b) + 1) : way a (q :: b) = (3, [q]) :: way a b := by
  cases a with
  | nil =>
    show steps (0 + (b.length + 1)) [] (q :: b) = _
    rw [Nat.zero_add, steps, steps_more _ [] b (by simp)]
  | cons p a =>
    obtain ⟨h1, h2⟩ := h p a rfl
    show steps (a.length + 1 + (b.length + 1)) (p :: a) (q :: b) = _
    rw [show a.length + 1 + (b.length + 1) = (a.length + b.length + 1) + 1 from by omega, steps, if_neg h1, if_neg h2, steps_more _ (p :: a) b (by simp; omega)]
/-- where the first may not be cut at the least cost the second one is added at it -/
theorem ed_add_of (p q : α) (a b : List α) (h1 : p ≠ q) (h2 : ed (p :: a) (q :: b) ≠ ed a (q :: b) + 1) : ed (p :: a) (q :: b) = ed (p :: a) b + 1 := by
  rw [ed_ne h1] at h2 ⊢
  omega
theorem way_len (N : Nat) : ∀ (a b : List α), a.length + b.length ≤ N → (way a b).length ≤ a.length + b.length := by
  have : ∀ (N : Nat) (a b : List α), (steps N a b).length ≤ N := by
    intro N
    induction N with
    | zero => intro a b; simp [steps]
    | succ N ih =>
      intro a b
      cases a with
      | nil =>
        cases b with
        | nil => simp [steps]
        | cons q b => simp only [steps, List.length_cons]; have := ih [] b; omega
      | cons p a =>
        cases b with
        | nil => simp only [steps, List.length_cons]; have := ih a []; omega
        | cons q b =>
          simp only [steps]
          split
          · simp only [List.length_cons]; have := ih a b; omega
          · split
            · simp only [List.length_cons]; have := ih a (q :: b); omega
            · simp only [List.length_cons]; have := ih (p :: a) b; omega
  intro a b _
  exact this _ a b

/-- lines that both begin with -/
theorem way_ahead : ∀ (p a b : List α), way (p ++ a) (p ++ b) = List.replicate p.length (1, []) ++ way a b
  | [], a, b => rfl
  | x :: p, a, b => by rw [List.cons_append, List.cons_append, way_keep, way_ahead p a b]; rfl
theorem way_adds : ∀ b : List α, way [] b = b.map fun q => (3, [q])
  | [] => rfl
  | q :: b => by rw [way_add q [] b (by intro p a' h; cases h), way_adds b]; rfl
theorem way_cuts : ∀ a : List α, way a [] = List.replicate a.length (2, [])
  | [] => rfl
  | p :: a => by rw [way_cut p a [] (by intro q b' h; cases h) (by simp [ed_nil']), way_cuts a]; rfl
end
end Pm
end Go.Proofs.Ytmonemgjgcfhlaa
