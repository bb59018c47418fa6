/-
  Plain mathematics, no program: lines as numbers (the first place of each line that both lists have), and what leaving out lines that one list alone has does to the cost.
-/
import Derived.Test.YtmonemgjgcfhlaaFronts
namespace Go.Proofs.Ytmonemgjgcfhlaa
namespace Pm
section
variable {α : Type} [DecidableEq α]

/-- the first place of s in a list -/
def firstAt (s : α) : List α → Nat
  | [] => 0
  | t :: l => if t = s then 0 else firstAt s l + 1
theorem firstAt_get {s : α} : ∀ {l : List α}, s ∈ l → l[firstAt s l]? = some s
  | [], h => by cases h
  | t :: l, h => by
    unfold firstAt
    by_cases e : t = s
    · simp [e]
    · rw [if_neg e]
      simp only [List.getElem?_cons_succ]
      exact firstAt_get (by rcases List.mem_cons.1 h with h | h; exact absurd h.symm e; exact h)
theorem firstAt_inj {s t : α} {l : List α} (hs : s ∈ l) (ht : t ∈ l) (h : firstAt s l = firstAt t l) : s = t := by
  have h1 := firstAt_get hs
  have h2 := firstAt_get ht
  rw [h, h2] at h1
  injection h1 with h1
  exact h1.symm
theorem firstAt_more {s : α} : ∀ {l : List α} (m : List α), s ∈ l → firstAt s (l ++ m) = firstAt s l
  | [], _, h => by cases h
  | t :: l, m, h => by
    rw [List.cons_append, firstAt, firstAt]
    by_cases e : t = s
    · rw [if_pos e, if_pos e]
    · rw [if_neg e, if_neg e, firstAt_more m (by rcases List.mem_cons.1 h with h | h; exact absurd h.symm e; exact h)]
theorem firstAt_new {s : α} : ∀ {l : List α}, s ∉ l → firstAt s (l ++ [s]) = l.length
  | [], _ => by simp [firstAt]
  | t :: l, h => by
    rw [List.cons_append, firstAt, if_neg (fun e => h (by simp [e])), firstAt_new (fun e => h (by simp [e])), List.length_cons]
theorem firstAt_lt {s : α} {l : List α} (h : s ∈ l) : firstAt s l < l.length := (List.getElem?_eq_some_iff.1 (firstAt_get h)).1

/-- one list's lines as numbers -/
def numL (l a b : List α) (only : Int) : List Int := l.map fun s => if s ∈ a ∧ s ∈ b then (firstAt s a : Int) else only
theorem numL_len (l a b : List α) (only : Int) : (numL l a b only).length = l.length := by simp [numL]

/-- what both lists have -/
def both (a b : List α) (s : α) : Bool := decide (s ∈ a ∧ s ∈ b)
theorem numL_filter (l a b : List α) (only : Int) (ho : only < 0) : (numL l a b only).filter (fun z => decide (0 ≤ z)) = (l.filter (both a b)).map fun s => (firstAt s a : Int) := by
  unfold numL
  induction l with
  | nil => rfl
  | cons s l ih =>
    rw [List.map_cons, List.filter_cons, List.filter_cons, ih]
    by_cases h : s ∈ a ∧ s ∈ b
    · rw [if_pos h]; simp [both, h]
    · rw [if_neg h]
      have h1 : decide (0 ≤ only) = false := by simp; omega
      have h2 : both a b s = false := by simp only [both, h, decide_false]
      rw [h1, h2]; simp

theorem ed_map {β : Type} [DecidableEq β] (f : α → β) : ∀ (N : Nat) (a b : List α), a.length + b.length ≤ N → (∀ s ∈ a, ∀ t ∈ b, f s = f t → s = t) → ed (a.map f) (b.map f) = ed a b
  | _, [], b, _, _ => by simp [ed_nil]
  | _, p :: a, [], _, _ => by simp [ed_nil']
  | 0, p :: a, q :: b, h, _ => by simp at h
  | N + 1, p :: a, q :: b, h, hf => by
    simp only [List.length_cons] at h
    have i1 := ed_map f N a b (by omega) (fun s hs t ht => hf s (by simp [hs]) t (by simp [ht]))
    have i2 := ed_map f N a (q :: b) (by simp; omega) (fun s hs t ht => hf s (by simp [hs]) t ht)
    have i3 := ed_map f N (p :: a) b (by simp; omega) (fun s hs t ht => hf s hs t (by simp [ht]))
    rw [List.map_cons, List.map_cons] at *
    rw [ed_cons, ed_cons, i1, i2, i3]
    by_cases e : p = q
    · rw [if_pos e, if_pos (by rw [e])]
    · rw [if_neg e, if_neg (fun e' => e (hf p (by simp) q (by simp) e'))]

/-- leaving out what the other list does not have -/
theorem ed_filter (S : α → Bool) : ∀ (a b : List α), (∀ s ∈ a, S s = false → s ∉ b) → (∀ s ∈ b, S s = false → s ∉ a) →
    ed a b + (a.filter S).length + (b.filter S).length = ed (a.filter S) (b.filter S) + a.length + b.length := by
  intro a b
  have hone : ∀ (N : Nat) (a b : List α), a.length ≤ N → (∀ s ∈ a, S s = false → s ∉ b) → ed a b + (a.filter S).length = ed (a.filter S) b + a.length := by
    intro N
    induction N with
    | zero => intro a b h _; have : a = [] := List.eq_nil_of_length_eq_zero (by omega); subst this; simp
    | succ N ih =>
      intro a
      -- by ways from the front: b is gone through, too
      intro b h hs
      induction b generalizing a with
      | nil => simp [ed_nil']; omega
      | cons q b ihb =>
        cases a with
        | nil => simp
        | cons p a =>
          simp only [List.length_cons] at h
          by_cases hp : S p = true
          · rw [List.filter_cons, if_pos hp]
            have j1 := ih a b (by omega) (fun s h1 h2 h3 => hs s (by simp [h1]) h2 (by simp [h3]))
            have j2 := ih a (q :: b) (by omega) (fun s h1 h2 => hs s (by simp [h1]) h2)
            have j3 := ihb (p :: a) (by simp; omega) (fun s h1 h2 h3 => hs s h1 h2 (by simp [h3]))
            rw [List.filter_cons, if_pos hp] at j3
            simp only [List.length_cons] at j3 ⊢
            rw [ed_cons, ed_cons]
            split <;> omega
          · have hp' : S p = false := by simpa using hp
            have j2 := ih a (q :: b) (by omega) (fun s h1 h2 => hs s (by simp [h1]) h2)
            rw [ed_skip _ p a (q :: b) (Nat.le_refl _) (hs p (by simp) hp'), List.filter_cons, if_neg hp, List.length_cons]
            omega
  intro h1 h2
  have e1 := hone _ a b (Nat.le_refl _) h1
  have e2 := hone _ b (a.filter S) (Nat.le_refl _) (fun s hs hS h => h2 s hs hS (List.mem_filter.1 h).1)
  rw [ed_turn b (a.filter S), ed_turn (b.filter S) (a.filter S)] at e2
  omega
/-- of any two ends of the lists -/
theorem ed_both (a b u v : List α) (hu : ∀ s ∈ u, s ∈ a) (hv : ∀ s ∈ v, s ∈ b) :
    ed u v + (u.filter (both a b)).length + (v.filter (both a b)).length = ed (u.filter (both a b)) (v.filter (both a b)) + u.length + v.length := by
  refine ed_filter (both a b) u v (fun s hs hS hv' => ?_) (fun s hs hS hu' => ?_)
  · simp [both] at hS; exact hS (hu s hs) (hv s hv')
  · simp [both] at hS; exact hS (hu s hu') (hv s hs)
/-- the cost by the numbers -/
theorem ed_numbers (a b u v : List α) (hu : ∀ s ∈ u, s ∈ a) (hv : ∀ s ∈ v, s ∈ b) (o1 o2 : Int) (h1 : o1 < 0) (h2 : o2 < 0) :
    ed u v + ((numL u a b o1).filter (fun z => decide (0 ≤ z))).length + ((numL v a b o2).filter (fun z => decide (0 ≤ z))).length =
      ed ((numL u a b o1).filter (fun z => decide (0 ≤ z))) ((numL v a b o2).filter (fun z => decide (0 ≤ z))) + u.length + v.length := by
  rw [numL_filter _ _ _ _ h1, numL_filter _ _ _ _ h2, ed_map _ _ _ _ (Nat.le_refl _)]
  · simpa using ed_both a b u v hu hv
  · intro s hs t ht h
    have hs' := (List.mem_filter.1 hs).2
    have ht' := (List.mem_filter.1 ht).2
    simp only [both, decide_eq_true_eq] at hs' ht'
    exact firstAt_inj hs'.1 ht'.1 (by omega)
theorem numL_eq {a b : List α} {s t : α} (h : (if s ∈ a ∧ s ∈ b then (firstAt s a : Int) else -1) = (if t ∈ a ∧ t ∈ b then (firstAt t a : Int) else -2)) : s = t := by
  by_cases h1 : s ∈ a ∧ s ∈ b <;> by_cases h2 : t ∈ a ∧ t ∈ b
  · rw [if_pos h1, if_pos h2] at h; exact firstAt_inj h1.1 h2.1 (by omega)
  · rw [if_pos h1, if_neg h2] at h; omega
  · rw [if_neg h1, if_pos h2] at h; omega
  · rw [if_neg h1, if_neg h2] at h; omega
end
/-- the search's cost of the turned lists -/
theorem D_whole (x y : List Int) : D x.reverse y.reverse x.length y.length = ed x y := by
  unfold D
  rw [List.take_of_length_le (by simp), List.take_of_length_le (by simp), List.reverse_reverse, List.reverse_reverse]
end Pm
end Go.Proofs.Ytmonemgjgcfhlaa
