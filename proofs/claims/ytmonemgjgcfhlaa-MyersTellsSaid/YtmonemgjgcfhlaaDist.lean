/-
  Plain mathematics, no program: how many steps that cut or add the shortest ways between two lists have (ed), and what is known of it.
-/
import Derived.Lib.Hide
namespace Go.Proofs.Ytmonemgjgcfhlaa
namespace Pm
variable {α : Type} [DecidableEq α]

/-- a row of the table: the first list has one element p more than that of the row 'prev' -/
def edRow (p : α) (la : Nat) (prev : List α → Nat) : List α → Nat
  | [] => la + 1
  | q :: b => if p = q then prev b else 1 + min (prev (q :: b)) (edRow p la prev b)
def ed : List α → List α → Nat
  | [], b => b.length
  | p :: a, b => edRow p a.length (ed a) b

theorem ed_nil (b : List α) : ed [] b = b.length := rfl
theorem ed_nil' (a : List α) : ed a [] = a.length := by cases a <;> rfl
theorem ed_cons (p q : α) (a b : List α) : ed (p :: a) (q :: b) = if p = q then ed a b else 1 + min (ed a (q :: b)) (ed (p :: a) b) := rfl
theorem ed_keep (p : α) (a b : List α) : ed (p :: a) (p :: b) = ed a b := by rw [ed_cons, if_pos rfl]
theorem ed_ne {p q : α} (h : p ≠ q) (a b : List α) : ed (p :: a) (q :: b) = 1 + min (ed a (q :: b)) (ed (p :: a) b) := by rw [ed_cons, if_neg h]

/-- the four neighbours' bounds, and that along a diagonal the cost does not fall -/
theorem ed_steps : ∀ (N : Nat) (a b : List α), a.length + b.length ≤ N →
    (∀ p, ed (p :: a) b ≤ ed a b + 1 ∧ ed a b ≤ ed (p :: a) b + 1) ∧ (∀ q, ed a (q :: b) ≤ ed a b + 1 ∧ ed a b ≤ ed a (q :: b) + 1)
  | 0, a, b, h => by
    have ha : a = [] := List.eq_nil_of_length_eq_zero (by omega)
    have hb : b = [] := List.eq_nil_of_length_eq_zero (by omega)
    subst ha hb
    exact ⟨fun p => by simp [ed_nil'], fun q => by simp [ed_nil]⟩
  | N + 1, a, b, h => by
    constructor
    · intro p
      cases b with
      | nil => simp only [ed_nil', List.length_cons]; omega
      | cons q b =>
        simp only [List.length_cons] at h
        obtain ⟨i1, i2⟩ := ed_steps N a b (by omega)
        have j1 := i1 p
        have j2 := i2 q
        rw [ed_cons]
        split <;> omega
    · intro q
      cases a with
      | nil => simp only [ed_nil, List.length_cons]; omega
      | cons p a =>
        simp only [List.length_cons] at h
        obtain ⟨i1, i2⟩ := ed_steps N a b (by omega)
        have j1 := i1 p
        have j2 := i2 q
        rw [ed_cons]
        split <;> omega

theorem ed_up (p : α) (a b : List α) : ed (p :: a) b ≤ ed a b + 1 := ((ed_steps _ a b (Nat.le_refl _)).1 p).1
theorem ed_dn (p : α) (a b : List α) : ed a b ≤ ed (p :: a) b + 1 := ((ed_steps _ a b (Nat.le_refl _)).1 p).2
theorem ed_up' (q : α) (a b : List α) : ed a (q :: b) ≤ ed a b + 1 := ((ed_steps _ a b (Nat.le_refl _)).2 q).1
theorem ed_dn' (q : α) (a b : List α) : ed a b ≤ ed a (q :: b) + 1 := ((ed_steps _ a b (Nat.le_refl _)).2 q).2
theorem ed_diag (p q : α) (a b : List α) : ed a b ≤ ed (p :: a) (q :: b) := by
  have h1 := ed_dn' q a b
  have h2 := ed_dn p a b
  rw [ed_cons]
  split <;> omega
theorem ed_par : ∀ (N : Nat) (a b : List α), a.length + b.length ≤ N → (ed a b + a.length + b.length) % 2 = 0
  | 0, a, b, h => by
    have ha : a = [] := List.eq_nil_of_length_eq_zero (by omega)
    have hb : b = [] := List.eq_nil_of_length_eq_zero (by omega)
    subst ha hb; rfl
  | N + 1, [], b, _ => by simp [ed_nil]; omega
  | N + 1, p :: a, [], _ => by simp [ed_nil']; omega
  | N + 1, p :: a, q :: b, h => by
    simp only [List.length_cons] at h ⊢
    rw [ed_cons]
    split
    · have := ed_par N a b (by omega); omega
    · have h1 := ed_par N a (q :: b) (by simp; omega)
      have h2 := ed_par N (p :: a) b (by simp; omega)
      simp only [List.length_cons] at h1 h2
      omega
theorem ed_parity (a b : List α) : (ed a b + a.length + b.length) % 2 = 0 := ed_par _ a b (Nat.le_refl _)
theorem ed_ge : ∀ (N : Nat) (a b : List α), a.length + b.length ≤ N → a.length ≤ b.length + ed a b ∧ b.length ≤ a.length + ed a b
  | 0, a, b, h => by omega
  | N + 1, [], b, _ => by simp [ed_nil]
  | N + 1, p :: a, [], _ => by simp [ed_nil']
  | N + 1, p :: a, q :: b, h => by
    simp only [List.length_cons] at h ⊢
    rw [ed_cons]
    split
    · have := ed_ge N a b (by omega); omega
    · have h1 := ed_ge N a (q :: b) (by simp; omega)
      have h2 := ed_ge N (p :: a) b (by simp; omega)
      simp only [List.length_cons] at h1 h2
      omega
theorem ed_low (a b : List α) : a.length ≤ b.length + ed a b ∧ b.length ≤ a.length + ed a b := ed_ge _ a b (Nat.le_refl _)
theorem ed_top : ∀ (a b : List α), ed a b ≤ a.length + b.length
  | [], b => by simp [ed_nil]
  | p :: a, b => by have := ed_top a b; have := ed_up p a b; simp; omega
theorem ed_self : ∀ a : List α, ed a a = 0
  | [] => rfl
  | p :: a => by rw [ed_keep]; exact ed_self a
theorem ed_zero : ∀ {a b : List α}, ed a b = 0 → a = b
  | [], b, h => by rw [ed_nil] at h; exact (List.eq_nil_of_length_eq_zero h).symm
  | p :: a, [], h => by rw [ed_nil'] at h; simp at h
  | p :: a, q :: b, h => by
    rw [ed_cons] at h
    split at h
    · rename_i e; subst e; rw [ed_zero h]
    · omega

/-- a way of cost c -/
inductive Way : List α → List α → Nat → Prop
  | nil : Way [] [] 0
  | keep (p : α) {a b : List α} {c : Nat} : Way a b c → Way (p :: a) (p :: b) c
  | cut (p : α) {a b : List α} {c : Nat} : Way a b c → Way (p :: a) b (c + 1)
  | add (q : α) {a b : List α} {c : Nat} : Way a b c → Way a (q :: b) (c + 1)

theorem Way.least {a b : List α} {c : Nat} (h : Way a b c) : ed a b ≤ c := by
  induction h with
  | nil => exact Nat.le_refl _
  | keep p _ ih => rw [ed_keep]; exact ih
  | cut p _ ih => exact Nat.le_trans (ed_up p _ _) (by omega)
  | add q _ ih => exact Nat.le_trans (ed_up' q _ _) (by omega)
omit [DecidableEq α] in
theorem Way.adds : ∀ b : List α, Way [] b b.length
  | [] => .nil
  | q :: b => .add q (Way.adds b)
omit [DecidableEq α] in
theorem Way.cuts : ∀ a : List α, Way a [] a.length
  | [] => .nil
  | p :: a => .cut p (Way.cuts a)
theorem Way.of_ed : ∀ (N : Nat) (a b : List α), a.length + b.length ≤ N → Way a b (ed a b)
  | _, [], b, _ => Way.adds b
  | _, p :: a, [], _ => by rw [ed_nil']; exact Way.cuts _
  | 0, p :: a, q :: b, h => by simp at h
  | N + 1, p :: a, q :: b, h => by
    simp only [List.length_cons] at h
    rw [ed_cons]
    split
    · rename_i e; subst e; exact .keep p (Way.of_ed N a b (by omega))
    · have w1 := Way.cut p (Way.of_ed N a (q :: b) (by simp; omega))
      have w2 := Way.add q (Way.of_ed N (p :: a) b (by simp; omega))
      rcases Nat.le_total (ed a (q :: b)) (ed (p :: a) b) with hle | hle
      · rw [Nat.min_eq_left hle, Nat.add_comm]; exact w1
      · rw [Nat.min_eq_right hle, Nat.add_comm]; exact w2
theorem Way.best (a b : List α) : Way a b (ed a b) := Way.of_ed _ a b (Nat.le_refl _)
omit [DecidableEq α] in
theorem Way.append {a b a' b' : List α} {c c' : Nat} (h : Way a b c) (h' : Way a' b' c') : Way (a ++ a') (b ++ b') (c + c') := by
  induction h with
  | nil => simpa using h'
  | keep p _ ih => exact .keep p ih
  | cut p _ ih => rw [Nat.add_right_comm]; exact .cut p ih
  | add q _ ih => rw [Nat.add_right_comm]; exact .add q ih
omit [DecidableEq α] in
theorem Way.turn {a b : List α} {c : Nat} (h : Way a b c) : Way b a c := by
  induction h with
  | nil => exact .nil
  | keep p _ ih => exact .keep p ih
  | cut p _ ih => exact .add p ih
  | add q _ ih => exact .cut q ih
omit [DecidableEq α] in
theorem Way.back {a b : List α} {c : Nat} (h : Way a b c) : Way a.reverse b.reverse c := by
  induction h with
  | nil => exact .nil
  | keep p _ ih => rw [List.reverse_cons, List.reverse_cons]; exact ih.append (.keep p .nil)
  | cut p _ ih => rw [List.reverse_cons]; have := ih.append (.cut p .nil); rwa [List.append_nil] at this
  | add q _ ih => rw [List.reverse_cons]; have := ih.append (.add q .nil); rwa [List.append_nil] at this
theorem ed_turn (a b : List α) : ed a b = ed b a := Nat.le_antisymm (Way.best b a).turn.least (Way.best a b).turn.least
theorem ed_back (a b : List α) : ed a.reverse b.reverse = ed a b := by
  refine Nat.le_antisymm (Way.best a b).back.least ?_
  have := (Way.best a.reverse b.reverse).back.least
  rwa [List.reverse_reverse, List.reverse_reverse] at this
theorem ed_append (a b a' b' : List α) : ed (a ++ a') (b ++ b') ≤ ed a b + ed a' b' := ((Way.best a b).append (Way.best a' b')).least
theorem ed_ahead : ∀ (p a b : List α), ed (p ++ a) (p ++ b) = ed a b
  | [], a, b => rfl
  | x :: p, a, b => by rw [List.cons_append, List.cons_append, ed_keep]; exact ed_ahead p a b
theorem ed_behind (a b q : List α) : ed (a ++ q) (b ++ q) = ed a b := by
  rw [← ed_back, List.reverse_append, List.reverse_append, ed_ahead, ed_back]
/-- from a to c by way of b -/
theorem Way.via {a b c : List α} {m n : Nat} (h : Way a b m) (h' : Way b c n) : ed a c ≤ m + n := by
  induction h generalizing c n with
  | nil => simpa using h'.least
  | @keep p a b m h ih =>
    generalize hb : p :: b = pb at h'
    induction h' with
    | nil => cases hb
    | keep q h2 _ => injection hb with e1 e2; subst e1 e2; rw [ed_keep]; exact ih h2
    | @cut q b' c n h2 _ => injection hb with e1 e2; subst e1 e2; have := ih h2; have := ed_up p a c; omega
    | @add q b' c n h2 ih2 => have := ih2 hb; have := ed_up' q (p :: a) c; omega
  | @cut p a b m h ih => have := ih h'; have := ed_up p a c; omega
  | @add q a b m h ih =>
    generalize hb : q :: b = qb at h'
    induction h' with
    | nil => cases hb
    | @keep q' b' c n h2 _ => injection hb with e1 e2; subst e1 e2; have := ih h2; have := ed_up' q a c; omega
    | @cut q' b' c n h2 _ => injection hb with e1 e2; subst e1 e2; have := ih h2; omega
    | @add q' b' c n h2 ih2 => have := ih2 hb; have := ed_up' q' a c; omega
theorem ed_tri (a b c : List α) : ed a c ≤ ed a b + ed b c := (Way.best a b).via (Way.best b c)
/-- nothing in common -/
theorem ed_apart : ∀ (N : Nat) (a b : List α), a.length + b.length ≤ N → (∀ p ∈ a, p ∉ b) → ed a b = a.length + b.length
  | _, [], b, _, _ => by simp [ed_nil]
  | _, p :: a, [], _, _ => by simp [ed_nil']
  | 0, p :: a, q :: b, h, _ => by simp at h
  | N + 1, p :: a, q :: b, h, hn => by
    simp only [List.length_cons] at h
    have hpq : p ≠ q := fun e => hn p (by simp) (by simp [e])
    rw [ed_ne hpq, ed_apart N a (q :: b) (by simp; omega) (fun x hx => hn x (by simp [hx])), ed_apart N (p :: a) b (by simp; omega) (fun x hx hb => hn x hx (by simp [hb]))]
    simp only [List.length_cons]
    omega
/-- leaving out what the other list does not have -/
theorem ed_skip : ∀ (N : Nat) (p : α) (a b : List α), b.length ≤ N → p ∉ b → ed (p :: a) b = ed a b + 1
  | _, p, a, [], _, _ => by simp [ed_nil']
  | 0, p, a, q :: b, h, _ => by simp at h
  | N + 1, p, a, q :: b, h, hn => by
    simp only [List.length_cons] at h
    have hpq : p ≠ q := fun e => hn (by simp [e])
    rw [ed_ne hpq, ed_skip N p a b (by omega) (fun hb => hn (by simp [hb]))]
    have := ed_up' q a b
    omega

end Pm
end Go.Proofs.Ytmonemgjgcfhlaa
