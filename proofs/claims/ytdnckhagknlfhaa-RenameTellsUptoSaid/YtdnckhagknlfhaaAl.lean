/-
  Plain mathematics of chapter 7: what two lists have in common, each line as often as it is in that in which it is less often; the score; which of several is best. Lists over a type whose equality is decided; nothing of the program.
-/
namespace Go.Proofs.Ytdnckhagknlfhaa
namespace Al
variable {α : Type} [DecidableEq α]

/-- of b's lines those that are in a, each once taken from a -/
def inter : List α → List α → List α
  | [], _ => []
  | x :: b, a => if x ∈ a then x :: inter b (a.erase x) else inter b a

theorem inter_count (y : α) : ∀ (b a : List α), (inter b a).count y = min (b.count y) (a.count y)
  | [], a => by simp [inter]
  | x :: b, a => by
    unfold inter
    by_cases h : x ∈ a
    · rw [if_pos h, List.count_cons, inter_count y b, List.count_cons, List.count_erase]
      have hp : 0 < a.count x := List.count_pos_iff.2 h
      by_cases e : x = y
      · subst e; simp; omega
      · have e' : (x == y) = false := by simpa using e
        have e'' : (y == x) = false := by simpa using fun h => e h.symm
        simp [e']
    · rw [if_neg h, inter_count y b, List.count_cons]
      by_cases e : x = y
      · subst e
        have : a.count x = 0 := List.count_eq_zero.2 h
        simp [this]
      · have e' : (x == y) = false := by simpa using e
        simp [e']

/-- how often a line is there -/
def cnt (x : α) (l : List α) : Nat := l.count x
/-- without it, once -/
def rem (x : α) (l : List α) : List α := l.erase x
theorem cnt_nil (x : α) : cnt x [] = 0 := rfl
theorem cnt_snoc (x y : α) (l : List α) : cnt x (l ++ [y]) = cnt x l + if y = x then 1 else 0 := by
  unfold cnt
  rw [List.count_append, List.count_cons]
  by_cases h : y = x <;> simp [h]
theorem cnt_rem_same (x : α) (l : List α) : cnt x (rem x l) = cnt x l - 1 := by unfold cnt rem; simp
theorem cnt_rem_other {x y : α} (h : x ≠ y) (l : List α) : cnt x (rem y l) = cnt x l := by
  unfold cnt rem
  rw [List.count_erase]
  have e' : (y == x) = false := by simpa using fun e => h e.symm
  have e'' : (x == y) = false := by simpa using h
  simp [e']
theorem cnt_pos {x : α} {l : List α} : 0 < cnt x l ↔ x ∈ l := List.count_pos_iff
theorem cnt_le (x : α) (l : List α) : cnt x l ≤ l.length := List.count_le_length
theorem rem_none {x : α} {l : List α} (h : cnt x l = 0) : rem x l = l := List.erase_of_not_mem (fun g => by have := cnt_pos.2 g; omega)
theorem rem_length_le (x : α) (l : List α) : (rem x l).length ≤ l.length := by
  unfold rem
  rw [List.length_erase]
  split <;> omega
theorem inter_cons (x : α) (b a : List α) : (inter (x :: b) a).length = (if 0 < cnt x a then 1 else 0) + (inter b (rem x a)).length := by
  conv => lhs; unfold inter
  by_cases h : x ∈ a
  · rw [if_pos h, if_pos (cnt_pos.2 h), List.length_cons]; unfold rem; omega
  · have h0 : cnt x a = 0 := by have := @cnt_pos _ _ x a; have : ¬ 0 < cnt x a := fun g => h (this.1 g); omega
    rw [if_neg h, if_neg (by omega), rem_none h0]; omega

/-- how many lines are in both -/
def cm (a b : List α) : Nat := (inter b a).length

/-- whatever list has each line as often as it is in both -/
theorem cm_eq {a b l : List α} (h : ∀ y, l.count y = min (a.count y) (b.count y)) : cm a b = l.length := by
  unfold cm
  exact (List.perm_iff_count.2 fun y => by rw [inter_count, h, Nat.min_comm]).length_eq
theorem cm_comm (a b : List α) : cm a b = cm b a := cm_eq (l := inter a b) (fun y => by rw [inter_count])
theorem cm_perm {a a' b b' : List α} (ha : a.Perm a') (hb : b.Perm b') : cm a b = cm a' b' :=
  cm_eq (l := inter b' a') (fun y => by rw [inter_count, ha.count_eq, hb.count_eq, Nat.min_comm])
theorem cm_self (a : List α) : cm a a = a.length := cm_eq (l := a) (fun y => by simp)
theorem cm_twice (a b : List α) : cm (a ++ a) (b ++ b) = 2 * cm a b := by
  rw [cm_eq (l := inter b a ++ inter b a) (fun y => by simp only [List.count_append, inter_count]; omega), List.length_append]
  unfold cm; omega
theorem cm_le_right (a b : List α) : cm a b ≤ b.length := by
  unfold cm
  induction b generalizing a with
  | nil => simp [inter]
  | cons x b ih =>
    unfold inter
    split
    · have := ih (a.erase x); simp only [List.length_cons]; omega
    · have := ih a; simp only [List.length_cons]; omega
theorem cm_le_left (a b : List α) : cm a b ≤ a.length := by rw [cm_comm]; exact cm_le_right b a
theorem cm_nil_left (b : List α) : cm ([] : List α) b = 0 := by have := cm_le_left ([] : List α) b; simpa using this
theorem cm_nil_right (a : List α) : cm a ([] : List α) = 0 := rfl
/-- both have the same lines, each as often, just if all of them are in both -/
theorem inter_sub : ∀ (b a : List α), (inter b a).Sublist b
  | [], a => by simp [inter]
  | x :: b, a => by
    unfold inter
    split
    · exact (inter_sub b _).cons_cons x
    · exact (inter_sub b _).cons x
theorem cm_all_right {a b : List α} (h : cm a b = b.length) (y : α) : b.count y ≤ a.count y := by
  have e : inter b a = b := (inter_sub b a).eq_of_length (by unfold cm at h; exact h)
  have hc := inter_count y b a
  rw [e] at hc
  omega
theorem cm_all {a b : List α} (h1 : cm a b = a.length) (h2 : cm a b = b.length) : ∀ y, a.count y = b.count y := by
  intro y
  have g1 := cm_all_right h2 y
  have g2 := cm_all_right (a := b) (b := a) (by rw [cm_comm]; exact h1) y
  omega
theorem cm_zero {a b : List α} : cm a b = 0 ↔ ∀ y ∈ a, y ∉ b := by
  unfold cm
  constructor
  · intro h y hy hb
    have h0 : inter b a = [] := List.eq_nil_of_length_eq_zero h
    have hc := inter_count y b a
    rw [h0, List.count_nil] at hc
    have h1 : 0 < a.count y := List.count_pos_iff.2 hy
    have h2 : 0 < b.count y := List.count_pos_iff.2 hb
    omega
  · intro h
    rcases Nat.eq_zero_or_pos (inter b a).length with e | e
    · exact e
    · obtain ⟨y, hy⟩ := List.exists_mem_of_length_pos e
      have hc := inter_count y b a
      have h0 : 0 < (inter b a).count y := List.count_pos_iff.2 hy
      exact absurd (List.count_pos_iff.1 (show 0 < b.count y by omega)) (h y (List.count_pos_iff.1 (by omega)))
/-- lines more that are not in the other one -/
theorem cm_more {a b c : List α} (h : ∀ y ∈ c, y ∉ b) : cm (a ++ c) b = cm a b := by
  refine cm_eq (l := inter b a) (fun y => ?_)
  rw [inter_count, List.count_append]
  by_cases hy : y ∈ c
  · have : b.count y = 0 := List.count_eq_zero.2 (h y hy)
    omega
  · have : c.count y = 0 := List.count_eq_zero.2 hy
    omega

/-- how alike both are -/
def score (a b : List α) : Nat := if a.length + b.length = 0 then 100 else 200 * cm a b / (a.length + b.length)
theorem score_le (a b : List α) : score a b ≤ 100 := by
  unfold score
  split
  · omega
  · have h1 := cm_le_left a b
    have h2 := cm_le_right a b
    exact Nat.div_le_of_le_mul (by omega)
theorem score_comm (a b : List α) : score a b = score b a := by unfold score; rw [cm_comm, Nat.add_comm]
theorem score_perm {a a' b b' : List α} (ha : a.Perm a') (hb : b.Perm b') : score a b = score a' b' := by
  unfold score; rw [cm_perm ha hb, ha.length_eq, hb.length_eq]
theorem score_all {a b : List α} : score a b = 100 ↔ ∀ y, a.count y = b.count y := by
  constructor
  · intro h
    unfold score at h
    split at h
    · have ha : a = [] := List.eq_nil_of_length_eq_zero (by omega)
      have hb : b = [] := List.eq_nil_of_length_eq_zero (by omega)
      subst ha hb
      intro y; rfl
    · have h1 := cm_le_left a b
      have h2 := cm_le_right a b
      have h3 := Nat.div_mul_le_self (200 * cm a b) (a.length + b.length)
      rw [h] at h3
      exact cm_all (by omega) (by omega)
  · intro h
    have hp : a.Perm b := List.perm_iff_count.2 h
    have hl := hp.length_eq
    unfold score
    rw [cm_perm hp (List.Perm.refl b), cm_self, hl]
    split
    · rfl
    · rw [show 200 * b.length = 100 * (b.length + b.length) by omega]
      exact Nat.mul_div_cancel _ (by omega)
theorem score_twice (a b : List α) : score (a ++ a) (b ++ b) = score a b := by
  unfold score
  rw [cm_twice]
  simp only [List.length_append]
  by_cases h : a.length + b.length = 0
  · rw [if_pos h, if_pos (by omega)]
  · rw [if_neg h, if_neg (by omega), show 200 * (2 * cm a b) = 2 * (200 * cm a b) by omega, show a.length + a.length + (b.length + b.length) = 2 * (a.length + b.length) by omega, Nat.mul_div_mul_left _ _ (by omega)]
theorem score_more {a b c : List α} (h : ∀ y ∈ c, y ∉ b) : score (a ++ c) b ≤ score a b := by
  by_cases h0 : a.length + b.length = 0
  · have : score a b = 100 := by unfold score; rw [if_pos h0]
    rw [this]; exact score_le _ _
  · unfold score
    rw [cm_more h, if_neg h0, List.length_append, if_neg (by omega)]
    exact Nat.div_le_div_left (by omega) (by omega)
theorem score_zero {a b : List α} (h : cm a b = 0) (h0 : a.length + b.length ≠ 0) : score a b = 0 := by
  unfold score; rw [if_neg h0, h]; simp

/-- the same lines, each as often: asked of one list's lines alone -/
theorem same_iff (a b : List α) : (∀ y, a.count y = b.count y) ↔ (a.length = b.length ∧ ∀ x ∈ a, cnt x a = cnt x b) := by
  constructor
  · intro h
    exact ⟨(List.perm_iff_count.2 h).length_eq, fun x _ => h x⟩
  · rintro ⟨hl, h⟩
    have hc : cm a b = a.length := by
      refine cm_eq (l := a) fun y => ?_
      by_cases hy : y ∈ a
      · have := h y hy; unfold cnt at this; omega
      · have : a.count y = 0 := List.count_eq_zero.2 hy
        omega
    exact cm_all hc (by omega)
theorem shar_iff (a b : List α) : (∃ x, x ∈ a ∧ 0 < cnt x b) ↔ ¬ cm a b = 0 := by
  rw [cm_zero]
  constructor
  · rintro ⟨x, hx, hb⟩ h
    exact h x hx (cnt_pos.1 hb)
  · intro h
    exact Classical.byContradiction fun g => h fun y hy hb => g ⟨y, hy, cnt_pos.2 hb⟩

/-- the best one so far: its place and its score (place -1: none yet) -/
def bestFrom (a : List α) : List (List α) → Nat → Int → Nat → Int × Nat
  | [], _, p, m => (p, m)
  | o :: os, i, p, m => if p < 0 ∨ m < score a o then bestFrom a os (i + 1) i (score a o) else bestFrom a os (i + 1) p m
def best (a : List α) (os : List (List α)) : Int × Nat := bestFrom a os 0 (-1) 0
/-- p, m is the best of the first lists -/
def IsBest (a : List α) (os : List (List α)) (p : Int) (m : Nat) : Prop :=
  (os = [] ∧ p = -1 ∧ m = 0) ∨ ∃ k : Nat, p = k ∧ (∃ o, os[k]? = some o ∧ m = score a o) ∧ ∀ j o, os[j]? = some o → score a o ≤ m ∧ (score a o = m → k ≤ j)
theorem IsBest.none_ (a : List α) : IsBest a [] (-1) 0 := .inl ⟨rfl, rfl, rfl⟩
theorem IsBest.snoc {a : List α} {os : List (List α)} {p : Int} {m : Nat} (h : IsBest a os p m) (o : List α) :
    IsBest a (os ++ [o]) (if p < 0 ∨ m < score a o then (os.length : Int) else p) (if p < 0 ∨ m < score a o then score a o else m) := by
  have at_ : ∀ (j : Nat) o', (os ++ [o])[j]? = some o' → os[j]? = some o' ∨ (j = os.length ∧ o' = o) := by
    intro j o' hj
    rw [List.getElem?_append] at hj
    split at hj
    · exact .inl hj
    · have : j - os.length = 0 := by
        rcases Nat.eq_zero_or_pos (j - os.length) with e | e
        · exact e
        · rw [List.getElem?_eq_none (by simp; omega)] at hj; cases hj
      rw [this] at hj
      simp at hj
      exact .inr ⟨by omega, hj.symm⟩
  rcases h with ⟨rfl, rfl, rfl⟩ | ⟨k, rfl, ⟨o0, ho0, hm⟩, hall⟩
  · rw [if_pos (by omega), if_pos (by omega)]
    refine .inr ⟨0, rfl, ⟨o, rfl, rfl⟩, fun j o' hj => ?_⟩
    rcases at_ j o' hj with h | ⟨h1, rfl⟩
    · simp at h
    · exact ⟨Nat.le_refl _, fun _ => by omega⟩
  · by_cases hc : m < score a o
    · rw [if_pos (.inr hc), if_pos (.inr hc)]
      refine .inr ⟨os.length, rfl, ⟨o, by simp, rfl⟩, fun j o' hj => ?_⟩
      rcases at_ j o' hj with h | ⟨h1, rfl⟩
      · have := (hall j o' h).1
        exact ⟨by omega, fun e => by omega⟩
      · exact ⟨Nat.le_refl _, fun _ => by omega⟩
    · rw [if_neg (by omega), if_neg (by omega)]
      have hk : k < os.length := by
        rcases Nat.lt_or_ge k os.length with g | g
        · exact g
        · rw [List.getElem?_eq_none g] at ho0; cases ho0
      refine .inr ⟨k, rfl, ⟨o0, by rw [List.getElem?_append_left hk]; exact ho0, hm⟩, fun j o' hj => ?_⟩
      rcases at_ j o' hj with h | ⟨h1, rfl⟩
      · exact hall j o' h
      · exact ⟨by omega, fun _ => by omega⟩
/-- there is one best one alone -/
theorem IsBest.one {a : List α} {os : List (List α)} {p q : Int} {m n : Nat} (h : IsBest a os p m) (g : IsBest a os q n) : p = q ∧ m = n := by
  rcases h with ⟨rfl, rfl, rfl⟩ | ⟨k, rfl, ⟨o, ho, hm⟩, hall⟩
  · rcases g with ⟨_, rfl, rfl⟩ | ⟨k, rfl, ⟨o, ho, hm⟩, hall⟩
    · exact ⟨rfl, rfl⟩
    · simp at ho
  · rcases g with ⟨rfl, rfl, rfl⟩ | ⟨k', rfl, ⟨o', ho', hm'⟩, hall'⟩
    · simp at ho
    · have h1 := hall k' o' ho'
      have h2 := hall' k o ho
      have e : m = n := by omega
      have := h1.2 (by omega)
      have := h2.2 (by omega)
      exact ⟨by omega, e⟩
/-- with one more, no better, it is the same -/
theorem IsBest.again {a : List α} {os : List (List α)} {k : Nat} {m : Nat} (h : IsBest a os k m) {o : List α} (ho : score a o ≤ m) : IsBest a (os ++ [o]) k m := by
  have := h.snoc o
  rwa [if_neg (by omega), if_neg (by omega)] at this
end Al
end Go.Proofs.Ytdnckhagknlfhaa
