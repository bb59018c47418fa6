/-
  Plain mathematics of lines: no program, no memory. A text is a list of bytes. 'splitL': its lines; 'endL': how long its first line is; 'okAt', 'rightL': which lines are right; 'aheadL', 'behindL': what two lists share.
-/
namespace Go.Proofs.Ytdnckhagknlfhaa.Sp.Pl

def splitL : List UInt8 → List (List UInt8)
  | [] => []
  | c :: cs => if c = 10 then [c] :: splitL cs else
    match splitL cs with
    | [] => [[c]]
    | l :: ls => (c :: l) :: ls

def endL : List UInt8 → Nat
  | [] => 0
  | c :: cs => if c = 10 then 1 else endL cs + 1

theorem endL_le (l : List UInt8) : endL l ≤ l.length := by
  induction l with
  | nil => simp [endL]
  | cons c cs ih => unfold endL; split <;> simp <;> omega

theorem endL_pos (l : List UInt8) (h : l ≠ []) : 0 < endL l := by
  cases l with
  | nil => exact absurd rfl h
  | cons c cs => unfold endL; split <;> omega

theorem split_step (l : List UInt8) (h : l ≠ []) : splitL l = l.take (endL l) :: splitL (l.drop (endL l)) := by
  induction l with
  | nil => exact absurd rfl h
  | cons c cs ih =>
    rw [splitL, endL]
    by_cases hc : c = 10
    · simp [hc]
    · rw [if_neg hc, if_neg hc]
      cases cs with
      | nil => simp [splitL, endL]
      | cons d ds => rw [ih (by simp)]; simp

theorem split_nil : splitL [] = [] := rfl

theorem split_ne (l : List UInt8) (h : l ≠ []) : splitL l ≠ [] := by rw [split_step l h]; simp

theorem join_split (l : List UInt8) : (splitL l).flatten = l := by
  induction l with
  | nil => rfl
  | cons c cs ih =>
    unfold splitL
    by_cases hc : c = 10
    · simp [hc, ih]
    · rw [if_neg hc]
      cases hs : splitL cs with
      | nil => rw [hs] at ih; simp at ih; simp [ih]
      | cons x xs => rw [hs] at ih; simp at ih; simp [ih]

/-- a text in two parts, the first one of which ends with a line feed -/
theorem split_append (a b : List UInt8) : splitL (a ++ 10 :: b) = splitL (a ++ [10]) ++ splitL b := by
  induction a with
  | nil => simp [splitL]
  | cons c cs ih =>
    simp only [List.cons_append]
    rw [splitL, splitL]
    by_cases hc : c = 10
    · simp [hc, ih]
    · rw [if_neg hc, if_neg hc, ih]
      cases hs : splitL (cs ++ [10]) with
      | nil => exact absurd hs (split_ne _ (by simp))
      | cons x xs => rfl

/-! which lines are right -/
def isLineB (s : List UInt8) : Bool := !s.isEmpty && endL s == s.length
def feedB (s : List UInt8) : Bool := s.getLast? == some 10
def okAt (l : List (List UInt8)) (i : Nat) : Bool := isLineB (l.getD i []) && (i + 1 == l.length || feedB (l.getD i []))
def rightL (l : List (List UInt8)) : Bool := (List.range l.length).all (okAt l)

theorem rightL_of (l : List (List UInt8)) (h : ∀ i, i < l.length → okAt l i = true) : rightL l = true := by
  simp [rightL]; exact h
theorem rightL_not (l : List (List UInt8)) (i : Nat) (hi : i < l.length) (h : okAt l i = false) : rightL l = false := by
  simp [rightL]; exact ⟨i, hi, h⟩

theorem rightL_nil : rightL [] = true := rfl
theorem rightL_one (x : List UInt8) : rightL [x] = isLineB x := by simp [rightL, okAt]
theorem rightL_cons (x y : List UInt8) (r : List (List UInt8)) : rightL (x :: y :: r) = (isLineB x && feedB x && rightL (y :: r)) := by
  rw [Bool.eq_iff_iff]
  simp only [rightL, List.all_eq_true, List.mem_range, Bool.and_eq_true]
  constructor
  · intro h
    have h0 := h 0 (by simp)
    simp [okAt] at h0
    refine ⟨⟨h0.1, h0.2⟩, fun i hi => ?_⟩
    have := h (i + 1) (by simp at hi ⊢; omega)
    simpa [okAt] using this
  · rintro ⟨⟨h1, h2⟩, h3⟩ i hi
    cases i with
    | zero => simp [okAt, h1, h2]
    | succ i =>
      have := h3 i (by simp at hi ⊢; omega)
      simpa [okAt] using this

/-- a line, and what comes behind it -/
theorem endL_app (x r : List UInt8) (h : isLineB x = true) (hf : feedB x = true ∨ r = []) : endL (x ++ r) = x.length := by
  have hx : endL x = x.length := by simp [isLineB] at h; exact h.2
  rcases hf with hf | rfl
  · clear h
    induction x with
    | nil => simp [feedB] at hf
    | cons c cs ih =>
      simp only [List.cons_append]
      rw [endL] at hx ⊢
      by_cases hc : c = 10
      · rw [if_pos hc] at hx ⊢; exact hx
      · rw [if_neg hc] at hx ⊢
        simp at hx ⊢
        refine ih hx ?_
        cases cs with
        | nil => simp [feedB] at hf; exact absurd hf hc
        | cons d ds => simpa [feedB] using hf
  · simpa using hx

theorem split_join_right (l : List (List UInt8)) (h : rightL l = true) : splitL l.flatten = l := by
  induction l with
  | nil => rfl
  | cons x r ih =>
    cases r with
    | nil =>
      rw [rightL_one] at h
      have hne : x ≠ [] := by intro e; simp [e, isLineB] at h
      have he := endL_app x [] h (.inr rfl)
      simp only [List.append_nil] at he
      simp only [List.flatten_cons, List.flatten_nil, List.append_nil]
      rw [split_step x hne, he]
      simp [splitL]
    | cons y r =>
      rw [rightL_cons] at h
      simp only [Bool.and_eq_true] at h
      have hne : x ≠ [] := by intro e; simp [e, isLineB] at h
      have he := endL_app x (y :: r).flatten h.1.1 (.inl h.1.2)
      rw [List.flatten_cons, split_step _ (by simp [hne]), he]
      simp only [List.take_left', List.drop_left']
      rw [ih h.2]

theorem take_endL_line (l : List UInt8) (h : l ≠ []) : isLineB (l.take (endL l)) = true ∧ (l.drop (endL l) ≠ [] → feedB (l.take (endL l)) = true) := by
  induction l with
  | nil => exact absurd rfl h
  | cons c cs ih =>
    unfold endL
    by_cases hc : c = 10
    · simp [hc, isLineB, feedB, endL]
    · rw [if_neg hc]
      cases cs with
      | nil => simp [endL, isLineB, hc]
      | cons d ds =>
        obtain ⟨h1, h2⟩ := ih (by simp)
        have hp := endL_pos (d :: ds) (by simp)
        obtain ⟨k, hk⟩ : ∃ k, endL (d :: ds) = k + 1 := ⟨endL (d :: ds) - 1, by omega⟩
        rw [hk] at h1 h2 ⊢
        simp only [List.take_succ_cons, List.drop_succ_cons] at h1 h2 ⊢
        constructor
        · simp [isLineB] at h1 ⊢
          rw [endL, if_neg hc, h1]
        · intro hd
          have := h2 hd
          simpa [feedB] using this

theorem right_split (l : List UInt8) : rightL (splitL l) = true := by
  suffices H : ∀ n (l : List UInt8), l.length ≤ n → rightL (splitL l) = true from H _ l (Nat.le_refl _)
  intro n
  induction n with
  | zero => intro l h; have : l = [] := List.eq_nil_of_length_eq_zero (by omega); subst this; rfl
  | succ n ih =>
    intro l hl
    by_cases h : l = []
    · subst h; rfl
    · rw [split_step l h]
      have hp := endL_pos l h
      obtain ⟨h1, h2⟩ := take_endL_line l h
      by_cases hd : l.drop (endL l) = []
      · rw [hd, split_nil, rightL_one]; exact h1
      · cases hs : splitL (l.drop (endL l)) with
        | nil => exact absurd hs (split_ne _ hd)
        | cons y r =>
          rw [rightL_cons, ← hs, ih _ (by simp; omega), h1, h2 hd]
          rfl

/-- C3: Split undoes Join of lines that are right, and of no others. -/
theorem right_iff (l : List (List UInt8)) : rightL l = decide (splitL l.flatten = l) := by
  by_cases h : splitL l.flatten = l
  · rw [decide_eq_true h, ← h]; exact right_split _
  · rw [decide_eq_false h]
    cases hr : rightL l with
    | false => rfl
    | true => exact absurd (split_join_right l hr) h

/-! how many -/
def feeds (l : List UInt8) : Nat := (l.filter (· == 10)).length
theorem split_count (l : List UInt8) : (splitL l).length = feeds l + (if l ≠ [] ∧ l.getLast? ≠ some 10 then 1 else 0) := by
  induction l with
  | nil => simp [splitL, feeds]
  | cons c cs ih =>
    unfold splitL
    by_cases hc : c = 10
    · rw [if_pos hc]
      cases cs with
      | nil => simp [hc, splitL, feeds]
      | cons d ds => simp [hc, feeds] at ih ⊢; rw [ih]; simp [List.getLast?_cons]; omega
    · rw [if_neg hc]
      cases cs with
      | nil => simp [hc, splitL, feeds]
      | cons d ds =>
        cases hs : splitL (d :: ds) with
        | nil => exact absurd hs (split_ne _ (by simp))
        | cons x xs => rw [hs] at ih; simp [hc, feeds] at ih ⊢; rw [ih]

theorem split_mem (l x : List UInt8) (h : x ∈ splitL l) : x ≠ [] := by
  induction l generalizing x with
  | nil => simp [splitL] at h
  | cons c cs ih =>
    unfold splitL at h
    by_cases hc : c = 10
    · rw [if_pos hc] at h
      rcases List.mem_cons.1 h with h | h
      · subst h; simp
      · exact ih x h
    · rw [if_neg hc] at h
      cases hs : splitL cs with
      | nil => rw [hs] at h; simp at h; subst h; simp
      | cons y ys =>
        rw [hs] at h
        rcases List.mem_cons.1 h with h | h
        · subst h; simp
        · exact ih x (by rw [hs]; exact List.mem_cons_of_mem _ h)

theorem split_length (l : List UInt8) : (splitL l).length ≤ l.length := by
  induction l with
  | nil => simp [splitL]
  | cons c cs ih =>
    unfold splitL
    by_cases hc : c = 10
    · rw [if_pos hc]; simp; exact ih
    · rw [if_neg hc]
      cases hs : splitL cs with
      | nil => simp
      | cons y ys => rw [hs] at ih; simp at ih ⊢; omega

/-! what is shared -/
def aheadL {α : Type} [DecidableEq α] : List α → List α → Nat
  | x :: xs, y :: ys => if x = y then aheadL xs ys + 1 else 0
  | _, _ => 0
def behindL {α : Type} [DecidableEq α] (a b : List α) : Nat := aheadL a.reverse b.reverse

section
variable {α : Type} [DecidableEq α]
theorem ahead_le (a b : List α) : aheadL a b ≤ a.length ∧ aheadL a b ≤ b.length := by
  induction a generalizing b with
  | nil => cases b <;> simp [aheadL]
  | cons x xs ih =>
    cases b with
    | nil => simp [aheadL]
    | cons y ys => unfold aheadL; have := ih ys; split <;> simp <;> omega

theorem ahead_same (a b : List α) (j : Nat) (h : j < aheadL a b) : a[j]? = b[j]? := by
  induction a generalizing b j with
  | nil => cases b <;> simp [aheadL] at h
  | cons x xs ih =>
    cases b with
    | nil => simp [aheadL] at h
    | cons y ys =>
      unfold aheadL at h
      by_cases hxy : x = y
      · rw [if_pos hxy] at h
        cases j with
        | zero => simp [hxy]
        | succ j => simpa using ih ys j (by omega)
      · rw [if_neg hxy] at h; omega

theorem ahead_stop (a b : List α) (h1 : aheadL a b < a.length) (h2 : aheadL a b < b.length) : a[aheadL a b]? ≠ b[aheadL a b]? := by
  induction a generalizing b with
  | nil => simp at h1
  | cons x xs ih =>
    cases b with
    | nil => simp at h2
    | cons y ys =>
      unfold aheadL at h1 h2 ⊢
      by_cases hxy : x = y
      · rw [if_pos hxy] at h1 h2 ⊢
        simp at h1 h2
        simpa using ih ys h1 h2
      · rw [if_neg hxy]; simpa using hxy

theorem ahead_char (a b : List α) (k : Nat) (h1 : k ≤ a.length) (h2 : k ≤ b.length) (hs : ∀ j, j < k → a[j]? = b[j]?) (hx : k = a.length ∨ k = b.length ∨ a[k]? ≠ b[k]?) : aheadL a b = k := by
  obtain ⟨g1, g2⟩ := ahead_le a b
  rcases Nat.lt_trichotomy (aheadL a b) k with h | h | h
  · exact absurd (hs _ h) (ahead_stop a b (by omega) (by omega))
  · exact h
  · rcases hx with hx | hx | hx
    · omega
    · omega
    · exact absurd (ahead_same a b k h) hx

theorem ahead_comm (a b : List α) : aheadL a b = aheadL b a := by
  obtain ⟨g1, g2⟩ := ahead_le b a
  refine ahead_char a b _ g2 g1 (fun j hj => (ahead_same b a j hj).symm) ?_
  by_cases h1 : aheadL b a = a.length
  · exact .inl h1
  · by_cases h2 : aheadL b a = b.length
    · exact .inr (.inl h2)
    · exact .inr (.inr (fun e => ahead_stop b a (by omega) (by omega) e.symm))

theorem ahead_self (a : List α) : aheadL a a = a.length := by
  induction a with
  | nil => rfl
  | cons x xs ih => simp [aheadL, ih]

theorem ahead_take (a b : List α) (k : Nat) (hk : k ≤ a.length) : aheadL (a.take k) b = min (aheadL a b) k := by
  obtain ⟨g1, g2⟩ := ahead_le a b
  refine ahead_char _ _ _ (by simp; omega) (by omega) (fun j hj => ?_) ?_
  · rw [List.getElem?_take, if_pos (by omega)]; exact ahead_same a b j (by omega)
  · by_cases h : k ≤ aheadL a b
    · left; simp; omega
    · by_cases h2 : aheadL a b = b.length
      · right; left; omega
      · right; right
        rw [Nat.min_eq_left (by omega), List.getElem?_take, if_pos (by omega)]
        exact ahead_stop a b (by omega) (by omega)

theorem behind_char (a b : List α) (k : Nat) (h1 : k ≤ a.length) (h2 : k ≤ b.length) (hs : ∀ j, j < k → a[a.length - 1 - j]? = b[b.length - 1 - j]?) (hx : k = a.length ∨ k = b.length ∨ a[a.length - 1 - k]? ≠ b[b.length - 1 - k]?) : behindL a b = k := by
  refine ahead_char _ _ _ (by simpa using h1) (by simpa using h2) (fun j hj => ?_) ?_
  · rw [List.getElem?_reverse (by omega), List.getElem?_reverse (by omega)]; exact hs j hj
  · rcases hx with hx | hx | hx
    · left; simpa using hx
    · right; left; simpa using hx
    · by_cases e1 : k = a.length
      · left; simpa using e1
      · by_cases e2 : k = b.length
        · right; left; simpa using e2
        · right; right
          rw [List.getElem?_reverse (by omega), List.getElem?_reverse (by omega)]; exact hx
end

end Go.Proofs.Ytdnckhagknlfhaa.Sp.Pl
