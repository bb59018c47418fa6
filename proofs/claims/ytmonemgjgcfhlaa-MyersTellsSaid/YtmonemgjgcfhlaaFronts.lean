/-
  Plain mathematics, no program: how far one comes at each cost (fronts), that a front is made of the one before it, and what a front tells of what is left to pay.
-/
import Derived.Test.YtmonemgjgcfhlaaDist
namespace Go.Proofs.Ytmonemgjgcfhlaa
namespace Pm

/-- what is to be paid for the first i numbers of x and the first j of y -/
def D (x y : List Int) (i j : Nat) : Nat := ed (x.take i).reverse (y.take j).reverse

theorem take_rev {x : List Int} {i : Nat} (h : i < x.length) : (x.take (i + 1)).reverse = x[i] :: (x.take i).reverse := by
  rw [List.take_succ_eq_append_getElem h, List.reverse_append]; rfl
section
variable {x y : List Int}
theorem D_keep {i j : Nat} (hi : i < x.length) (hj : j < y.length) (h : x[i] = y[j]) : D x y (i + 1) (j + 1) = D x y i j := by
  unfold D; rw [take_rev hi, take_rev hj, h, ed_keep]
theorem D_ne {i j : Nat} (hi : i < x.length) (hj : j < y.length) (h : x[i] ≠ y[j]) : D x y (i + 1) (j + 1) = 1 + min (D x y i (j + 1)) (D x y (i + 1) j) := by
  unfold D; rw [take_rev hi, take_rev hj, ed_ne h]
theorem D_up {i : Nat} (j : Nat) (hi : i < x.length) : D x y (i + 1) j ≤ D x y i j + 1 := by unfold D; rw [take_rev hi]; exact ed_up ..
theorem D_dn {i : Nat} (j : Nat) (hi : i < x.length) : D x y i j ≤ D x y (i + 1) j + 1 := by unfold D; rw [take_rev hi]; exact ed_dn ..
theorem D_up' {j : Nat} (i : Nat) (hj : j < y.length) : D x y i (j + 1) ≤ D x y i j + 1 := by unfold D; rw [take_rev hj]; exact ed_up' ..
theorem D_dn' {j : Nat} (i : Nat) (hj : j < y.length) : D x y i j ≤ D x y i (j + 1) + 1 := by unfold D; rw [take_rev hj]; exact ed_dn' ..
theorem D_diag {i j : Nat} (hi : i < x.length) (hj : j < y.length) : D x y i j ≤ D x y (i + 1) (j + 1) := by
  unfold D; rw [take_rev hi, take_rev hj]; exact ed_diag ..
theorem D_zero {i : Nat} (hi : i ≤ x.length) : D x y i 0 = i := by simp [D, ed_nil', hi]
theorem D_zero' {j : Nat} (hj : j ≤ y.length) : D x y 0 j = j := by simp [D, ed_nil, hj]
theorem D_low {i j : Nat} (hi : i ≤ x.length) (hj : j ≤ y.length) : i ≤ j + D x y i j ∧ j ≤ i + D x y i j := by
  have := ed_low (x.take i).reverse (y.take j).reverse
  simp only [List.length_reverse, List.length_take, Nat.min_eq_left hi, Nat.min_eq_left hj] at this
  exact this
theorem D_par {i j : Nat} (hi : i ≤ x.length) (hj : j ≤ y.length) : (D x y i j + i + j) % 2 = 0 := by
  have := ed_parity (x.take i).reverse (y.take j).reverse
  simp only [List.length_reverse, List.length_take, Nat.min_eq_left hi, Nat.min_eq_left hj] at this
  exact this
theorem D_top {i j : Nat} (hi : i ≤ x.length) (hj : j ≤ y.length) : D x y i j ≤ i + j := by
  have := ed_top (x.take i).reverse (y.take j).reverse
  simp only [List.length_reverse, List.length_take, Nat.min_eq_left hi, Nat.min_eq_left hj] at this
  exact this
theorem D_mono {i j : Nat} : ∀ t, i + t ≤ x.length → j + t ≤ y.length → D x y i j ≤ D x y (i + t) (j + t)
  | 0, _, _ => Nat.le_refl _
  | t + 1, h1, h2 => Nat.le_trans (D_mono t (by omega) (by omega)) (D_diag (i := i + t) (j := j + t) (by omega) (by omega))
theorem D_mono' {i j i' j' : Nat} (hi : i' ≤ x.length) (hj : j' ≤ y.length) (hk : (i : Int) - j = (i' : Int) - j') (h : i ≤ i') : D x y i j ≤ D x y i' j' := by
  have := D_mono (x := x) (y := y) (i := i) (j := j) (i' - i) (by omega) (by omega)
  rwa [show i + (i' - i) = i' from by omega, show j + (i' - i) = j' from by omega] at this
theorem D_far' {i j : Nat} : ∀ t, j + t ≤ y.length → D x y i (j + t) ≤ D x y i j + t
  | 0, _ => Nat.le_refl _
  | t + 1, h => by have := D_far' (i := i) (j := j) t (by omega); have := D_up' (x := x) (y := y) (j := j + t) i (by omega); rw [← Nat.add_assoc]; omega
end

/-- from place (i, j) one slides to (i', j') at no cost, and no further -/
def Slid (x y : List Int) (i j i' j' : Nat) : Prop :=
  i ≤ i' ∧ (i : Int) - j = (i' : Int) - j' ∧ i' ≤ x.length ∧ j' ≤ y.length ∧ D x y i' j' = D x y i j ∧
  (∀ (h1 : i' < x.length) (h2 : j' < y.length), x[i'] ≠ y[j'])

/-- the greatest i on the diagonal k at cost c -/
def IsFar (x y : List Int) (c : Nat) (k f : Int) : Prop :=
  ∃ i j : Nat, f = i ∧ (i : Int) - j = k ∧ i ≤ x.length ∧ j ≤ y.length ∧ D x y i j ≤ c ∧
    ∀ p q : Nat, p ≤ x.length → q ≤ y.length → (p : Int) - q = k → D x y p q ≤ c → p ≤ i

structure FrontOk (x y : List Int) (c : Nat) (low : Int) (far : List Int) : Prop where
  ne : 0 < far.length
  low1 : -(c : Int) ≤ low
  low2 : -(y.length : Int) ≤ low
  high1 : low + 2 * ((far.length : Int) - 1) ≤ c
  high2 : low + 2 * ((far.length : Int) - 1) ≤ x.length
  par : (low + c) % 2 = 0
  at_ : ∀ (t : Nat) (f : Int), far[t]? = some f → IsFar x y c (low + 2 * t) f
  lo : ∀ k : Int, k < low → (k + c) % 2 = 0 → -(c : Int) ≤ k → -(y.length : Int) ≤ k → ∃ i : Nat, (i : Int) - y.length = k + 1 ∧ i ≤ x.length ∧ D x y i y.length + 1 ≤ c
  hi : ∀ k : Int, low + 2 * ((far.length : Int) - 1) < k → (k + c) % 2 = 0 → k ≤ c → k ≤ x.length → ∃ j : Nat, (x.length : Int) - j = k - 1 ∧ j ≤ y.length ∧ D x y x.length j + 1 ≤ c
  going : c < D x y x.length y.length

/-- how far one comes on a diagonal -/
def onL (low : Int) (far : List Int) (k : Int) : Int :=
  if k < low ∨ low + 2 * ((far.length : Int) - 1) < k then -1 else far.getD ((k - low) / 2).toNat 0

theorem onL_in {low : Int} {far : List Int} {k : Int} {t : Nat} (hk : k = low + 2 * t) (ht : t < far.length) : ∃ f, far[t]? = some f ∧ onL low far k = f := by
  refine ⟨far[t], List.getElem?_eq_getElem ht, ?_⟩
  unfold onL
  rw [if_neg (by omega), show ((k - low) / 2).toNat = t from by omega, List.getD_eq_getElem?_getD, List.getElem?_eq_getElem ht]
  rfl
theorem onL_out {low : Int} {far : List Int} {k : Int} (h : k < low ∨ low + 2 * ((far.length : Int) - 1) < k) : onL low far k = -1 := if_pos h
theorem FrontOk.on_in {x y : List Int} {c : Nat} {low : Int} {far : List Int} (h : FrontOk x y c low far) {k : Int} (h1 : low ≤ k) (h2 : k ≤ low + 2 * ((far.length : Int) - 1)) (hp : (k + c) % 2 = 0) :
    IsFar x y c k (onL low far k) := by
  have h0 := h.par
  have hn := h.ne
  obtain ⟨t, ht⟩ : ∃ t : Nat, k = low + 2 * t := ⟨((k - low) / 2).toNat, by omega⟩
  obtain ⟨f, hf, e⟩ := onL_in (far := far) ht (by omega)
  rw [e, ht]
  exact h.at_ t f hf

/-- what a front tells of the next step, at a place on a shortest way -/
theorem FrontOk.ask {x y : List Int} {c : Nat} {low : Int} {far : List Int} (h : FrontOk x y c low far) {i j : Nat} (hi : i + 1 ≤ x.length) (hj : j ≤ y.length)
    (hD : D x y (i + 1) j = c + 1) (hw : ((c : Int) + 1) + (((i : Int) + 1 - j) - ((x.length : Int) - y.length)) ≤ D x y x.length y.length) :
    (i : Int) ≤ onL low far ((i : Int) - j) ↔ D x y i j ≤ c := by
  have hpar := D_par (x := x) (y := y) hi hj
  have hp : (((i : Int) - j) + c) % 2 = 0 := by omega
  have hlow := D_low (x := x) (y := y) (i := i) (j := j) (by omega) hj
  rcases Int.lt_or_le ((i : Int) - j) low with g1 | g1
  · rw [onL_out (.inl g1)]
    constructor
    · intro e; omega
    · intro e
      obtain ⟨p, hp1, hp2, hp3⟩ := h.lo _ g1 hp (by omega) (by omega)
      have := D_mono' (x := x) (y := y) (i := i + 1) (j := j) hp2 (Nat.le_refl _) (by omega) (by omega)
      omega
  · rcases Int.lt_or_le (low + 2 * ((far.length : Int) - 1)) ((i : Int) - j) with g2 | g2
    · rw [onL_out (.inr g2)]
      constructor
      · intro e; omega
      · intro e
        obtain ⟨q, hq1, hq2, hq3⟩ := h.hi _ g2 hp (by omega) (by omega)
        have := D_far' (x := x) (y := y) (i := x.length) (j := q) (y.length - q) (by omega)
        rw [show q + (y.length - q) = y.length from by omega] at this
        omega
    · obtain ⟨p, q, e1, e2, e3, e4, e5, e6⟩ := h.on_in g1 g2 hp
      rw [e1]
      constructor
      · intro e
        have := D_mono' (x := x) (y := y) (i := i) (j := j) e3 e4 (by omega) (by omega)
        omega
      · intro e
        have := e6 i j (by omega) hj rfl e
        omega

/-- the diagonals of the next front -/
def nextLow (y : List Int) (low : Int) (far : List Int) : Int := if onL low far low - low = y.length then low + 1 else low - 1
def nextHigh (x : List Int) (low : Int) (far : List Int) : Int := if onL low far (low + 2 * ((far.length : Int) - 1)) = x.length then low + 2 * ((far.length : Int) - 1) - 1 else low + 2 * ((far.length : Int) - 1) + 1
/-- where one goes on from, on a diagonal -/
def from_ (x y : List Int) (low : Int) (far : List Int) (k : Int) : Int := min (min (max (onL low far (k - 1) + 1) (onL low far (k + 1))) x.length) (y.length + k)

section
variable {x y : List Int} {c : Nat} {low : Int} {far : List Int}
theorem FrontOk.ends (h : FrontOk x y c low far) : IsFar x y c low (onL low far low) ∧ IsFar x y c (low + 2 * ((far.length : Int) - 1)) (onL low far (low + 2 * ((far.length : Int) - 1))) := by
  have := h.ne
  have := h.par
  exact ⟨h.on_in (Int.le_refl _) (by omega) h.par, h.on_in (by omega) (Int.le_refl _) (by omega)⟩
theorem FrontOk.next_le (h : FrontOk x y c low far) : nextLow y low far ≤ nextHigh x low far ∧ (nextHigh x low far - nextLow y low far) % 2 = 0 := by
  have hn := h.ne
  have hg := h.going
  obtain ⟨⟨i, j, e1, e2, e3, e4, e5, _⟩, ⟨p, q, f1, f2, f3, f4, f5, _⟩⟩ := h.ends
  unfold nextLow nextHigh
  rw [e1, f1]
  split <;> split
  · rcases Nat.lt_or_ge 1 far.length with g | g
    · omega
    · exfalso
      have hj : j = y.length := by omega
      have hp : p = x.length := by omega
      have hpi : i = p := by
        have e : low + 2 * ((far.length : Int) - 1) = low := by omega
        rw [e, e1] at f1; omega
      have hq : q = j := by omega
      subst hj hp hpi
      omega
  · omega
  · omega
  · omega
/-- the diagonals that are left behind, low ones -/
theorem FrontOk.lo' (h : FrontOk x y c low far) : ∀ k : Int, k < nextLow y low far → (k + (c + 1 : Nat)) % 2 = 0 → -((c + 1 : Nat) : Int) ≤ k → -(y.length : Int) ≤ k →
    ∃ i : Nat, (i : Int) - y.length = k + 1 ∧ i ≤ x.length ∧ D x y i y.length + 1 ≤ c + 1 := by
  intro k hk hp h1 h2
  have hpar := h.par
  obtain ⟨⟨i, j, e1, e2, e3, e4, e5, _⟩, _⟩ := h.ends
  have hlow : nextLow y low far = low + 1 ∧ j = y.length ∨ nextLow y low far = low - 1 := by
    unfold nextLow
    split
    · left; exact ⟨rfl, by omega⟩
    · right; rfl
  rcases Int.lt_or_le (k + 1) low with g | g
  · obtain ⟨p, hp1, hp2, hp3⟩ := h.lo (k + 1) g (by omega) (by omega) (by omega)
    obtain ⟨p', rfl⟩ : ∃ p', p = p' + 1 := ⟨p - 1, by omega⟩
    have := D_dn (x := x) (y := y) (i := p') y.length (by omega)
    exact ⟨p', by omega, by omega, by omega⟩
  · rcases hlow with ⟨hl, hj⟩ | hl
    · subst hj
      exact ⟨i, by omega, e3, by omega⟩
    · omega
theorem FrontOk.hi' (h : FrontOk x y c low far) : ∀ k : Int, nextHigh x low far < k → (k + (c + 1 : Nat)) % 2 = 0 → k ≤ ((c + 1 : Nat) : Int) → k ≤ x.length →
    ∃ j : Nat, (x.length : Int) - j = k - 1 ∧ j ≤ y.length ∧ D x y x.length j + 1 ≤ c + 1 := by
  intro k hk hp h1 h2
  have hpar := h.par
  obtain ⟨_, ⟨i, j, e1, e2, e3, e4, e5, _⟩⟩ := h.ends
  have hhigh : nextHigh x low far = low + 2 * ((far.length : Int) - 1) - 1 ∧ i = x.length ∨ nextHigh x low far = low + 2 * ((far.length : Int) - 1) + 1 := by
    unfold nextHigh
    split
    · left; exact ⟨rfl, by omega⟩
    · right; rfl
  rcases Int.lt_or_le (low + 2 * ((far.length : Int) - 1)) (k - 1) with g | g
  · obtain ⟨q, hq1, hq2, hq3⟩ := h.hi (k - 1) g (by omega) (by omega) (by omega)
    obtain ⟨q', rfl⟩ : ∃ q', q = q' + 1 := ⟨q - 1, by omega⟩
    have := D_dn' (x := x) (y := y) (j := q') x.length (by omega)
    exact ⟨q', by omega, by omega, by omega⟩
  · rcases hhigh with ⟨hl, hi⟩ | hl
    · subst hi
      exact ⟨j, by omega, e4, by omega⟩
    · omega

/-- a neighbour of a diagonal of the next front: what is told of it is right, or there is nothing -/
theorem FrontOk.left (h : FrontOk x y c low far) {k : Int} (h1 : nextLow y low far ≤ k) (h2 : k ≤ nextHigh x low far) (hp : (k + (c + 1 : Nat)) % 2 = 0) :
    IsFar x y c (k - 1) (onL low far (k - 1)) ∨ (onL low far (k - 1) = -1 ∧ ∀ p q : Nat, p ≤ x.length → q ≤ y.length → (p : Int) - q = k - 1 → ¬ D x y p q ≤ c) := by
  have hpar := h.par
  have hn := h.ne
  have hhi : nextHigh x low far ≤ low + 2 * ((far.length : Int) - 1) + 1 := by unfold nextHigh; split <;> omega
  rcases Int.lt_or_le (k - 1) low with g | g
  · right
    refine ⟨onL_out (.inl g), fun p q hp1 hq1 hpq hD => ?_⟩
    have hl := D_low (x := x) (y := y) hp1 hq1
    obtain ⟨i, hi1, hi2, hi3⟩ := h.lo (k - 1) g (by omega) (by omega) (by omega)
    -- the diagonal k is done with at cost c - 1: so is its neighbour at cost c, or the end was reached
    have hg := h.going
    obtain ⟨⟨i0, j0, e1, e2, e3, e4, e5, e6⟩, _⟩ := h.ends
    have hlow : nextLow y low far = low + 1 ∧ j0 = y.length ∨ nextLow y low far = low - 1 ∧ j0 ≠ y.length := by
      unfold nextLow
      split
      · left; exact ⟨rfl, by omega⟩
      · right; exact ⟨rfl, by omega⟩
    rcases hlow with ⟨hl2, _⟩ | ⟨hl2, hne⟩
    · omega
    · have hk : k = low - 1 := by omega
      rcases Nat.lt_or_ge i x.length with hlt | hge
      · have hu := D_up (x := x) (y := y) y.length hlt
        have := e6 (i + 1) y.length (by omega) (Nat.le_refl _) (by omega) (by omega)
        omega
      · have : i = x.length := by omega
        subst this
        omega
  · left; exact h.on_in g (by omega) (by omega)
theorem FrontOk.right (h : FrontOk x y c low far) {k : Int} (h1 : nextLow y low far ≤ k) (h2 : k ≤ nextHigh x low far) (hp : (k + (c + 1 : Nat)) % 2 = 0) :
    IsFar x y c (k + 1) (onL low far (k + 1)) ∨ (onL low far (k + 1) = -1 ∧ ∀ p q : Nat, p ≤ x.length → q ≤ y.length → (p : Int) - q = k + 1 → ¬ D x y p q ≤ c) := by
  have hpar := h.par
  have hn := h.ne
  have hlo : low - 1 ≤ nextLow y low far := by unfold nextLow; split <;> omega
  rcases Int.lt_or_le (low + 2 * ((far.length : Int) - 1)) (k + 1) with g | g
  · right
    refine ⟨onL_out (.inr g), fun p q hp1 hq1 hpq hD => ?_⟩
    have hl := D_low (x := x) (y := y) hp1 hq1
    obtain ⟨j, hj1, hj2, hj3⟩ := h.hi (k + 1) g (by omega) (by omega) (by omega)
    have hg := h.going
    obtain ⟨_, ⟨i0, j0, e1, e2, e3, e4, e5, e6⟩⟩ := h.ends
    have hhigh : nextHigh x low far = low + 2 * ((far.length : Int) - 1) - 1 ∧ i0 = x.length ∨ nextHigh x low far = low + 2 * ((far.length : Int) - 1) + 1 ∧ i0 ≠ x.length := by
      unfold nextHigh
      split
      · left; exact ⟨rfl, by omega⟩
      · right; exact ⟨rfl, by omega⟩
    rcases hhigh with ⟨hl2, _⟩ | ⟨hl2, hne⟩
    · omega
    · rcases Nat.lt_or_ge j y.length with hlt | hge
      · have hu := D_up' (x := x) (y := y) x.length hlt
        have := e6 x.length (j + 1) (Nat.le_refl _) (by omega) (by omega) (by omega)
        omega
      · have : j = y.length := by omega
        subst this
        omega
  · left; exact h.on_in (by omega) g (by omega)

/-- the next front, diagonal by diagonal -/
theorem FrontOk.step (h : FrontOk x y c low far) {k : Int} (h1 : nextLow y low far ≤ k) (h2 : k ≤ nextHigh x low far) (hp : (k + (c + 1 : Nat)) % 2 = 0) :
    ∃ i j : Nat, from_ x y low far k = i ∧ (i : Int) - j = k ∧ i ≤ x.length ∧ j ≤ y.length ∧ ∀ i' j', Slid x y i j i' j' → IsFar x y (c + 1) k i' := by
  have hL := h.left h1 h2 hp
  have hR := h.right h1 h2 hp
  have hpar := h.par
  have hn := h.ne
  have hlow1 := h.low1
  have hlow2 := h.low2
  have hhigh1 := h.high1
  have hhigh2 := h.high2
  obtain ⟨⟨i0, j0, a1, a2, a3, a4, a5, a6⟩, ⟨i9, j9, b1, b2, b3, b4, b5, b6⟩⟩ := h.ends
  have hlo : (nextLow y low far = low + 1 ∧ j0 = y.length) ∨ (nextLow y low far = low - 1 ∧ j0 ≠ y.length) := by
    unfold nextLow
    split
    · left; exact ⟨rfl, by omega⟩
    · right; exact ⟨rfl, by omega⟩
  have hhi : (nextHigh x low far = low + 2 * ((far.length : Int) - 1) - 1 ∧ i9 = x.length) ∨ (nextHigh x low far = low + 2 * ((far.length : Int) - 1) + 1 ∧ i9 ≠ x.length) := by
    unfold nextHigh
    split
    · left; exact ⟨rfl, by omega⟩
    · right; exact ⟨rfl, by omega⟩
  -- the diagonal has places
  have hk1 : -(y.length : Int) ≤ k := by
    rcases hlo with ⟨e, _⟩ | ⟨e, hne⟩
    · omega
    · have : low ≠ -(y.length : Int) := fun e' => hne (by omega)
      omega
  have hk2 : k ≤ x.length := by
    rcases hhi with ⟨e, _⟩ | ⟨e, hne⟩
    · omega
    · have : low + 2 * ((far.length : Int) - 1) ≠ x.length := fun e' => hne (by omega)
      omega
  -- one of the neighbours is there
  have hs : ∃ s : Int, s = max (onL low far (k - 1) + 1) (onL low far (k + 1)) := ⟨_, rfl⟩
  obtain ⟨s, hs⟩ := hs
  have hs0 : 0 ≤ s ∧ k ≤ s := by
    rcases hL with ⟨p, q, f1, f2, f3, f4, f5, f6⟩ | ⟨f1, f2⟩
    · omega
    · rcases hR with ⟨p, q, g1, g2, g3, g4, g5, g6⟩ | ⟨g1, g2⟩
      · omega
      · -- neither is: but one of them is in the front
        exfalso
        rcases Int.lt_or_le (k - 1) low with g | g
        · have := h.on_in (k := k + 1) (by omega) (by omega) (by omega)
          obtain ⟨p, q, z1, _⟩ := this
          omega
        · have := h.on_in (k := k - 1) g (by omega) (by omega)
          obtain ⟨p, q, z1, _⟩ := this
          omega
  obtain ⟨i, hi⟩ : ∃ i : Nat, (i : Int) = min (min s x.length) (y.length + k) := ⟨(min (min s x.length) (y.length + k)).toNat, by omega⟩
  obtain ⟨j, hj⟩ : ∃ j : Nat, (i : Int) - j = k := ⟨(i - k).toNat, by omega⟩
  refine ⟨i, j, by unfold from_; rw [← hs]; omega, hj, by omega, by omega, ?_⟩
  -- what is paid there
  have hD : D x y i j ≤ c + 1 := by
    rcases Int.le_total (onL low far (k + 1)) (onL low far (k - 1) + 1) with hm | hm
    · have hs' : s = onL low far (k - 1) + 1 := by omega
      rcases hL with ⟨p, q, f1, f2, f3, f4, f5, f6⟩ | ⟨f1, f2⟩
      · rcases Nat.lt_or_ge p x.length with g | g
        · have hip : i = p + 1 := by omega
          have hjq : j = q := by omega
          subst hip hjq
          have := D_up (x := x) (y := y) j g
          omega
        · have hip : i = p := by omega
          obtain ⟨q', rfl⟩ : ∃ q', q = q' + 1 := ⟨q - 1, by omega⟩
          have hjq : j = q' := by omega
          subst hip hjq
          have := D_dn' (x := x) (y := y) (j := j) i (by omega)
          omega
      · rcases hR with ⟨p, q, g1, g2, g3, g4, g5, g6⟩ | ⟨g1, g2⟩
        · have hp0 : p = 0 := by omega
          have hjq : j = q + 1 ∨ i < p := by omega
          rcases hjq with e | e
          · have hip : i = p := by omega
            subst e hip
            have := D_up' (x := x) (y := y) (j := q) i (by omega)
            omega
          · omega
        · exfalso
          rcases Int.lt_or_le (k - 1) low with g | g
          · have := h.on_in (k := k + 1) (by omega) (by omega) (by omega)
            obtain ⟨p, q, z1, _⟩ := this
            omega
          · have := h.on_in (k := k - 1) g (by omega) (by omega)
            obtain ⟨p, q, z1, _⟩ := this
            omega
    · have hs' : s = onL low far (k + 1) := by omega
      rcases hR with ⟨p, q, f1, f2, f3, f4, f5, f6⟩ | ⟨f1, f2⟩
      · rcases Nat.lt_or_ge q y.length with g | g
        · have hip : i = p := by omega
          have hjq : j = q + 1 := by omega
          subst hip hjq
          have := D_up' (x := x) (y := y) i g
          omega
        · obtain ⟨p', rfl⟩ : ∃ p', p = p' + 1 := ⟨p - 1, by omega⟩
          have hip : i = p' := by omega
          have hjq : j = q := by omega
          subst hip hjq
          have := D_dn (x := x) (y := y) (i := i) j (by omega)
          omega
      · omega
  rintro i' j' ⟨s1, s2, s3, s4, s5, s6⟩
  refine ⟨i', j', rfl, by omega, s3, s4, by omega, fun p q hp1 hq1 hpq hD' => ?_⟩
  rcases Nat.lt_or_ge i' p with hlt | hge
  · exfalso
    have hx : i' < x.length := by omega
    have hy : j' < y.length := by omega
    have hm := D_mono' (x := x) (y := y) (i := i' + 1) (j := j' + 1) hp1 hq1 (by omega) (by omega)
    rw [D_ne hx hy (s6 hx hy)] at hm
    have hor : D x y i' (j' + 1) ≤ c ∨ D x y (i' + 1) j' ≤ c := by omega
    rcases hor with hc | hc
    · have hle : (i' : Int) ≤ onL low far (k - 1) := by
        rcases hL with ⟨p2, q2, f1, f2, f3, f4, f5, f6⟩ | ⟨f1, f2⟩
        · have := f6 i' (j' + 1) (by omega) (by omega) (by omega) hc
          omega
        · exact absurd hc (f2 i' (j' + 1) (by omega) (by omega) (by omega))
      omega
    · have hle : (i' : Int) + 1 ≤ onL low far (k + 1) := by
        rcases hR with ⟨p2, q2, f1, f2, f3, f4, f5, f6⟩ | ⟨f1, f2⟩
        · have := f6 (i' + 1) j' (by omega) (by omega) (by omega) hc
          omega
        · exact absurd hc (f2 (i' + 1) j' (by omega) (by omega) (by omega))
      omega
  · exact hge

/-- the next front, whole: none of its diagonals has come to the end -/
theorem FrontOk.next (h : FrontOk x y c low far) {far' : List Int} (hlen : nextLow y low far + 2 * ((far'.length : Int) - 1) = nextHigh x low far)
    (hat : ∀ (t : Nat) (f : Int), far'[t]? = some f → IsFar x y (c + 1) (nextLow y low far + 2 * t) f)
    (hne : ∀ (t : Nat) (f : Int), far'[t]? = some f → ¬ (f = x.length ∧ f - (nextLow y low far + 2 * t) = y.length)) : FrontOk x y (c + 1) (nextLow y low far) far' := by
  have hpar := h.par
  have hn := h.ne
  have hlow1 := h.low1
  have hlow2 := h.low2
  have hhigh1 := h.high1
  have hhigh2 := h.high2
  have hle := h.next_le
  obtain ⟨⟨i0, j0, a1, a2, a3, a4, a5, a6⟩, ⟨i9, j9, b1, b2, b3, b4, b5, b6⟩⟩ := h.ends
  have hlo : (nextLow y low far = low + 1 ∧ j0 = y.length) ∨ (nextLow y low far = low - 1 ∧ j0 ≠ y.length) := by
    unfold nextLow
    split
    · left; exact ⟨rfl, by omega⟩
    · right; exact ⟨rfl, by omega⟩
  have hhi : (nextHigh x low far = low + 2 * ((far.length : Int) - 1) - 1 ∧ i9 = x.length) ∨ (nextHigh x low far = low + 2 * ((far.length : Int) - 1) + 1 ∧ i9 ≠ x.length) := by
    unfold nextHigh
    split
    · left; exact ⟨rfl, by omega⟩
    · right; exact ⟨rfl, by omega⟩
  have hlo2 : -(y.length : Int) ≤ nextLow y low far := by
    rcases hlo with ⟨e, _⟩ | ⟨e, hne⟩
    · omega
    · have : low ≠ -(y.length : Int) := fun e' => hne (by omega)
      omega
  have hhi2 : nextHigh x low far ≤ x.length := by
    rcases hhi with ⟨e, _⟩ | ⟨e, hne⟩
    · omega
    · have : low + 2 * ((far.length : Int) - 1) ≠ x.length := fun e' => hne (by omega)
      omega
  have hlo' := h.lo'
  have hhi' := h.hi'
  refine ⟨by omega, by omega, hlo2, by omega, by omega, by omega, hat, hlo', fun k hk => hhi' k (by omega), ?_⟩
  have hg := h.going
  rcases Nat.lt_or_ge (c + 1) (D x y x.length y.length) with g | g
  · exact g
  · exfalso
    have hD : D x y x.length y.length = c + 1 := by omega
    have hp := D_par (x := x) (y := y) (Nat.le_refl x.length) (Nat.le_refl y.length)
    have hl := D_low (x := x) (y := y) (Nat.le_refl x.length) (Nat.le_refl y.length)
    obtain ⟨k, hk⟩ : ∃ k : Int, k = (x.length : Int) - y.length := ⟨_, rfl⟩
    rcases Int.lt_or_le k (nextLow y low far) with g1 | g1
    · obtain ⟨i, hi1, hi2, _⟩ := hlo' k g1 (by omega) (by omega) (by omega)
      omega
    · rcases Int.lt_or_le (nextHigh x low far) k with g2 | g2
      · obtain ⟨j, hj1, hj2, _⟩ := hhi' k g2 (by omega) (by omega) (by omega)
        omega
      · obtain ⟨t, ht⟩ : ∃ t : Nat, k = nextLow y low far + 2 * t := ⟨((k - nextLow y low far) / 2).toNat, by omega⟩
        have htl : t < far'.length := by omega
        have hf := List.getElem?_eq_getElem htl
        obtain ⟨p, q, z1, z2, z3, z4, z5, z6⟩ := hat t _ hf
        have := z6 x.length y.length (Nat.le_refl _) (Nat.le_refl _) (by omega) (by omega)
        exact hne t _ hf ⟨by omega, by omega⟩
end

/-- the first front -/
theorem FrontOk.first {x y : List Int} {i j : Nat} (h : Slid x y 0 0 i j) (hne : ¬ (i = x.length ∧ j = y.length)) : FrontOk x y 0 0 [(i : Int)] := by
  obtain ⟨s1, s2, s3, s4, s5, s6⟩ := h
  have h00 : D x y 0 0 = 0 := D_zero (Nat.zero_le _)
  refine ⟨by simp, by simp, by omega, by simp, by simp, by simp, ?_, ?_, ?_, ?_⟩
  · intro t f hf
    cases t with
    | zero =>
      simp at hf
      subst hf
      refine ⟨i, j, rfl, by omega, s3, s4, by omega, fun p q hp hq hpq hD => ?_⟩
      rcases Nat.lt_or_ge i p with g | g
      · exfalso
        have hx : i < x.length := by omega
        have hy : j < y.length := by omega
        have hm := D_mono' (x := x) (y := y) (i := i + 1) (j := j + 1) hp hq (by omega) (by omega)
        rw [D_ne hx hy (s6 hx hy)] at hm
        omega
      · exact g
    | succ t => simp at hf
  · intro k h1 h2 h3; omega
  · intro k h1 h2 h3; simp at h1; omega
  · rcases Nat.eq_zero_or_pos (D x y x.length y.length) with g | g
    · exfalso
      have hl := D_low (x := x) (y := y) (Nat.le_refl x.length) (Nat.le_refl y.length)
      have hij : i = j := by omega
      rcases Nat.lt_or_ge i x.length with g1 | g1
      · have hy : j < y.length := by omega
        have hm := D_mono' (x := x) (y := y) (i := i + 1) (j := j + 1) (Nat.le_refl x.length) (Nat.le_refl y.length) (by omega) (by omega)
        rw [D_ne g1 hy (s6 g1 hy)] at hm
        omega
      · exact hne ⟨by omega, by omega⟩
    · exact g

end Pm
end Go.Proofs.Ytmonemgjgcfhlaa
