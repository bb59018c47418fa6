/-
  Plain mathematics of chapter 9: the sum of a text's bytes modulo 2^64, and of fewer bits; nothing of the program.
-/
namespace Go.Proofs.Ytjifmfgfmciaeaa
namespace Sm

/-- 2^64 -/
def M : Nat := 18446744073709551616
theorem M_eq : M = 2 ^ 64 := by decide
theorem M_pos : 0 < M := by decide
/-- one byte more -/
def step (h : Nat) (c : UInt8) : Nat := (31 * h + c.toNat + 1) % M
def run (h : Nat) (l : List UInt8) : Nat := l.foldl step h
/-- how many bits a width stands for -/
def bitsOf (w : Int) : Nat := (min (max w 0) 64).toNat
def pw (w : Int) : Nat := 2 ^ bitsOf w
def low (h : Nat) (w : Int) : Nat := h % pw w
/-- of two texts: 37 times the first one's, and the second one's -/
def two (a b : List UInt8) : Nat := (37 * run 0 a + run 0 b) % M

theorem step_lt (h : Nat) (c : UInt8) : step h c < M := Nat.mod_lt _ M_pos
theorem run_lt {h : Nat} (hh : h < M) : ∀ l, run h l < M
  | [] => hh
  | c :: l => run_lt (step_lt h c) l
theorem run_append (h : Nat) (a b : List UInt8) : run h (a ++ b) = run (run h a) b := by unfold run; exact List.foldl_append
theorem run_snoc (h : Nat) (a : List UInt8) (c : UInt8) : run h (a ++ [c]) = step (run h a) c := by rw [run_append]; rfl
theorem two_lt (a b : List UInt8) : two a b < M := Nat.mod_lt _ M_pos

theorem bitsOf_le (w : Int) : bitsOf w ≤ 64 := by unfold bitsOf; omega
theorem bitsOf_mid {w : Int} (h0 : 0 ≤ w) (h1 : w ≤ 64) : bitsOf w = w.toNat := by unfold bitsOf; omega
theorem bitsOf_low {w : Int} (h0 : w ≤ 0) : bitsOf w = 0 := by unfold bitsOf; omega
theorem bitsOf_high {w : Int} (h0 : 64 ≤ w) : bitsOf w = 64 := by unfold bitsOf; omega
theorem pw_pos (w : Int) : 0 < pw w := Nat.pow_pos (by decide)
theorem pw_dvd (w : Int) : pw w ∣ M := by rw [M_eq]; exact Nat.pow_dvd_pow 2 (bitsOf_le w)
theorem pw_le (w : Int) : pw w ≤ M := Nat.le_of_dvd M_pos (pw_dvd w)
theorem pw_dvd_of {v w : Int} (h : v ≤ w) : pw v ∣ pw w := Nat.pow_dvd_pow 2 (by unfold bitsOf; omega)
theorem low_lt (h : Nat) (w : Int) : low h w < M := Nat.lt_of_lt_of_le (Nat.mod_lt _ (pw_pos w)) (pw_le w)
theorem low_all {h : Nat} (hh : h < M) {w : Int} (hw : 64 ≤ w) : low h w = h := by
  unfold low pw
  rw [bitsOf_high hw, ← M_eq]
  exact Nat.mod_eq_of_lt hh
theorem low_none (h : Nat) {w : Int} (hw : w ≤ 0) : low h w = 0 := by
  unfold low pw
  rw [bitsOf_low hw]
  exact Nat.mod_one h
theorem low_low (h : Nat) {v w : Int} (hv : v ≤ w) : low (low h w) v = low h v := Nat.mod_mod_of_dvd h (pw_dvd_of hv)
theorem low_mod (h : Nat) {v w : Int} (hv : v ≤ w) (h0 : 0 ≤ v) (h1 : v ≤ 64) : low h w % 2 ^ v.toNat = low h v := by
  have := low_low h hv
  unfold low pw at this
  unfold low pw
  rw [bitsOf_mid h0 h1] at *
  exact this

/-! what is the same modulo P, P a part of 2^64 -/
def Cg (P a b : Nat) : Prop := (P : Int) ∣ (a : Int) - b
theorem Cg.iff {P a b : Nat} : Cg P a b ↔ a % P = b % P := by
  unfold Cg
  have h1 : ((a : Int) % P = b % P) ↔ (P : Int) ∣ (a : Int) - b := by
    rw [Int.emod_eq_emod_iff_emod_sub_eq_zero]
    exact ⟨Int.dvd_of_emod_eq_zero, Int.emod_eq_zero_of_dvd⟩
  rw [← h1]
  omega
theorem Cg.trans {P a b c : Nat} (h : Cg P a b) (g : Cg P b c) : Cg P a c := by
  unfold Cg at *
  have := Int.dvd_add h g
  rwa [show (a : Int) - b + (b - c) = a - c by omega] at this
theorem Cg.symm {P a b : Nat} (h : Cg P a b) : Cg P b a := Cg.iff.2 (Cg.iff.1 h).symm
theorem Cg.mod {P a : Nat} (hP : P ∣ M) : Cg P (a % M) a := Cg.iff.2 (Nat.mod_mod_of_dvd a hP)
/-- a number that has an inverse modulo 2^64 may be taken away -/
theorem Cg.cancel {P : Nat} (hP : P ∣ M) {k I q : Int} (hk : I * k = q * (M : Int) + 1) {d : Int} (h : (P : Int) ∣ k * d) : (P : Int) ∣ d := by
  have h1 : (P : Int) ∣ I * (k * d) := Int.dvd_mul_of_dvd_right h
  have h2 : (P : Int) ∣ (M : Int) := by exact_mod_cast hP
  have h3 : (P : Int) ∣ q * (M : Int) * d := Int.dvd_mul_of_dvd_left (Int.dvd_mul_of_dvd_right h2)
  have h4 := Int.dvd_sub h1 h3
  rwa [← Int.mul_assoc, hk, Int.add_mul, Int.one_mul, (fun x y => by omega : ∀ x y : Int, x + y - x = y)] at h4
theorem inv31 : (17256631552825064415 : Int) * 31 = 29 * (M : Int) + 1 := by decide
theorem inv37 : (1495681951922396077 : Int) * 37 = 3 * (M : Int) + 1 := by decide

theorem step_cg {P : Nat} (hP : P ∣ M) {h g : Nat} (c : UInt8) : Cg P (step h c) (step g c) ↔ Cg P h g := by
  have e : Cg P (step h c) (step g c) ↔ (P : Int) ∣ 31 * ((h : Int) - g) := by
    constructor
    · intro k
      have := ((Cg.mod hP).symm.trans k).trans (Cg.mod hP (a := 31 * g + c.toNat + 1))
      unfold Cg at this
      rwa [show ((31 * h + c.toNat + 1 : Nat) : Int) - (31 * g + c.toNat + 1 : Nat) = 31 * ((h : Int) - g) by omega] at this
    · intro k
      refine ((Cg.mod hP).trans ?_).trans (Cg.mod hP (a := 31 * g + c.toNat + 1)).symm
      unfold Cg
      rwa [show ((31 * h + c.toNat + 1 : Nat) : Int) - (31 * g + c.toNat + 1 : Nat) = 31 * ((h : Int) - g) by omega]
  rw [e]
  exact ⟨Cg.cancel hP inv31, Int.dvd_mul_of_dvd_right⟩
theorem run_cg {P : Nat} (hP : P ∣ M) : ∀ (l : List UInt8) {h g : Nat}, Cg P (run h l) (run g l) ↔ Cg P h g
  | [], _, _ => Iff.rfl
  | c :: l, _, _ => (run_cg hP l).trans (step_cg hP c)
theorem step_byte {P : Nat} (hP : P ∣ M) (h8 : 256 ∣ P) (h : Nat) (c d : UInt8) : Cg P (step h c) (step h d) ↔ c = d := by
  constructor
  · intro k
    have h1 := ((Cg.mod hP).symm.trans k).trans (Cg.mod hP (a := 31 * h + d.toNat + 1))
    unfold Cg at h1
    have h2 : ((256 : Nat) : Int) ∣ (P : Int) := by exact_mod_cast h8
    have h3 := Int.dvd_trans h2 h1
    have a := c.toNat_lt
    have b := d.toNat_lt
    apply UInt8.toNat_inj.1
    omega
  · rintro rfl
    exact Cg.iff.2 rfl

theorem low_eq {h g : Nat} (w : Int) : low h w = low g w ↔ Cg (pw w) h g := Cg.iff.symm
/-- in two parts as in one -/
theorem low_run_low (h : Nat) (y : List UInt8) (w v : Int) (hv : w ≤ v) : low (run (low h v) y) w = low (run h y) w :=
  (low_eq w).2 ((run_cg (pw_dvd w) y).2 (Cg.iff.2 (low_low h hv)))
theorem low_run_inj {h g : Nat} (hh : h < M) (hg : g < M) (x : List UInt8) : low (run h x) 64 = low (run g x) 64 ↔ h = g := by
  rw [low_eq, run_cg (pw_dvd 64), Cg.iff]
  have e : pw 64 = M := by decide
  rw [e, Nat.mod_eq_of_lt hh, Nat.mod_eq_of_lt hg]
theorem pw8 {w : Int} (h : 8 ≤ w) : 256 ∣ pw w := Nat.pow_dvd_pow 2 (m := 8) (by unfold bitsOf; omega)
/-- unlike in one byte alone -/
theorem low_one (h : Nat) (a b : List UInt8) (c d : UInt8) {w : Int} (hw : 8 ≤ w) : low (run h (a ++ c :: b)) w = low (run h (a ++ d :: b)) w ↔ c = d := by
  rw [low_eq, run_append, run_append]
  exact ((run_cg (pw_dvd w) b).trans (step_byte (pw_dvd w) (pw8 hw) _ c d))
theorem low_two_first {a a' : List UInt8} (b : List UInt8) (w : Int) : low (two a b) w = low (two a' b) w ↔ low (run 0 a) w = low (run 0 a') w := by
  rw [low_eq, low_eq]
  have e : Cg (pw w) (two a b) (two a' b) ↔ ((pw w : Nat) : Int) ∣ 37 * ((run 0 a : Int) - run 0 a') := by
    constructor
    · intro k
      have := ((Cg.mod (pw_dvd w)).symm.trans k).trans (Cg.mod (pw_dvd w) (a := 37 * run 0 a' + run 0 b))
      unfold Cg at this
      rwa [show ((37 * run 0 a + run 0 b : Nat) : Int) - (37 * run 0 a' + run 0 b : Nat) = 37 * ((run 0 a : Int) - run 0 a') by omega] at this
    · intro k
      refine ((Cg.mod (pw_dvd w)).trans ?_).trans (Cg.mod (pw_dvd w) (a := 37 * run 0 a' + run 0 b)).symm
      unfold Cg
      rwa [show ((37 * run 0 a + run 0 b : Nat) : Int) - (37 * run 0 a' + run 0 b : Nat) = 37 * ((run 0 a : Int) - run 0 a') by omega]
  rw [e]
  exact ⟨Cg.cancel (pw_dvd w) inv37, Int.dvd_mul_of_dvd_right⟩
theorem low_cut (h : Nat) (w : Int) : low (h % M) w = low h w := Nat.mod_mod_of_dvd h (pw_dvd w)

end Sm
end Go.Proofs.Ytjifmfgfmciaeaa
