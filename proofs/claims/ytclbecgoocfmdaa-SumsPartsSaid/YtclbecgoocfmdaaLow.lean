/-
  sums.lowest, collatorref09.cut: a number modulo 2^width.
-/
import Derived.Test.YtclbecgoocfmdaaPlain
import Derived.Test.YtclbecgoocfmdaaRows
import Derived.WalkKit
import Derived.Lib.Hide
import Derived.Lib.Strings
import Derived.Below
import Derived.IntWalk
import Derived.Laws.BitsAllLaws
import Derived.Deep.QuietTactic
import Derived.BigQuiet
namespace Go.Proofs.Ytclbecgoocfmdaa
open Go.RowKit Sm

def intOf : Value → Int | .int _ q => q | _ => 0
theorem ret_bool {a b : Bool} (h : a = b) : Ending.returned (.bool a) = .returned (.bool b) := by rw [h]
theorem ret_int {k : IntKind} {a b : Int} (h : a = b) : Ending.returned (.int k a) = .returned (.int k b) := by rw [h]

theorem mask_is (k : Nat) (hk : k ≤ 64) : IntKind.u64.wrap (IntKind.u64.wrap (2 ^ k) - 1) = ((2 ^ k - 1 : Nat) : Int) := by
  have hp : 0 < 2 ^ k := Nat.pow_pos (by decide)
  have e : ((2 : Int) ^ k) = ((2 ^ k : Nat) : Int) := by simp
  rw [e]
  by_cases h : k = 64
  · subst h; decide
  · have h2 : 2 ^ k ≤ 2 ^ 63 := Nat.pow_le_pow_right (by decide) (by omega)
    rw [IntKind.wrap_u64, IntKind.wrap_u64]
    generalize 2 ^ k = p at *
    omega
theorem mask_and (h k : Nat) (hh : h < M) (hk : k ≤ 64) : bits .and .u64 (h : Int) (IntKind.u64.wrap (IntKind.u64.wrap (2 ^ k) - 1)) = ((h % 2 ^ k : Nat) : Int) := by
  have hp : 0 < 2 ^ k := Nat.pow_pos (by decide)
  have h2 : 2 ^ k ≤ 2 ^ 64 := Nat.pow_le_pow_right (by decide) hk
  rw [mask_is k hk, u64_and_nat h _ hh (by omega), Nat.and_two_pow_sub_one_eq_mod]

set_option maxHeartbeats 1000000 in
theorem lowest_any (h : Nat) (w : Int) (W : World) (hh : h < M) :
    Calls Try.prog 18 #[.int .u64 h, .int .i64 w] W fun e w' => e = .returned (.int .u64 (low h w : Nat)) ∧ W = w' := by
  by_cases h0 : w < 0
  · go_enter Try.func18, Try.ntmps18
    go_wp2
    go_ret
    have := mask_and h 0 hh (by omega)
    rw [show IntKind.u64.wrap (IntKind.u64.wrap (2 ^ 0) - 1) = 0 by decide, Nat.pow_zero, Nat.mod_one] at this
    exact ⟨ret_int (by rw [low_none h (by omega)]; exact this), rfl⟩
  · by_cases h1 : 64 < w
    · go_enter Try.func18, Try.ntmps18
      go_wp2
      go_ret
      have := mask_and h 64 hh (by omega)
      exact ⟨ret_int (by unfold low pw; rw [bitsOf_high (by omega)]; exact this), rfl⟩
    · go_enter Try.func18, Try.ntmps18
      go_wp2
      go_ret
      have := mask_and h w.toNat hh (by omega)
      exact ⟨ret_int (by unfold low pw; rw [bitsOf_mid (by omega) (by omega)]; exact this), rfl⟩

set_option maxHeartbeats 1000000 in
theorem cut_any (h : Nat) (w : Int) (W : World) (hh : h < M) :
    Calls Try.prog 19 #[.int .u64 h, .int .i64 w] W fun e w' => e = .returned (.int .u64 (low h w : Nat)) ∧ W = w' := by
  by_cases h0 : 64 ≤ w
  · go_enter Try.func19, Try.ntmps19
    go_wp2
    go_ret
    exact ⟨ret_int (by rw [low_all hh h0]), rfl⟩
  · have hb : h ≤ 18446744073709551615 := by unfold M at hh; omega
    have HH := Lib.hid hh
    clear hh
    go_enter Try.func19, Try.ntmps19
    go_wp2
    go_loop [5, 6] (fun p i => ∃ k P : Nat, (k = 0 ∨ (k : Int) ≤ w) ∧ Hid (P = 2 ^ k) ∧ i = .int .i64 k ∧ p = .int .u64 P) (fun _ i => w.toNat - (intOf i).toNat)
    case atStart => exact ⟨0, 1, .inl rfl, Lib.hid rfl, rfl, rfl⟩
    case round =>
      obtain ⟨k, P, hk, HP, rfl, rfl⟩ := hrel
      have hP1 : 1 ≤ P := by rw [HP.out]; exact Nat.pow_pos (by decide)
      have hP2 : P ≤ 9223372036854775808 := by
        rw [HP.out]
        exact (Nat.pow_le_pow_right (by decide) (by omega) : 2 ^ k ≤ 2 ^ 63)
      by_cases hlt : (k : Int) < w
      · have hP3 : P ≤ 4611686018427387904 := by
          rw [HP.out]
          exact (Nat.pow_le_pow_right (by decide) (by omega) : 2 ^ k ≤ 2 ^ 62)
        go_wp2
        go_round
        case rel => exact ⟨k + 1, 2 * P, by omega, Lib.hid (by rw [HP.out, Nat.pow_succ]; omega), by go_num, by go_num⟩
        case measure => simp [intOf]; omega
      · go_wp2
        go_ret
        refine ⟨ret_int ?_, rfl⟩
        unfold low pw
        have : bitsOf w = k := by unfold bitsOf; omega
        rw [this, ← HP.out]
        rfl
end Go.Proofs.Ytclbecgoocfmdaa
