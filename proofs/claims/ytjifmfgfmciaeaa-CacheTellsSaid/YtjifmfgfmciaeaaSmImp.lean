/-
  Package sums: lowest, More, Sum, whole, Both: sums and the key of two texts.
-/
import Derived.Test.YtjifmfgfmciaeaaSmRef
import Derived.Test.YtjifmfgfmciaeaaMem
import Derived.IntWalk
import Derived.Laws.BitsAllLaws
namespace Go.Proofs.Ytjifmfgfmciaeaa
open Go.RowKit Sm

theorem mask_is (k : Nat) (hk : k ≤ 64) : IntKind.u64.wrap (IntKind.u64.wrap (2 ^ k) - 1) = ((2 ^ k - 1 : Nat) : Int) := by
  have hp : 0 < 2 ^ k := Nat.pow_pos (by decide)
  have e : ((2 : Int) ^ k) = ((2 ^ k : Nat) : Int) := by simp
  rw [e]
  by_cases h : k = 64
  · subst h; decide
  · have h2 : 2 ^ k ≤ 2 ^ 63 := Nat.pow_le_pow_right (by decide) (by omega)
    rw [IntKind.wrap_u64, IntKind.wrap_u64]
    generalize 2 ^ k = p at *
    omega
theorem mask_and (h k : Nat) (hh : h < M) (hk : k ≤ 64) : bits .and .u64 (h : Int) (IntKind.u64.wrap (IntKind.u64.wrap (2 ^ k) - 1)) = ((h % 2 ^ k : Nat) : Int) := by
  have hp : 0 < 2 ^ k := Nat.pow_pos (by decide)
  have h2 : 2 ^ k ≤ 2 ^ 64 := Nat.pow_le_pow_right (by decide) hk
  rw [mask_is k hk, u64_and_nat h _ hh (by omega), Nat.and_two_pow_sub_one_eq_mod]

set_option maxHeartbeats 1000000 in
theorem lowest_any (h : Nat) (w : Int) (W : World) (hh : h < M) :
    Calls Try.prog 52 #[.int .u64 h, .int .i64 w] W fun e w' => e = .returned (.int .u64 (low h w : Nat)) ∧ W = w' := by
  by_cases h0 : w < 0
  · go_enter Try.func52, Try.ntmps52
    go_wp2
    go_ret
    have := mask_and h 0 hh (by omega)
    rw [show IntKind.u64.wrap (IntKind.u64.wrap (2 ^ 0) - 1) = 0 by decide, Nat.pow_zero, Nat.mod_one] at this
    exact ⟨ret_int (by rw [low_none h (by omega)]; exact this), rfl⟩
  · by_cases h1 : 64 < w
    · go_enter Try.func52, Try.ntmps52
      go_wp2
      go_ret
      have := mask_and h 64 hh (by omega)
      exact ⟨ret_int (by unfold low pw; rw [bitsOf_high (by omega)]; exact this), rfl⟩
    · go_enter Try.func52, Try.ntmps52
      go_wp2
      go_ret
      have := mask_and h w.toNat hh (by omega)
      exact ⟨ret_int (by unfold low pw; rw [bitsOf_mid (by omega) (by omega)]; exact this), rfl⟩

set_option maxHeartbeats 1000000 in
theorem more_any (h : Nat) (s : ByteArray) (w : Int) (W : World) (hh : h < M) (hs : s.size ≤ 4096) :
    Calls Try.prog 60 #[.int .u64 h, .string s, .int .i64 w] W fun e w' => e = .returned (.int .u64 (low (run h s.data.toList) w : Nat)) ∧ W = w' := by
  have HH := Lib.hid hh
  clear hh
  go_enter Try.func60, Try.ntmps60
  go_wp2
  go_loop [0, 10] (fun x i => ∃ k H : Nat, k ≤ s.size ∧ Hid (H = run h (s.data.toList.take k)) ∧ i = .int .i64 k ∧ x = .int .u64 H) (fun _ i => s.size - (intOf i).toNat)
  case atStart => exact ⟨0, h, Nat.zero_le _, Lib.hid rfl, rfl, rfl⟩
  case round =>
    obtain ⟨k, H, hk, HP, rfl, rfl⟩ := hrel
    by_cases hlt : k < s.size
    · go_wp2
      go_round
      case rel => exact ⟨k + 1, Sm.step H s[k], by omega, Lib.hid (by rw [take_snoc s k hlt, run_snoc, ← HP.out]), by go_num, by rw [← step_wrap]⟩
      case measure => simp [intOf]; omega
    · have hH : H < M := by rw [HP.out]; exact run_lt HH.out _
      have e : H = run h s.data.toList := by rw [HP.out, List.take_of_length_le (by simp; omega)]
      have E := Lib.hid e
      clear e
      go_wp2_with ((with_reducible refine (lowest_any _ _ _ (by assumption)).mono ?_); rintro e w' ⟨rfl, rfl⟩)
      go_ret
      exact ⟨ret_int (by rw [← E.out]), rfl⟩

theorem sum_any (s : ByteArray) (w : Int) (W : World) (hs : s.size ≤ 4096) :
    Calls Try.prog 59 #[.string s, .int .i64 w] W fun e w' => e = .returned (.int .u64 (low (run 0 s.data.toList) w : Nat)) ∧ W = w' := by
  go_enter Try.func59, Try.ntmps59
  go_wp2_with ((refine (more_any 0 _ _ _ M_pos hs).mono ?_); rintro e w' ⟨rfl, rfl⟩)
  go_ret
  exact ⟨rfl, rfl⟩
theorem whole_any (s : ByteArray) (W : World) (hs : s.size ≤ 4096) :
    Calls Try.prog 51 #[.string s] W fun e w' => e = .returned (.int .u64 (run 0 s.data.toList : Nat)) ∧ W = w' := by
  go_enter Try.func51, Try.ntmps51
  go_wp2_with ((refine (sum_any _ _ _ hs).mono ?_); rintro e w' ⟨rfl, rfl⟩)
  go_ret
  exact ⟨ret_int (by rw [low_all (run_lt M_pos _) (by omega)]), rfl⟩
set_option maxHeartbeats 1000000 in
theorem both_any (a b : ByteArray) (w : Int) (W : World) (ha : a.size ≤ 4096) (hb : b.size ≤ 4096) :
    Calls Try.prog 39 #[.string a, .string b, .int .i64 w] W fun e w' => e = .returned (.agg #[.int .u64 (low (two a.data.toList b.data.toList) w : Nat), .int .i64 ((a.size : Int) + (b.size : Int))]) ∧ Below W.heap.size W w' := by
  go_enter Try.func39, Try.ntmps39
  have e2 := both_wrap a.data.toList b.data.toList
  have ht := two_lt a.data.toList b.data.toList
  go_wp2_with fail
  refine (whole_any _ _ ha).mono ?_
  rintro e w' ⟨rfl, rfl⟩
  go_wp2_with fail
  refine (whole_any _ _ hb).mono ?_
  rintro e w' ⟨rfl, rfl⟩
  go_wp2_with fail
  refine (lowest_any _ _ _ ht).mono ?_
  rintro e w' ⟨rfl, rfl⟩
  go_wp2_with fail
  exact bodyPost_ret (v := .agg #[.int .u64 (low (two a.data.toList b.data.toList) w : Nat), .int .i64 ((a.size : Int) + (b.size : Int))]) (by simp [results, Try.results39, go_sem]) rfl ⟨rfl, (Below.refl _ _).alloc (Nat.le_refl _) _⟩


end Go.Proofs.Ytjifmfgfmciaeaa
