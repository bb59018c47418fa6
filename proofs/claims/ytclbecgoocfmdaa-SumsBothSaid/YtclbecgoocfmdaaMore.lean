/-
  sums.More, collatorref09.More: the sum that a number becomes by a text; Sum, whole.
-/
import Derived.Test.YtclbecgoocfmdaaLow
namespace Go.Proofs.Ytclbecgoocfmdaa
open Go.RowKit Sm

theorem step_wrap (h : Nat) (c : UInt8) : IntKind.u64.wrap (IntKind.u64.wrap (IntKind.u64.wrap (31 * (h : Int)) + IntKind.u64.wrap (c.toNat : Int)) + 1) = ((Sm.step h c : Nat) : Int) := by
  rw [IntKind.wrap_u64, IntKind.wrap_u64, IntKind.wrap_u64, IntKind.wrap_u64]
  unfold Sm.step M
  omega
theorem take_snoc (s : ByteArray) (k : Nat) (h : k < s.size) : s.data.toList.take (k + 1) = s.data.toList.take k ++ [s[k]] := by
  rw [List.take_succ_eq_append_getElem (by simpa using h)]; rfl

set_option maxHeartbeats 1000000 in
theorem more_any (h : Nat) (s : ByteArray) (w : Int) (W : World) (hh : h < M) (hs : s.size ≤ 4096) :
    Calls Try.prog 12 #[.int .u64 h, .string s, .int .i64 w] W fun e w' => e = .returned (.int .u64 (low (run h s.data.toList) w : Nat)) ∧ W = w' := by
  have HH := Lib.hid hh
  clear hh
  go_enter Try.func12, Try.ntmps12
  go_wp2
  go_loop [0, 10] (fun x i => ∃ k H : Nat, k ≤ s.size ∧ Hid (H = run h (s.data.toList.take k)) ∧ i = .int .i64 k ∧ x = .int .u64 H) (fun _ i => s.size - (intOf i).toNat)
  case atStart => exact ⟨0, h, Nat.zero_le _, Lib.hid rfl, rfl, rfl⟩
  case round =>
    obtain ⟨k, H, hk, HP, rfl, rfl⟩ := hrel
    by_cases hlt : k < s.size
    · go_wp2
      go_round
      case rel => exact ⟨k + 1, Sm.step H s[k], by omega, Lib.hid (by rw [take_snoc s k hlt, run_snoc, ← HP.out]), by go_num, by rw [← step_wrap]⟩
      case measure => simp [intOf]; omega
    · have hH : H < M := by rw [HP.out]; exact run_lt HH.out _
      have e : H = run h s.data.toList := by rw [HP.out, List.take_of_length_le (by simp; omega)]
      have E := Lib.hid e
      clear e
      go_wp2_with ((with_reducible refine (lowest_any _ _ _ (by assumption)).mono ?_); rintro e w' ⟨rfl, rfl⟩)
      go_ret
      exact ⟨ret_int (by rw [← E.out]), rfl⟩

set_option maxHeartbeats 1000000 in
theorem moreRef_any (h : Nat) (s : ByteArray) (w : Int) (W : World) (hh : h < M) (hs : s.size ≤ 4096) :
    Calls Try.prog 13 #[.int .u64 h, .string s, .int .i64 w] W fun e w' => e = .returned (.int .u64 (low (run h s.data.toList) w : Nat)) ∧ W = w' := by
  have HH := Lib.hid hh
  clear hh
  go_enter Try.func13, Try.ntmps13
  go_wp2
  go_loop [7, 8] (fun x i => ∃ k H : Nat, k ≤ s.size ∧ Hid (H = run h (s.data.toList.take k)) ∧ i = .int .i64 k ∧ x = .int .u64 H) (fun _ i => s.size - (intOf i).toNat)
  case atStart => exact ⟨0, h, Nat.zero_le _, Lib.hid rfl, rfl, rfl⟩
  case round =>
    obtain ⟨k, H, hk, HP, rfl, rfl⟩ := hrel
    by_cases hlt : k < s.size
    · go_wp2
      go_round
      case rel => exact ⟨k + 1, Sm.step H s[k], by omega, Lib.hid (by rw [take_snoc s k hlt, run_snoc, ← HP.out]), by go_num, by rw [← step_wrap]⟩
      case measure => simp [intOf]; omega
    · have hH : H < M := by rw [HP.out]; exact run_lt HH.out _
      have e : H = run h s.data.toList := by rw [HP.out, List.take_of_length_le (by simp; omega)]
      have E := Lib.hid e
      clear e
      go_wp2_with ((with_reducible refine (cut_any _ _ _ (by assumption)).mono ?_); rintro e w' ⟨rfl, rfl⟩)
      go_ret
      exact ⟨ret_int (by rw [← E.out]), rfl⟩

theorem sum_any (s : ByteArray) (w : Int) (W : World) (hs : s.size ≤ 4096) :
    Calls Try.prog 10 #[.string s, .int .i64 w] W fun e w' => e = .returned (.int .u64 (low (run 0 s.data.toList) w : Nat)) ∧ W = w' := by
  go_enter Try.func10, Try.ntmps10
  go_wp2_with ((refine (more_any 0 _ _ _ M_pos hs).mono ?_); rintro e w' ⟨rfl, rfl⟩)
  go_ret
  exact ⟨rfl, rfl⟩
theorem sumRef_any (s : ByteArray) (w : Int) (W : World) (hs : s.size ≤ 4096) :
    Calls Try.prog 11 #[.string s, .int .i64 w] W fun e w' => e = .returned (.int .u64 (low (run 0 s.data.toList) w : Nat)) ∧ W = w' := by
  go_enter Try.func11, Try.ntmps11
  go_wp2_with ((refine (moreRef_any 0 _ _ _ M_pos hs).mono ?_); rintro e w' ⟨rfl, rfl⟩)
  go_ret
  exact ⟨rfl, rfl⟩
theorem whole_any (s : ByteArray) (W : World) (hs : s.size ≤ 4096) :
    Calls Try.prog 20 #[.string s] W fun e w' => e = .returned (.int .u64 (run 0 s.data.toList : Nat)) ∧ W = w' := by
  go_enter Try.func20, Try.ntmps20
  go_wp2_with ((refine (sum_any _ _ _ hs).mono ?_); rintro e w' ⟨rfl, rfl⟩)
  go_ret
  exact ⟨ret_int (by rw [low_all (run_lt M_pos _) (by omega)]), rfl⟩
end Go.Proofs.Ytclbecgoocfmdaa
