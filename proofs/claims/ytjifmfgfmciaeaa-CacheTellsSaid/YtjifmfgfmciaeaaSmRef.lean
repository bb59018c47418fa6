/-
  collatorref09: cut, More, Sum, Both: sums and the key of two texts.
-/
import Derived.Test.YtjifmfgfmciaeaaSmPlain
import Derived.Test.YtjifmfgfmciaeaaMem
import Derived.IntWalk
import Derived.Laws.BitsAllLaws
namespace Go.Proofs.Ytjifmfgfmciaeaa
open Go.RowKit Sm

theorem step_wrap (h : Nat) (c : UInt8) : IntKind.u64.wrap (IntKind.u64.wrap (IntKind.u64.wrap (31 * (h : Int)) + IntKind.u64.wrap (c.toNat : Int)) + 1) = ((Sm.step h c : Nat) : Int) := by
  rw [IntKind.wrap_u64, IntKind.wrap_u64, IntKind.wrap_u64, IntKind.wrap_u64]
  unfold Sm.step M
  omega
theorem take_snoc (s : ByteArray) (k : Nat) (h : k < s.size) : s.data.toList.take (k + 1) = s.data.toList.take k ++ [s[k]] := by
  rw [List.take_succ_eq_append_getElem (by simpa using h)]; rfl

set_option maxHeartbeats 1000000 in
theorem cut_any (h : Nat) (w : Int) (W : World) (hh : h < M) :
    Calls Try.prog 46 #[.int .u64 h, .int .i64 w] W fun e w' => e = .returned (.int .u64 (low h w : Nat)) ∧ W = w' := by
  by_cases h0 : 64 ≤ w
  · go_enter Try.func46, Try.ntmps46
    go_wp2
    go_ret
    exact ⟨ret_int (by rw [low_all hh h0]), rfl⟩
  · have hb : h ≤ 18446744073709551615 := by unfold M at hh; omega
    have HH := Lib.hid hh
    clear hh
    go_enter Try.func46, Try.ntmps46
    go_wp2
    go_loop [5, 6] (fun p i => ∃ k P : Nat, (k = 0 ∨ (k : Int) ≤ w) ∧ Hid (P = 2 ^ k) ∧ i = .int .i64 k ∧ p = .int .u64 P) (fun _ i => w.toNat - (intOf i).toNat)
    case atStart => exact ⟨0, 1, .inl rfl, Lib.hid rfl, rfl, rfl⟩
    case round =>
      obtain ⟨k, P, hk, HP, rfl, rfl⟩ := hrel
      have hP1 : 1 ≤ P := by rw [HP.out]; exact Nat.pow_pos (by decide)
      have hP2 : P ≤ 9223372036854775808 := by
        rw [HP.out]
        exact (Nat.pow_le_pow_right (by decide) (by omega) : 2 ^ k ≤ 2 ^ 63)
      by_cases hlt : (k : Int) < w
      · have hP3 : P ≤ 4611686018427387904 := by
          rw [HP.out]
          exact (Nat.pow_le_pow_right (by decide) (by omega) : 2 ^ k ≤ 2 ^ 62)
        go_wp2
        go_round
        case rel => exact ⟨k + 1, 2 * P, by omega, Lib.hid (by rw [HP.out, Nat.pow_succ]; omega), by go_num, by go_num⟩
        case measure => simp [intOf]; omega
      · go_wp2
        go_ret
        refine ⟨ret_int ?_, rfl⟩
        unfold low pw
        have : bitsOf w = k := by unfold bitsOf; omega
        rw [this, ← HP.out]
        rfl
set_option maxHeartbeats 1000000 in
theorem moreRef_any (h : Nat) (s : ByteArray) (w : Int) (W : World) (hh : h < M) (hs : s.size ≤ 4096) :
    Calls Try.prog 56 #[.int .u64 h, .string s, .int .i64 w] W fun e w' => e = .returned (.int .u64 (low (run h s.data.toList) w : Nat)) ∧ W = w' := by
  have HH := Lib.hid hh
  clear hh
  go_enter Try.func56, Try.ntmps56
  go_wp2
  go_loop [7, 8] (fun x i => ∃ k H : Nat, k ≤ s.size ∧ Hid (H = run h (s.data.toList.take k)) ∧ i = .int .i64 k ∧ x = .int .u64 H) (fun _ i => s.size - (intOf i).toNat)
  case atStart => exact ⟨0, h, Nat.zero_le _, Lib.hid rfl, rfl, rfl⟩
  case round =>
    obtain ⟨k, H, hk, HP, rfl, rfl⟩ := hrel
    by_cases hlt : k < s.size
    · go_wp2
      go_round
      case rel => exact ⟨k + 1, Sm.step H s[k], by omega, Lib.hid (by rw [take_snoc s k hlt, run_snoc, ← HP.out]), by go_num, by rw [← step_wrap]⟩
      case measure => simp [intOf]; omega
    · have hH : H < M := by rw [HP.out]; exact run_lt HH.out _
      have e : H = run h s.data.toList := by rw [HP.out, List.take_of_length_le (by simp; omega)]
      have E := Lib.hid e
      clear e
      go_wp2_with ((with_reducible refine (cut_any _ _ _ (by assumption)).mono ?_); rintro e w' ⟨rfl, rfl⟩)
      go_ret
      exact ⟨ret_int (by rw [← E.out]), rfl⟩

theorem sumRef_any (s : ByteArray) (w : Int) (W : World) (hs : s.size ≤ 4096) :
    Calls Try.prog 47 #[.string s, .int .i64 w] W fun e w' => e = .returned (.int .u64 (low (run 0 s.data.toList) w : Nat)) ∧ W = w' := by
  go_enter Try.func47, Try.ntmps47
  go_wp2_with ((refine (moreRef_any 0 _ _ _ M_pos hs).mono ?_); rintro e w' ⟨rfl, rfl⟩)
  go_ret
  exact ⟨rfl, rfl⟩
theorem both_wrap (a b : List UInt8) : IntKind.u64.wrap (IntKind.u64.wrap (37 * ((run 0 a : Nat) : Int)) + ((run 0 b : Nat) : Int)) = ((two a b : Nat) : Int) := by
  rw [IntKind.wrap_u64, IntKind.wrap_u64]
  unfold two M
  omega

theorem sumRef64_any (s : ByteArray) (W : World) (hs : s.size ≤ 4096) :
    Calls Try.prog 47 #[.string s, .int .i64 64] W fun e w' => e = .returned (.int .u64 (run 0 s.data.toList : Nat)) ∧ W = w' := by
  refine (sumRef_any s 64 W hs).mono ?_
  rintro e w' ⟨rfl, rfl⟩
  exact ⟨ret_int (by rw [low_all (run_lt M_pos _) (by omega)]), rfl⟩

set_option maxHeartbeats 1000000 in
theorem bothRef_any (a b : ByteArray) (w : Int) (W : World) (ha : a.size ≤ 4096) (hb : b.size ≤ 4096) :
    Calls Try.prog 33 #[.string a, .string b, .int .i64 w] W fun e w' => e = .returned (.agg #[.int .u64 (low (two a.data.toList b.data.toList) w : Nat), .int .i64 ((a.size : Int) + (b.size : Int))]) ∧ Below W.heap.size W w' := by
  go_enter Try.func33, Try.ntmps33
  have e2 := both_wrap a.data.toList b.data.toList
  have ht := two_lt a.data.toList b.data.toList
  go_wp2_with fail
  refine (sumRef64_any _ _ ha).mono ?_
  rintro e w' ⟨rfl, rfl⟩
  go_wp2_with fail
  refine (sumRef64_any _ _ hb).mono ?_
  rintro e w' ⟨rfl, rfl⟩
  go_wp2_with fail
  refine (cut_any _ _ _ ht).mono ?_
  rintro e w' ⟨rfl, rfl⟩
  go_wp2_with fail
  exact bodyPost_ret (v := .agg #[.int .u64 (low (two a.data.toList b.data.toList) w : Nat), .int .i64 ((a.size : Int) + (b.size : Int))]) (by simp [results, Try.results33, go_sem]) rfl ⟨rfl, (Below.refl _ _).alloc (Nat.le_refl _) _⟩

end Go.Proofs.Ytjifmfgfmciaeaa
