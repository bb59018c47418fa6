/-
  sums.Of, sums.Both, collatorref09.Of, collatorref09.Both: keys.
-/
import Derived.Test.YtclbecgoocfmdaaMore
namespace Go.Proofs.Ytclbecgoocfmdaa
open Go.RowKit Sm

theorem both_wrap (a b : List UInt8) : IntKind.u64.wrap (IntKind.u64.wrap (37 * ((run 0 a : Nat) : Int)) + ((run 0 b : Nat) : Int)) = ((two a b : Nat) : Int) := by
  rw [IntKind.wrap_u64, IntKind.wrap_u64]
  unfold two M
  omega

theorem sumRef64_any (s : ByteArray) (W : World) (hs : s.size ≤ 4096) :
    Calls Try.prog 11 #[.string s, .int .i64 64] W fun e w' => e = .returned (.int .u64 (run 0 s.data.toList : Nat)) ∧ W = w' := by
  refine (sumRef_any s 64 W hs).mono ?_
  rintro e w' ⟨rfl, rfl⟩
  exact ⟨ret_int (by rw [low_all (run_lt M_pos _) (by omega)]), rfl⟩

set_option maxHeartbeats 1000000 in
theorem of_any (s : ByteArray) (w : Int) (W : World) (hs : s.size ≤ 4096) :
    Calls Try.prog 14 #[.string s, .int .i64 w] W fun e w' => e = .returned (.agg #[.int .u64 (low (run 0 s.data.toList) w : Nat), .int .i64 s.size]) ∧ Below W.heap.size W w' := by
  go_enter Try.func14, Try.ntmps14
  go_wp2_with ((refine (sum_any _ _ _ hs).mono ?_); rintro e w' ⟨rfl, rfl⟩)
  exact bodyPost_ret (v := .agg #[.int .u64 (low (run 0 s.data.toList) w : Nat), .int .i64 s.size]) (by simp [results, Try.results14, go_sem]) rfl ⟨rfl, (Below.refl _ _).alloc (Nat.le_refl _) _⟩

set_option maxHeartbeats 1000000 in
theorem ofRef_any (s : ByteArray) (w : Int) (W : World) (hs : s.size ≤ 4096) :
    Calls Try.prog 15 #[.string s, .int .i64 w] W fun e w' => e = .returned (.agg #[.int .u64 (low (run 0 s.data.toList) w : Nat), .int .i64 s.size]) ∧ Below W.heap.size W w' := by
  go_enter Try.func15, Try.ntmps15
  go_wp2_with ((refine (sumRef_any _ _ _ hs).mono ?_); rintro e w' ⟨rfl, rfl⟩)
  exact bodyPost_ret (v := .agg #[.int .u64 (low (run 0 s.data.toList) w : Nat), .int .i64 s.size]) (by simp [results, Try.results15, go_sem]) rfl ⟨rfl, (Below.refl _ _).alloc (Nat.le_refl _) _⟩

set_option maxHeartbeats 1000000 in
theorem both_any (a b : ByteArray) (w : Int) (W : World) (ha : a.size ≤ 4096) (hb : b.size ≤ 4096) :
    Calls Try.prog 16 #[.string a, .string b, .int .i64 w] W fun e w' => e = .returned (.agg #[.int .u64 (low (two a.data.toList b.data.toList) w : Nat), .int .i64 ((a.size : Int) + (b.size : Int))]) ∧ Below W.heap.size W w' := by
  go_enter Try.func16, Try.ntmps16
  have e2 := both_wrap a.data.toList b.data.toList
  have ht := two_lt a.data.toList b.data.toList
  go_wp2_with fail
  refine (whole_any _ _ ha).mono ?_
  rintro e w' ⟨rfl, rfl⟩
  go_wp2_with fail
  refine (whole_any _ _ hb).mono ?_
  rintro e w' ⟨rfl, rfl⟩
  go_wp2_with fail
  refine (lowest_any _ _ _ ht).mono ?_
  rintro e w' ⟨rfl, rfl⟩
  go_wp2_with fail
  exact bodyPost_ret (v := .agg #[.int .u64 (low (two a.data.toList b.data.toList) w : Nat), .int .i64 ((a.size : Int) + (b.size : Int))]) (by simp [results, Try.results16, go_sem]) rfl ⟨rfl, (Below.refl _ _).alloc (Nat.le_refl _) _⟩

set_option maxHeartbeats 1000000 in
theorem bothRef_any (a b : ByteArray) (w : Int) (W : World) (ha : a.size ≤ 4096) (hb : b.size ≤ 4096) :
    Calls Try.prog 17 #[.string a, .string b, .int .i64 w] W fun e w' => e = .returned (.agg #[.int .u64 (low (two a.data.toList b.data.toList) w : Nat), .int .i64 ((a.size : Int) + (b.size : Int))]) ∧ Below W.heap.size W w' := by
  go_enter Try.func17, Try.ntmps17
  have e2 := both_wrap a.data.toList b.data.toList
  have ht := two_lt a.data.toList b.data.toList
  go_wp2_with fail
  refine (sumRef64_any _ _ ha).mono ?_
  rintro e w' ⟨rfl, rfl⟩
  go_wp2_with fail
  refine (sumRef64_any _ _ hb).mono ?_
  rintro e w' ⟨rfl, rfl⟩
  go_wp2_with fail
  refine (cut_any _ _ _ ht).mono ?_
  rintro e w' ⟨rfl, rfl⟩
  go_wp2_with fail
  exact bodyPost_ret (v := .agg #[.int .u64 (low (two a.data.toList b.data.toList) w : Nat), .int .i64 ((a.size : Int) + (b.size : Int))]) (by simp [results, Try.results17, go_sem]) rfl ⟨rfl, (Below.refl _ _).alloc (Nat.le_refl _) _⟩
end Go.Proofs.Ytclbecgoocfmdaa
