/-
  collatorlaw09.awake, collatorlaw09.pick.
-/
import Derived.Test.YtclbecgoocfmdaaKey
namespace Go.Proofs.Ytclbecgoocfmdaa
open Go.RowKit Sm

theorem sum_at (s : ByteArray) (w : Int) (n : Int) (W : World) (hs : s.size ≤ 4096) (h : ((low (run 0 s.data.toList) w : Nat) : Int) = n) :
    Calls Try.prog 10 #[.string s, .int .i64 w] W fun e w' => e = .returned (.int .u64 n) ∧ W = w' := by
  subst h; exact sum_any s w W hs
theorem more_at (h : Int) (g : Nat) (s : ByteArray) (w : Int) (n : Int) (W : World) (hg : (g : Int) = h) (hh : g < M) (hs : s.size ≤ 4096) (e : ((low (run g s.data.toList) w : Nat) : Int) = n) :
    Calls Try.prog 12 #[.int .u64 h, .string s, .int .i64 w] W fun e w' => e = .returned (.int .u64 n) ∧ W = w' := by
  subst hg e; exact more_any g s w W hh hs
theorem of_at (s : ByteArray) (w : Int) (n l : Int) (W : World) (hs : s.size ≤ 4096) (h : ((low (run 0 s.data.toList) w : Nat) : Int) = n) (hl : (s.size : Int) = l) :
    Calls Try.prog 14 #[.string s, .int .i64 w] W fun e w' => e = .returned (.agg #[.int .u64 n, .int .i64 l]) ∧ Below W.heap.size W w' := by
  subst h hl; exact of_any s w W hs
theorem both_at (a b : ByteArray) (w : Int) (n l : Int) (W : World) (ha : a.size ≤ 4096) (hb : b.size ≤ 4096) (h : ((low (two a.data.toList b.data.toList) w : Nat) : Int) = n) (hl : (a.size : Int) + (b.size : Int) = l) :
    Calls Try.prog 16 #[.string a, .string b, .int .i64 w] W fun e w' => e = .returned (.agg #[.int .u64 n, .int .i64 l]) ∧ Below W.heap.size W w' := by
  subst h hl; exact both_any a b w W ha hb

set_option maxHeartbeats 1000000 in
theorem awake_any (W : World) : Calls Try.prog 8 #[] W fun e w' => e = .returned (.bool true) ∧ Below W.heap.size W w' := by
  go_enter Try.func8, Try.ntmps8
  go_wp2_with fail
  refine (sum_at ⟨#[97]⟩ 64 98 _ (by decide) (by decide)).mono ?_
  rintro e w' ⟨rfl, rfl⟩
  go_wp2_with fail
  refine (sum_at ⟨#[97, 98]⟩ 64 3137 _ (by decide) (by decide)).mono ?_
  rintro e w' ⟨rfl, rfl⟩
  go_wp2_with fail
  refine (sum_at ⟨#[97, 98]⟩ 4 1 _ (by decide) (by decide)).mono ?_
  rintro e w' ⟨rfl, rfl⟩
  go_wp2_with fail
  refine (of_at ⟨#[97, 98]⟩ 4 1 2 _ (by decide) (by decide) (by decide)).mono ?_
  rintro e w1 ⟨rfl, hb1⟩
  go_wp2_with fail
  refine (both_at ⟨#[97]⟩ ⟨#[98]⟩ 64 3725 2 _ (by decide) (by decide) (by decide) (by decide)).mono ?_
  rintro e w2 ⟨rfl, hb2⟩
  go_wp2_with fail
  refine (more_at 1 1 ⟨#[]⟩ 0 0 _ rfl (by decide) (by decide) (by decide)).mono ?_
  rintro e w' ⟨rfl, rfl⟩
  go_wp2_with fail
  refine (more_at 5 5 ⟨#[]⟩ 99 5 _ rfl (by decide) (by decide) (by decide)).mono ?_
  rintro e w' ⟨rfl, rfl⟩
  go_wp2_with fail
  go_ret
  exact ⟨rfl, hb1.trans (hb2.mono hb1.size)⟩

/-- which of n things a raw number speaks of -/
def pk (c n : Int) : Int := if c < 0 then (-(c + 1)) % n else c % n
theorem pk_range (c n : Int) (hn : 0 < n) : 0 ≤ pk c n ∧ pk c n < n := by
  unfold pk
  split
  · exact ⟨Int.emod_nonneg _ (by omega), Int.emod_lt_of_pos _ hn⟩
  · exact ⟨Int.emod_nonneg _ (by omega), Int.emod_lt_of_pos _ hn⟩
set_option maxHeartbeats 1000000 in
theorem pick_any (c n : Int) (W : World) (hn : 0 < n) (hn2 : n ≤ 65536) (h0 : -9223372036854775808 ≤ c) (h1 : c ≤ 9223372036854775807) :
    Calls Try.prog 9 #[.int .i64 c, .int .i64 n] W fun e w' => e = .returned (.int .i64 (pk c n)) ∧ W = w' := by
  by_cases h : c < 0
  · go_enter Try.func9, Try.ntmps9
    go_wp2
    go_ret
    exact ⟨ret_int (by unfold pk; rw [if_pos h, ← Int.neg_tmod, Int.tmod_eq_emod_of_nonneg (by omega)]), rfl⟩
  · go_enter Try.func9, Try.ntmps9
    go_wp2
    go_ret
    exact ⟨ret_int (by unfold pk; rw [if_neg (by omega)]), rfl⟩
end Go.Proofs.Ytclbecgoocfmdaa
