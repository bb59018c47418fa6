/-
  The leaves of the laws' side: collatorlaw14.pick and Text, collatorlaw16.pick. Nothing that was there is changed.
-/
import Derived.Test.YtaelenjnjoeheaaOps
namespace Go.Proofs.Ytaelenjnjoeheaa
open Go.RowKit

/-- what a raw number speaks of -/
def pos (c : Int) : Int := if c < 0 then -(c + 1) else c
def pickI (c n : Int) : Int := pos c % n
theorem pickI_range (c n : Int) (h : 0 < n) : 0 ≤ pickI c n ∧ pickI c n < n := ⟨Int.emod_nonneg _ (by omega), Int.emod_lt_of_pos _ h⟩
set_option maxHeartbeats 400000 in
theorem pick_any (c n : Int) (w : World) (hc1 : -9223372036854775808 ≤ c) (hc2 : c ≤ 9223372036854775807) (hn : 0 < n) (hn2 : n ≤ 140737488355328) :
    Calls Try.prog 31 #[.int .i64 c, .int .i64 n] w fun e w' => e = .returned (.int .i64 (pickI c n)) ∧ w = w' := by
  have h0 : ((n == 0) : Bool) = false := by rw [beq_eq_false_iff_ne]; omega
  by_cases hc : c < 0
  · have hp : 0 ≤ -(c + 1) := by omega
    go_enter Try.func31, Try.ntmps31
    go_wp2
    go_ret
    refine ⟨ret_int ?_, rfl⟩
    unfold pickI pos
    rw [if_pos hc, ← Int.tmod_eq_emod_of_nonneg (by omega), Int.neg_tmod]
  · go_enter Try.func31, Try.ntmps31
    go_wp2
    go_ret
    refine ⟨ret_int ?_, rfl⟩
    unfold pickI pos
    rw [if_neg (by omega)]
theorem pick_v (c n p : Int) (hp : pickI c n = p) (w : World) (hc : I64 c) (hn : 0 < n) (hn2 : n ≤ 140737488355328) :
    Calls Try.prog 31 #[.int .i64 c, .int .i64 n] w fun e w' => e = .returned (.int .i64 p) ∧ w = w' := by
  subst hp; exact pick_any c n w hc.1 hc.2 hn hn2
/-- the texts of which the laws speak -/
def textN : Nat → ByteArray
  | 0 => ⟨#[]⟩
  | 1 => ⟨#[97]⟩
  | 2 => ⟨#[98]⟩
  | 3 => ⟨#[97, 98]⟩
  | 4 => ⟨#[98, 97]⟩
  | _ => ⟨#[99, 10]⟩
def textOf (k : Int) : ByteArray := textN (pickI k 6).toNat
theorem textN_size (k : Nat) : (textN k).size ≤ 2 := by
  unfold textN
  split <;> decide
theorem textOf_size (k : Int) : (textOf k).size ≤ 2 := textN_size _
def T6 : Array Value := #[.string (textN 0), .string (textN 1), .string (textN 2), .string (textN 3), .string (textN 4), .string (textN 5)]
theorem t6_at (k : Nat) (h : k < 6) : T6[k]? = some (.string (textN k)) := by
  match k, h with
  | 0, _ => rfl
  | 1, _ => rfl
  | 2, _ => rfl
  | 3, _ => rfl
  | 4, _ => rfl
  | 5, _ => rfl
set_option maxHeartbeats 1000000 in
theorem text_any (k : Int) (w : World) (hk : I64 k) :
    Calls Try.prog 29 #[.int .i64 k] w fun e w' => e = .returned (.string (textOf k)) ∧ Below w.heap.size w w' := by
  obtain ⟨r1, r2⟩ := pickI_range k 6 (by omega)
  obtain ⟨n, hn⟩ := Int.eq_ofNat_of_zero_le r1
  have hn6 : n < 6 := by omega
  have hfin : textOf k = textN n := by unfold textOf; rw [hn]; rfl
  have HF := Lib.hid hfin
  have HN := Lib.hid hn
  have HK := Lib.hid hk
  clear hfin hn r1 r2 hk
  go_enter Try.func29, Try.ntmps29
  go_wp2_with fail
  refine (pick_v k 6 n HN.out _ HK.out (by omega) (by omega)).mono ?_
  rintro e w' ⟨rfl, rfl⟩
  have hc : (w.alloc (.cells #[.string ⟨#[]⟩, .string ⟨#[97]⟩, .string ⟨#[98]⟩, .string ⟨#[97, 98]⟩, .string ⟨#[98, 97]⟩, .string ⟨#[99, 10]⟩] 9)).cell? ⟨w.heap.size, n, none⟩ = some (.string (textN n)) := ((Blk.new w 9 #[.string ⟨#[]⟩, .string ⟨#[97]⟩, .string ⟨#[98]⟩, .string ⟨#[97, 98]⟩, .string ⟨#[98, 97]⟩, .string ⟨#[99, 10]⟩]).cell n).trans (t6_at n hn6)
  have hal : Below w.heap.size w (w.alloc (.cells #[.string ⟨#[]⟩, .string ⟨#[97]⟩, .string ⟨#[98]⟩, .string ⟨#[97, 98]⟩, .string ⟨#[98, 97]⟩, .string ⟨#[99, 10]⟩] 9)) := (Below.refl _ _).alloc (Nat.le_refl _) _
  obtain ⟨w1, hw1⟩ : ∃ w1, w1 = w.alloc (.cells #[.string ⟨#[]⟩, .string ⟨#[97]⟩, .string ⟨#[98]⟩, .string ⟨#[97, 98]⟩, .string ⟨#[98, 97]⟩, .string ⟨#[99, 10]⟩] 9) := ⟨_, rfl⟩
  obtain ⟨g, hg⟩ : ∃ g, g = w.heap.size := ⟨_, rfl⟩
  rw [← hw1] at hc hal ⊢
  rw [← hg] at hc ⊢
  have HB := Lib.hid hal
  have hadd := add_zero_block g n
  clear hw1 hg hal
  go_wp2_with fail
  go_ret
  exact ⟨by show Ending.returned (.string (textN n)) = _; rw [HF.out], HB.out⟩

set_option maxHeartbeats 400000 in
theorem pick16_any (c n : Int) (w : World) (hc1 : -9223372036854775808 ≤ c) (hc2 : c ≤ 9223372036854775807) (hn : 0 < n) (hn2 : n ≤ 140737488355328) :
    Calls Try.prog 11 #[.int .i64 c, .int .i64 n] w fun e w' => e = .returned (.int .i64 (pickI c n)) ∧ w = w' := by
  have h0 : ((n == 0) : Bool) = false := by rw [beq_eq_false_iff_ne]; omega
  by_cases hc : c < 0
  · have hp : 0 ≤ -(c + 1) := by omega
    go_enter Try.func11, Try.ntmps11
    go_wp2
    go_ret
    refine ⟨ret_int ?_, rfl⟩
    unfold pickI pos
    rw [if_pos hc, ← Int.tmod_eq_emod_of_nonneg (by omega), Int.neg_tmod]
  · go_enter Try.func11, Try.ntmps11
    go_wp2
    go_ret
    refine ⟨ret_int ?_, rfl⟩
    unfold pickI pos
    rw [if_neg (by omega)]
theorem pick16_v (c n p : Int) (hp : pickI c n = p) (w : World) (hc : I64 c) (hn : 0 < n) (hn2 : n ≤ 140737488355328) :
    Calls Try.prog 11 #[.int .i64 c, .int .i64 n] w fun e w' => e = .returned (.int .i64 p) ∧ w = w' := by
  subst hp; exact pick16_any c n w hc.1 hc.2 hn hn2
end Go.Proofs.Ytaelenjnjoeheaa
