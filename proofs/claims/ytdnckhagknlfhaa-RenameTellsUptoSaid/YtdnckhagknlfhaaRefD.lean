/-
  collatorref01.Check, Parts, Dir and Compare: what they tell, as far as the laws need it. Nothing that was there is changed.
-/
import Derived.Test.YtdnckhagknlfhaaRefB
import Derived.Test.YtdnckhagknlfhaaRefC
namespace Go.Proofs.Ytdnckhagknlfhaa
open Go.RowKit

/-- a small number is told -/
def IsNum (e : Ending) : Prop := ∃ z : Int, -100 ≤ z ∧ z ≤ 100 ∧ e = .returned (.int .i64 z)

set_option maxHeartbeats 4000000 in
set_option maxRecDepth 100000 in
theorem check_any (s : ByteArray) (w : World) (hs : s.size ≤ 60000) : Calls Try.prog 50 #[.string s] w fun e w' => IsNum e ∧ Below w.heap.size w w' := by
  go_enter Try.func50, Try.ntmps50
  go_wp2_with fail
  refine (split_any s _ hs).mono ?_
  rintro e w1 ⟨A, c, X, rfl, hX, hl, hm, hB⟩
  have HM := Lib.hid hm
  clear hm
  go_wp2_with fail
  go_loop [4] (fun i => ∃ k : Nat, k ≤ X.length ∧ i = .int .i64 k) (fun i => X.length - (intOf i).toNat)
  case atStart => exact ⟨0, Nat.zero_le _, rfl⟩
  case round =>
    obtain ⟨k, hk, rfl⟩ := hrel
    by_cases g1 : k < X.length
    · obtain ⟨a, rfl, hab, hca0⟩ := hX.at_ g1
      obtain ⟨x, hx⟩ : ∃ x, x = X[k] := ⟨_, rfl⟩
      have hca : w1.cell? (a.add k) = some (.string x) := by rw [hx]; exact hca0
      have hxs := HM.out.1 x (by rw [hx]; exact List.getElem_mem g1)
      clear hca0 hx
      go_wp2_with fail
      refine (may_any x _ (by omega)).mono ?_
      rintro e w2 ⟨⟨b, rfl⟩, rfl⟩
      cases b with
      | false =>
        go_wp2_with fail
        go_ret
        exact ⟨⟨2, by omega, by omega, rfl⟩, hB⟩
      | true =>
        go_wp2_with fail
        go_round
        case rel => exact ⟨k + 1, by omega, by go_num⟩
        case measure => simp [intOf]; omega
    · by_cases g2 : (16 : Int) < (X.length : Int)
      · go_wp2_with fail
        go_ret
        exact ⟨⟨3, by omega, by omega, rfl⟩, hB⟩
      · go_wp2_with fail
        go_ret
        exact ⟨⟨0, by omega, by omega, rfl⟩, hB⟩

set_option maxHeartbeats 1000000 in
theorem parts_any (s : ByteArray) (w : World) (hs : s.size ≤ 60000) : Calls Try.prog 31 #[.string s] w (PartsTold s.size w) := by
  go_enter Try.func31, Try.ntmps31
  go_wp2_with fail
  refine (check_any s _ hs).mono ?_
  rintro e w1 ⟨⟨z, hz1, hz2, rfl⟩, hB⟩
  cases hz : ((z == 0) : Bool) with
  | false =>
    have hz' : ((z != 0) : Bool) = true := by rw [bne, hz]; rfl
    go_wp2_with fail
    go_ret
    exact ⟨none, 0, [], rfl, Strs.nil, Nat.zero_le _, ⟨fun x hx => (by cases hx), Nat.zero_le _⟩, hB⟩
  | true =>
    have hz' : ((z != 0) : Bool) = false := by rw [bne, hz]; rfl
    have HB := Lib.hid hB
    clear hB
    go_wp2_with fail
    refine (split_any s _ hs).mono ?_
    rintro e w2 ⟨A, c, X, rfl, hX, hl, hm, hB2⟩
    have HM := Lib.hid hm
    have HB2 := Lib.hid hB2
    clear hm hB2
    go_wp2_with fail
    go_ret
    exact ⟨A, c, X, rfl, hX, hl, HM.out, HB.out.trans (HB2.out.mono HB.out.size)⟩

set_option maxHeartbeats 4000000 in
set_option maxRecDepth 100000 in
theorem dirOf_any (s : ByteArray) (w : World) (hs : s.size ≤ 200) : Calls Try.prog 67 #[.string s] w fun e w' => (∃ r : ByteArray, e = .returned (.string r) ∧ r.size ≤ 65536) ∧ Below w.heap.size w w' := by
  go_enter Try.func67, Try.ntmps67
  go_wp2_with fail
  refine (parts_any s _ (by omega)).mono ?_
  rintro e w1 ⟨A, c, X, rfl, hX, hl, hm, hB⟩
  have HM := Lib.hid hm
  have HB := Lib.hid hB
  clear hm hB
  go_wp2_with fail
  go_loop [4, 5] (fun d i => ∃ (k : Nat) (r : ByteArray), k ≤ X.length ∧ i = .int .i64 k ∧ d = .string r ∧ r.size ≤ k * 201) (fun _ i => X.length - (intOf i).toNat)
  case atStart => exact ⟨0, ⟨#[]⟩, Nat.zero_le _, rfl, rfl, by decide⟩
  case round =>
    obtain ⟨k, r, hk, rfl, rfl, hr⟩ := hrel
    by_cases g1 : k + 1 < X.length
    · have g1' : k < X.length := by omega
      obtain ⟨a, rfl, hab, hca0⟩ := hX.at_ g1'
      obtain ⟨x, hx⟩ : ∃ x, x = X[k] := ⟨_, rfl⟩
      have hca : w1.cell? (a.add k) = some (.string x) := by rw [hx]; exact hca0
      have hxs := HM.out.1 x (by rw [hx]; exact List.getElem_mem g1')
      clear hca0 hx
      go_wp2_with fail
      refine (join_any r x _ (by omega) (by omega)).mono ?_
      rintro e w2 ⟨⟨r', rfl, hr'⟩, rfl⟩
      go_wp2_with fail
      go_round
      case rel => exact ⟨k + 1, r', by omega, by go_num, rfl, by omega⟩
      case measure => simp [intOf]; omega
    · go_wp2_with fail
      go_ret
      exact ⟨⟨r, rfl, by omega⟩, HB.out⟩

end Go.Proofs.Ytdnckhagknlfhaa
