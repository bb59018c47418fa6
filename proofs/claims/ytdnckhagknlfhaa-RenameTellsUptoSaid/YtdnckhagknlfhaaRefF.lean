/-
  collatorlaw02.Wide, collatorref01.Compare. Nothing that was there is changed.
-/
import Derived.Test.YtdnckhagknlfhaaRefD
import Derived.Laws.Cover1
namespace Go.Proofs.Ytdnckhagknlfhaa
open Go.RowKit

theorem wide_any (w : World) : Calls Try.prog 34 #[] w fun e w' => e = .returned (.agg #[.int .i64 16, .int .i64 1000, .int .i64 200]) ∧ Below w.heap.size w w' := by
  go_enter Try.func34, Try.ntmps34
  go_wp2_with fail
  refine bodyPost_ret (v := .agg #[.int .i64 16, .int .i64 1000, .int .i64 200]) (by simp [results, Try.results34, go_sem]) rfl ⟨rfl, (Below.refl _ _).alloc (Nat.le_refl _) _⟩

set_option maxHeartbeats 4000000 in
set_option maxRecDepth 100000 in
theorem refCompare_any (s t : ByteArray) (w : World) (hs : s.size ≤ 60000) (ht : t.size ≤ 60000) : Calls Try.prog 19 #[.string s, .string t] w fun e w' => IsNum e ∧ Below w.heap.size w w' := by
  go_enter Try.func19, Try.ntmps19
  go_wp2_with fail
  refine (split_any s _ hs).mono ?_
  rintro e w1 ⟨A, c, X, rfl, hX, hl, _, hB⟩
  have HB := Lib.hid hB
  clear hB
  go_wp2_with fail
  refine (split_any t _ ht).mono ?_
  rintro e w2 ⟨A2, c2, Y, rfl, hY, hl2, _, hB2⟩
  have hX2 := hX.below hB2
  have HB2 := Lib.hid (HB.out.trans (hB2.mono HB.out.size))
  clear hB2 hX
  go_wp2_with fail
  go_loopw [7] (fun i wr => ∃ k : Nat, k ≤ X.length ∧ i = .int .i64 k ∧ Drew w2 wr) (fun i _ => X.length - (intOf i).toNat)
  case atStart => exact ⟨0, Nat.zero_le _, rfl, Drew.refl _⟩
  case round =>
    obtain ⟨k, hk, rfl, n, rfl⟩ := hrel
    by_cases g1 : k < X.length
    · by_cases g2 : k < Y.length
      · obtain ⟨a, rfl, hab, hca0⟩ := hX2.at_ g1
        obtain ⟨x, hx⟩ : ∃ x, x = X[k] := ⟨_, rfl⟩
        have hca : w2.cell? (a.add k) = some (.string x) := by rw [hx]; exact hca0
        obtain ⟨b, rfl, hbb, hcb0⟩ := hY.at_ g2
        obtain ⟨y, hy⟩ : ∃ y, y = Y[k] := ⟨_, rfl⟩
        have hcb : w2.cell? (b.add k) = some (.string y) := by rw [hy]; exact hcb0
        clear hca0 hx hcb0 hy
        go_wp2_with fail
        go_quiet (fail)
        go_wp2_with fail
        · go_ret
          exact ⟨⟨-1, by omega, by omega, rfl⟩, by rw [World.drewN_drewN]; exact below_drewN HB2.out _⟩
        · go_quiet (fail)
          go_wp2_with fail
          · go_ret
            exact ⟨⟨1, by omega, by omega, rfl⟩, by rw [World.drewN_drewN, World.drewN_drewN]; exact below_drewN HB2.out _⟩
          · go_roundw
            case rel => exact ⟨k + 1, by omega, by go_num, ⟨_, rfl⟩⟩
            case measure => simp [intOf]; omega
      · go_wp2_with fail
        all_goals
          go_ret
          first | exact ⟨⟨-1, by omega, by omega, rfl⟩, below_drewN HB2.out _⟩ | exact ⟨⟨1, by omega, by omega, rfl⟩, below_drewN HB2.out _⟩ | exact ⟨⟨0, by omega, by omega, rfl⟩, below_drewN HB2.out _⟩
    · go_wp2_with fail
      all_goals
        go_ret
        first | exact ⟨⟨-1, by omega, by omega, rfl⟩, below_drewN HB2.out _⟩ | exact ⟨⟨1, by omega, by omega, rfl⟩, below_drewN HB2.out _⟩ | exact ⟨⟨0, by omega, by omega, rfl⟩, below_drewN HB2.out _⟩

end Go.Proofs.Ytdnckhagknlfhaa
