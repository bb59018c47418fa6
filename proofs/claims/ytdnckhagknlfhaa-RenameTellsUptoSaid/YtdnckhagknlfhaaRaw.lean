/-
  collatorlaw01.Path: of raw numbers, a short path. Nothing that was there is changed.
-/
import Derived.Test.YtdnckhagknlfhaaRefG
namespace Go.Proofs.Ytdnckhagknlfhaa
open Go.RowKit

/-- the few names that there are -/
def names8 : List ByteArray := [⟨#[97]⟩, ⟨#[98]⟩, ⟨#[97, 98]⟩, ⟨#[97, 33]⟩, ⟨#[97, 46, 98]⟩, ⟨#[46, 46, 46]⟩, ⟨#[90]⟩, ⟨#[255]⟩]
theorem names8_size : ∀ s ∈ names8, s.size ≤ 3 := by decide
/-- a short path -/
def PathTold (w : World) (e : Ending) (w' : World) : Prop := (∃ r : ByteArray, e = .returned (.string r) ∧ r.size ≤ 100) ∧ Below w.heap.size w w'

set_option maxHeartbeats 2000000 in
set_option maxRecDepth 100000 in
theorem path_any (A : Option Addr) (zs : List Int) (n c : Nat) (w : World) (ha : Ints w w.heap.size A zs) (hn : zs.length = n) (h1 : n ≤ 9223372036854775807) (hz : ∀ z ∈ zs, -9223372036854775808 ≤ z ∧ z ≤ 9223372036854775807) :
    Calls Try.prog 39 #[.slice A n c] w (PathTold w) := by
  subst hn
  have HZ := Lib.hid hz
  clear hz
  go_enter Try.func39, Try.ntmps39
  go_wp2_with fail
  have hal : Below w.heap.size w (w.alloc (.cells (names8.map Value.string).toArray 9)) := (Below.refl _ _).alloc (Nat.le_refl _) _
  have hns : Strs (w.alloc (.cells (names8.map Value.string).toArray 9)) (w.alloc (.cells (names8.map Value.string).toArray 9)).heap.size (some ⟨w.heap.size, 0, none⟩) names8 := by have := strs_new w names8; simpa using this
  have hia := ha.below hal
  have HAL := Lib.hid hal
  clear hal ha
  obtain ⟨W, hW⟩ : ∃ W, W = w.alloc (.cells (names8.map Value.string).toArray 9) := ⟨_, rfl⟩
  rw [← hW] at hns hia HAL
  simp only [names8, List.map_cons, List.map_nil] at hW
  have HW := Lib.hid hW
  obtain ⟨G, hG⟩ : ∃ G, G = w.heap.size := ⟨_, rfl⟩
  rw [← hG] at hns
  have HNS := Lib.hid hns
  have HG := Lib.hid hG
  clear hns hG
  rw [← hW]
  clear hW
  rw [← HG.out]
  go_loop [4, 5] (fun d i => ∃ (k : Nat) (r : ByteArray), k ≤ zs.length ∧ k ≤ 8 ∧ i = .int .i64 k ∧ d = .string r ∧ r.size ≤ k * 4) (fun _ i => 8 - (intOf i).toNat)
  case atStart => exact ⟨0, ⟨#[]⟩, Nat.zero_le _, Nat.zero_le _, rfl, rfl, by decide⟩
  case round =>
    obtain ⟨k, r, hk, hk8, rfl, rfl, hr⟩ := hrel
    by_cases g1 : k < zs.length
    · by_cases g2 : k < 8
      · obtain ⟨a, rfl, hab, hca0⟩ := hia.at_ g1
        obtain ⟨x, hx⟩ : ∃ x, x = zs[k] := ⟨_, rfl⟩
        have hca : W.cell? (a.add k) = some (.int .i64 x) := by rw [hx]; exact hca0
        obtain ⟨x1, x2⟩ := HZ.out x (by rw [hx]; exact List.getElem_mem g1)
        clear hca0 hx
        go_wp2_with fail
        refine (pick57_any x 8 _ x1 x2 (by omega) (by omega)).mono ?_
        rintro e w2 ⟨rfl, rfl⟩
        obtain ⟨v, hv⟩ : ∃ v : Nat, pickI x 8 = (v : Int) := ⟨(pickI x 8).toNat, by have := (pickI_range x 8 (by omega)).1; omega⟩
        have hv8 : v < 8 := by have := (pickI_range x 8 (by omega)).2; omega
        rw [hv]
        clear hv
        obtain ⟨b, hb, hbl, hcb0⟩ := HNS.out.at_ (k := v) hv8
        injection hb with hb
        subst hb
        obtain ⟨s, hs⟩ : ∃ s, s = names8[v]'hv8 := ⟨_, rfl⟩
        have hcb : W.cell? ⟨G, v, none⟩ = some (.string s) := by rw [hs, ← add_zero_block]; exact hcb0
        have hss : s.size ≤ 3 := by rw [hs]; exact names8_size _ (List.getElem_mem _)
        clear hcb0 hs hbl
        go_wp2_with fail
        refine (join_any r s _ (by omega) (by omega)).mono ?_
        rintro e w3 ⟨⟨r', rfl, hr'⟩, rfl⟩
        go_wp2_with fail
        go_round
        case rel => exact ⟨k + 1, r', by omega, by omega, by go_num, rfl, by omega⟩
        case measure => simp [intOf]; omega
      · go_wp2_with fail
        all_goals
          go_ret
          first | exact ⟨⟨_, rfl, by decide⟩, HAL.out⟩ | exact ⟨⟨r, rfl, by omega⟩, HAL.out⟩
    · go_wp2_with fail
      all_goals
        go_ret
        first | exact ⟨⟨_, rfl, by decide⟩, HAL.out⟩ | exact ⟨⟨r, rfl, by omega⟩, HAL.out⟩

end Go.Proofs.Ytdnckhagknlfhaa
