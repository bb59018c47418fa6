/-
  The closure of (grid).rise: how far one comes on a diagonal of the next front; nothing that was there is changed.
-/
import Derived.Test.YtmonemgjgcfhlaaNext
namespace Go.Proofs.Ytmonemgjgcfhlaa
open Go.RowKit

theorem run_min_ifs {P : Program} {w : World} (ts : Array TypeId) (t : TypeId) (k k' k'' : IntKind) (x y z : Int) : (Builtin.min_ ts t #[.int k x, .int k' y, .int k'' z]).run P w = .ok (.int k (if z < (if y < x then y else x) then z else (if y < x then y else x))) w := by
  simp [Builtin.min_, Builtin.min2]
theorem run_min3 {P : Program} {w : World} (ts : Array TypeId) (t : TypeId) (k k' k'' : IntKind) (x y z : Int) : (Builtin.min_ ts t #[.int k x, .int k' y, .int k'' z]).run P w = .ok (.int k (min (min x y) z)) w := by
  have h : ∀ a b : Int, (if b < a then b else a) = min a b := fun a b => by split <;> omega
  rw [run_min_ifs, h, h]
attribute [local go_sem] run_min3

set_option maxHeartbeats 2000000 in
set_option maxRecDepth 100000 in
theorem reach_any (low k : Int) (A X Y : Option Addr) (far xs ys : List Int) (c cx cy g b i j : Nat) (w : World) (ha : Ints w w.heap.size A far) (hx : Ints w w.heap.size X xs) (hy : Ints w w.heap.size Y ys)
    (hc1 : w.cell? ⟨g, 0, none⟩ = some (.slice X xs.length cx)) (hc2 : w.cell? ⟨g, 1, none⟩ = some (.slice Y ys.length cy)) (hc3 : w.cell? ⟨b, 0, none⟩ = some (.int .i64 low)) (hc4 : w.cell? ⟨b, 1, none⟩ = some (.slice A far.length c))
    (h1 : -1073741 ≤ low) (h2 : low ≤ 1073741) (h3 : far.length ≤ 1073741) (hf0 : ∀ z ∈ far, -1 ≤ z ∧ z ≤ 1073741) (h4 : -1073741 ≤ k) (h5 : k ≤ 1073741) (h6 : xs.length ≤ 1073741) (h7 : ys.length ≤ 1073741)
    (hfrom : Pm.from_ xs ys low far k = i) (hij : (i : Int) - j = k) (hi : i ≤ xs.length) (hj : j ≤ ys.length) :
    Calls Try.prog 49 #[.int .i64 k, .pointer (some ⟨b, 0, none⟩), .pointer (some ⟨g, 0, none⟩)] w fun e w' => ∃ i' j' : Nat, e = .returned (.int .i64 i') ∧ Pm.Slid xs ys i j i' j' ∧ Below w.heap.size w w' := by
  have HI : Hid (∀ W, Below w.heap.size w W → Ints W W.heap.size A far) := Lib.hid fun W hB => (ha.below hB).more hB.size
  have HX : Hid (∀ W, Below w.heap.size w W → Ints W W.heap.size X xs) := Lib.hid fun W hB => (hx.below hB).more hB.size
  have HY : Hid (∀ W, Below w.heap.size w W → Ints W W.heap.size Y ys) := Lib.hid fun W hB => (hy.below hB).more hB.size
  have b1 := onL_bd far low (k - 1) hf0
  have b2 := onL_bd far low (k + 1) hf0
  have hB1 := Below.refl w.heap.size w
  have q1 : -1073741824 ≤ low := by omega
  have q2 : low ≤ 1073741824 := by omega
  have q3 : far.length ≤ 1073741824 := by omega
  have q4 : -1073741824 ≤ k - 1 := by omega
  have q5 : k - 1 ≤ 1073741824 := by omega
  have q6 : -1073741824 ≤ k + 1 := by omega
  have q7 : k + 1 ≤ 1073741824 := by omega
  have HM : Hid (min (max (Pm.onL low far (k - 1) + 1) (Pm.onL low far (k + 1))) (min (xs.length : Int) (ys.length + k)) = i) := Lib.hid (by unfold Pm.from_ at hfrom; omega)
  have HIJ := Lib.hid hij
  have u1 : IntKind.i64.wrap (k - 1) = k - 1 := IntWalk.i64_in _ (by omega)
  have u2 : IntKind.i64.wrap (k + 1) = k + 1 := IntWalk.i64_in _ (by omega)
  have u3 : IntKind.i64.wrap (Pm.onL low far (k - 1) + 1) = Pm.onL low far (k - 1) + 1 := IntWalk.i64_in _ (by omega)
  clear hf0 ha hx hy hfrom hij
  go_enter Try.func49, Try.ntmps49
  go_wp2_with fail
  go_region_held3 (fun W => W.cell? ⟨g, 0, none⟩ = some (.slice X xs.length cx) ∧ W.cell? ⟨g, 1, none⟩ = some (.slice Y ys.length cy) ∧ W.cell? ⟨b, 0, none⟩ = some (.int .i64 low) ∧ W.cell? ⟨b, 1, none⟩ = some (.slice A far.length c) ∧ Below w.heap.size w W)
      (first | exact Boxes.drew (by go_split_ands; exact ⟨by assumption, by assumption, by assumption, by assumption, by assumption⟩) | (go_split_ands; refine Boxes.below ⟨?_, ?_, ?_, ?_, ?_⟩ hb <;> assumption))
      (first | (go_at_call 32; go_split_ands; refine (on_any _ _ _ _ _ _ (HI.out _ (by assumption)) q1 q2 q3 (by first | exact q4 | exact q6) (by first | exact q5 | exact q7)).mono ?_; rintro e w' ⟨rfl, hb⟩))
  all_goals
    clear u1 u2 u3
    go_split_ands
    go_wp2_with fail
    rw [HM.out]
    refine (slide_any _ _ _ xs ys _ _ i j _ (HX.out _ (by assumption)) (HY.out _ (by assumption)) HIJ.out hi hj (by omega) (by omega)).mono ?_
    rintro e w9 ⟨i', j', rfl, hs, hb9⟩
    have HS := Lib.hid hs
    clear hs
    go_wp2_with fail
    go_ret
    exact ⟨i', j', rfl, HS.out, below_step (by assumption) hb9⟩

end Go.Proofs.Ytmonemgjgcfhlaa
