/-
  (grid).next: between which diagonals one goes on; nothing that was there is changed.
-/
import Derived.Test.YtmonemgjgcfhlaaLeaf
import Derived.Deep.RegionHeld3
import Derived.Deep.DeepCutAuto
namespace Go.Proofs.Ytmonemgjgcfhlaa
open Go.RowKit

theorem below_step {v W w' : World} (h : Below v.heap.size v W) (h2 : Below W.heap.size W w') : Below v.heap.size v w' := h.trans (h2.mono h.size)

/-- what lies in the two boxes -/
def Boxes (w0 : World) (g b : Nat) (gx gy low far : Value) (W : World) : Prop :=
  W.cell? ⟨g, 0, none⟩ = some gx ∧ W.cell? ⟨g, 1, none⟩ = some gy ∧ W.cell? ⟨b, 0, none⟩ = some low ∧ W.cell? ⟨b, 1, none⟩ = some far ∧ Below w0.heap.size w0 W
theorem Boxes.below {w0 W w' : World} {g b : Nat} {gx gy low far : Value} (h : Boxes w0 g b gx gy low far W) (hb : Below W.heap.size W w') : Boxes w0 g b gx gy low far w' := by
  obtain ⟨h1, h2, h3, h4, h5⟩ := h
  refine ⟨?_, ?_, ?_, ?_, below_step h5 hb⟩
  · rw [hb.cell (p := ⟨g, 0, none⟩) (lt_of_cell h1 :)]; exact h1
  · rw [hb.cell (p := ⟨g, 1, none⟩) (lt_of_cell h2 :)]; exact h2
  · rw [hb.cell (p := ⟨b, 0, none⟩) (lt_of_cell h3 :)]; exact h3
  · rw [hb.cell (p := ⟨b, 1, none⟩) (lt_of_cell h4 :)]; exact h4

theorem Boxes.drew {w0 W : World} {g b : Nat} {gx gy low far : Value} (h : Boxes w0 g b gx gy low far W) : Boxes w0 g b gx gy low far W.drew :=
  ⟨h.1, h.2.1, h.2.2.1, h.2.2.2.1, below_drewN h.2.2.2.2 1⟩

theorem onL_bd (far : List Int) (low k : Int) (h : ∀ z ∈ far, -1 ≤ z ∧ z ≤ 1073741) : -1 ≤ Pm.onL low far k ∧ Pm.onL low far k ≤ 1073741 := by
  unfold Pm.onL
  split
  · omega
  · rw [List.getD_eq_getElem?_getD]
    cases hj : far[((k - low) / 2).toNat]? with
    | none => simp
    | some z => exact h z (List.mem_of_getElem? hj)

set_option maxHeartbeats 2000000 in
set_option maxRecDepth 100000 in
theorem next_any (low : Int) (A X Y : Option Addr) (far : List Int) (c n cx m cy : Nat) (w : World) (ha : Ints w w.heap.size A far) (h1 : -1073741 ≤ low) (h2 : low ≤ 1073741) (h3 : far.length ≤ 1073741) (hf0 : ∀ z ∈ far, -1 ≤ z ∧ z ≤ 1073741)
    (xs ys : List Int) (hn : xs.length = n) (hm : ys.length = m) :
    Calls Try.prog 50 #[.agg #[.slice X n cx, .slice Y m cy], .agg #[.int .i64 low, .slice A far.length c]] w fun e w' =>
      e = .returned (.tuple #[.int .i64 (Pm.nextLow ys low far), .int .i64 (Pm.nextHigh xs low far)]) ∧ Below w.heap.size w w' := by
  have h0 : Boxes w w.heap.size (w.heap.size + 1) (.slice X n cx) (.slice Y m cy) (.int .i64 low) (.slice A far.length c) ((w.alloc (.cells #[.slice X n cx, .slice Y m cy] 51)).alloc (.cells #[.int .i64 low, .slice A far.length c] 56)) := by
    refine ⟨?_, ?_, ?_, ?_, ((Below.refl _ _).alloc (Nat.le_refl _) _).alloc (by simp) _⟩
    · rw [World.cell?_alloc_lt _ _ _ (by simp)]; simp [go_sem]
    · rw [World.cell?_alloc_lt _ _ _ (by simp)]; simp [go_sem]
    · simp [go_sem]
    · simp [go_sem]
  have HI : Hid (∀ W, Below w.heap.size w W → Ints W W.heap.size A far) := Lib.hid fun W hB => (ha.below hB).more hB.size
  have b1 := onL_bd far low low hf0
  have b2 := onL_bd far low (low + 2 * ((far.length : Int) - 1)) hf0
  have HE1 : Hid (Pm.nextLow ys low far = if Pm.onL low far low - low = m then low + 1 else low - 1) := Lib.hid (by rw [← hm]; rfl)
  have HE2 : Hid (Pm.nextHigh xs low far = if Pm.onL low far (low + 2 * ((far.length : Int) - 1)) = n then low + 2 * ((far.length : Int) - 1) - 1 else low + 2 * ((far.length : Int) - 1) + 1) := Lib.hid (by rw [← hn]; rfl)
  clear hf0 ha
  have q1 : -1073741824 ≤ low := by omega
  have q2 : low ≤ 1073741824 := by omega
  have q3 : far.length ≤ 1073741824 := by omega
  have q4 : -1073741824 ≤ low + 2 * ((far.length : Int) - 1) := by omega
  have q5 : low + 2 * ((far.length : Int) - 1) ≤ 1073741824 := by omega
  have u1 : IntKind.i64.wrap (Pm.onL low far low - low) = Pm.onL low far low - low := IntWalk.i64_in _ (by omega)
  have u2 : IntKind.i64.wrap (low - 1) = low - 1 := IntWalk.i64_in _ (by omega)
  have u3 : IntKind.i64.wrap (low + 2 * ((far.length : Int) - 1) + 1) = low + 2 * ((far.length : Int) - 1) + 1 := IntWalk.i64_in _ (by omega)
  clear b1 b2
  obtain ⟨p1, e1⟩ : ∃ p1 : Bool, ((Pm.onL low far low - low == (m : Int)) : Bool) = p1 := ⟨_, rfl⟩
  obtain ⟨p2, e2⟩ : ∃ p2 : Bool, ((Pm.onL low far (low + 2 * ((far.length : Int) - 1)) == (n : Int)) : Bool) = p2 := ⟨_, rfl⟩
  have E1 := Lib.hid e1
  have E2 := Lib.hid e2
  cases p1 <;> cases p2
  all_goals
    go_enter Try.func50, Try.ntmps50
    go_wp2_with fail
    generalize ((w.alloc (.cells #[.slice X n cx, .slice Y m cy] 51)).alloc (.cells #[.int .i64 low, .slice A far.length c] 56)) = W1 at h0 ⊢
    obtain ⟨hc1, hc2, hc3, hc4, hB1⟩ := h0
    go_region_held3 (fun W => W.cell? ⟨w.heap.size, 0, none⟩ = some (.slice X n cx) ∧ W.cell? ⟨w.heap.size, 1, none⟩ = some (.slice Y m cy) ∧ W.cell? ⟨w.heap.size + 1, 0, none⟩ = some (.int .i64 low) ∧ W.cell? ⟨w.heap.size + 1, 1, none⟩ = some (.slice A far.length c) ∧ Below w.heap.size w W)
      (first | exact Boxes.drew (by go_split_ands; exact ⟨by assumption, by assumption, by assumption, by assumption, by assumption⟩) | (go_split_ands; refine Boxes.below ⟨?_, ?_, ?_, ?_, ?_⟩ hb <;> assumption))
      (first | (go_at_call 47; refine (high_any _ _ _ _ _ q1 q2 q3).mono ?_; rintro e w' ⟨rfl, hb⟩))
    go_wp2_with fail
    go_region_held3 (fun W => W.cell? ⟨w.heap.size, 0, none⟩ = some (.slice X n cx) ∧ W.cell? ⟨w.heap.size, 1, none⟩ = some (.slice Y m cy) ∧ W.cell? ⟨w.heap.size + 1, 0, none⟩ = some (.int .i64 low) ∧ W.cell? ⟨w.heap.size + 1, 1, none⟩ = some (.slice A far.length c) ∧ Below w.heap.size w W)
      (first | exact Boxes.drew (by go_split_ands; exact ⟨by assumption, by assumption, by assumption, by assumption, by assumption⟩) | (go_split_ands; refine Boxes.below ⟨?_, ?_, ?_, ?_, ?_⟩ hb <;> assumption))
      (first | (go_at_call 32; go_split_ands; refine (on_any _ _ _ _ _ _ (HI.out _ (by assumption)) q1 q2 q3 (by first | exact q1 | exact q4) (by first | exact q2 | exact q5)).mono ?_; rintro e w' ⟨rfl, hb⟩))
    go_wp2_with fail
    go_region_held3 (fun W => W.cell? ⟨w.heap.size, 0, none⟩ = some (.slice X n cx) ∧ W.cell? ⟨w.heap.size, 1, none⟩ = some (.slice Y m cy) ∧ W.cell? ⟨w.heap.size + 1, 0, none⟩ = some (.int .i64 low) ∧ W.cell? ⟨w.heap.size + 1, 1, none⟩ = some (.slice A far.length c) ∧ Below w.heap.size w W)
      (first | exact Boxes.drew (by go_split_ands; exact ⟨by assumption, by assumption, by assumption, by assumption, by assumption⟩) | (go_split_ands; refine Boxes.below ⟨?_, ?_, ?_, ?_, ?_⟩ hb <;> assumption))
      (first | (go_at_call 47; refine (high_any _ _ _ _ _ q1 q2 q3).mono ?_; rintro e w' ⟨rfl, hb⟩) | (go_at_call 32; go_split_ands; refine (on_any _ _ _ _ _ _ (HI.out _ (by assumption)) q1 q2 q3 (by first | exact q1 | exact q4) (by first | exact q2 | exact q5)).mono ?_; rintro e w' ⟨rfl, hb⟩))
    go_wp2_with (go_at_call 47; refine (high_any _ _ _ _ _ q1 q2 q3).mono ?_; rintro e w' ⟨rfl, hb⟩)
    go_ret2
    rw [HE1.out, HE2.out]
    refine ⟨?_, ?_⟩
    · first
        | rw [if_pos (by simpa using E1.out), if_pos (by simpa using E2.out)]
        | rw [if_pos (by simpa using E1.out), if_neg (by simpa using E2.out)]
        | rw [if_neg (by simpa using E1.out), if_pos (by simpa using E2.out)]
        | rw [if_neg (by simpa using E1.out), if_neg (by simpa using E2.out)]
      rfl
    · go_split_ands
      first
        | assumption
        | exact below_step (by assumption) hb

end Go.Proofs.Ytmonemgjgcfhlaa
