/-
  sharedFromEnd: the numbers of those lines that both lists have, the last one first: a new list.
-/
import Derived.Test.YtmonemgjgcfhlaaFront
import Derived.Lib.OwnBridge
namespace Go.Proofs.Ytmonemgjgcfhlaa
open Go.RowKit

/-- the numbers that are 0 or more -/
def sharedL (zs : List Int) : List Int := zs.filter fun z => decide (0 ≤ z)
theorem sharedL_snoc {zs : List Int} {k : Nat} {z : Int} (hz : zs[k]? = some z) : sharedL (zs.take (k + 1)) = if 0 ≤ z then sharedL (zs.take k) ++ [z] else sharedL (zs.take k) := by
  obtain ⟨h, rfl⟩ := List.getElem?_eq_some_iff.1 hz
  rw [List.take_succ_eq_append_getElem h]
  unfold sharedL
  rw [List.filter_append]
  by_cases h0 : 0 ≤ zs[k] <;> simp [h0]
theorem sharedL_le (zs : List Int) : (sharedL zs).length ≤ zs.length := List.length_filter_le _ _

set_option maxHeartbeats 2000000 in
set_option maxRecDepth 100000 in
theorem shared_any (A : Option Addr) (zs : List Int) (c : Nat) (w : World) (ha : Ints w w.heap.size A zs) (h1 : zs.length ≤ 1073741) :
    Calls Try.prog 29 #[.slice A zs.length c] w fun e w' => ∃ A' c', e = .returned (.slice A' (sharedL zs).length c') ∧ Ints w' w'.heap.size A' (sharedL zs).reverse ∧ Below w.heap.size w w' := by
  go_enter Try.func29, Try.ntmps29
  go_wp2_with fail
  go_loopw [3, 8] (fun v i wr => ∃ k : Nat, k ≤ zs.length ∧ i = .int .i64 k ∧ wr.ownsRow w.heap.size 3 1 v (sharedL (zs.take k)).length ((sharedL (zs.take k)).map (.int .i64)) ∧ Below w.heap.size w wr) (fun _ i _ => zs.length - (intOf i).toNat)
  case atStart => exact ⟨0, Nat.zero_le _, rfl, World.ownsRow_nil _ _ _ _, Below.refl _ _⟩
  case round =>
    obtain ⟨k, hk, rfl, hown, hB⟩ := hrel
    by_cases g1 : k < zs.length
    · obtain ⟨a, rfl, hab, hca0⟩ := (ha.below hB).at_ g1
      obtain ⟨z, hz⟩ : ∃ z, z = zs[k] := ⟨_, rfl⟩
      have hca : wr.cell? (a.add k) = some (.int .i64 z) := by rw [hz]; exact hca0
      have HK := Lib.hid (sharedL_snoc (at_getD g1 hz))
      have hsl := sharedL_le (zs.take k)
      have hbs := hB.size
      clear hca0 hz
      rw [List.length_take] at hsl
      obtain ⟨A3, c3, rfl, _, _⟩ := row_shape hown
      by_cases g2 : 0 ≤ z
      · have g2' : decide (0 ≤ z) = true := by simpa using g2
        have hown1 : (wr.alloc (.cells #[.int .i64 z] 3)).ownsRow w.heap.size 3 1 (.slice A3 (sharedL (zs.take k)).length c3) (sharedL (zs.take k)).length ((sharedL (zs.take k)).map (.int .i64)) := hown.alloc _
        obtain ⟨A6, c6, w6, hrun, hown6, hg6⟩ := run_append_ints _ w.heap.size _ _ _ hown1 ⟨wr.heap.size, 0, none⟩ 1 z ((Blk.new wr 3 #[.int .i64 z]).cell 0) (by omega) (by simp; omega)
        have HR := Lib.hid hrun
        clear hrun
        go_wp2_with (first
          | (go_at_call 34; refine (isShared_any _ _).mono ?_; rintro e w' ⟨rfl, rfl⟩)
          | (at_builtin; refine wpList_append_run rfl rfl (by simp [Region.wanted]) rfl rfl HR.out ?_))
        go_roundw
        case rel => exact ⟨k + 1, by omega, by go_num, by rw [HK.out, if_pos g2]; simpa using hown6, (hB.alloc hbs _).grown hg6 (by simp; omega) (fun j hj => (hown1.lt j hj).1)⟩
        case measure => simp [intOf]; omega
      · have g2' : decide (0 ≤ z) = false := by simpa using g2
        go_wp2_with (go_at_call 34; refine (isShared_any _ _).mono ?_; rintro e w' ⟨rfl, rfl⟩)
        go_roundw
        case rel => exact ⟨k + 1, by omega, by go_num, by rw [HK.out, if_neg (by omega)]; exact hown, hB⟩
        case measure => simp [intOf]; omega
    · have hkz : zs.take k = zs := List.take_of_length_le (by omega)
      rw [hkz] at hown
      clear hkz
      by_cases hv : u3 = .slice none 0 0
      · subst hv
        have hz0 : sharedL zs = [] := by
          rcases hown.2 with ⟨_, h0⟩ | ⟨g, cap, cur, h0, _⟩
          · exact List.eq_nil_of_length_eq_zero h0
          · cases h0
        have HZ := Lib.hid hz0
        clear hz0
        go_wp2_with (go_at_call 46; refine (Try.slices_Reverse_int_empty _ _ _).mono ?_; rintro e w' ⟨rfl, rfl⟩)
        go_ret
        rw [HZ.out]
        exact ⟨none, 0, rfl, Ints.nil, hB⟩
      · obtain ⟨g0, cap0, rfl, hbg, hgl, hncap, hcm, hlen0, hH⟩ := Lib.holds_of_ownsRow hown hv
        have hrev := Try.slices_Reverse_int g0 0 cap0 (sharedL zs) wr hH (by have := sharedL_le zs; omega)
        have HREV := Lib.hid hrev
        have HOWN := Lib.hid hown
        clear hrev hH hown hv
        go_wp2_with (go_at_call 46; refine HREV.out.mono ?_; rintro e w' ⟨rfl, q, rfl⟩)
        go_ret
        have hp := Lib.ownsRow_putRow (q := q) (k := (sharedL zs).length) (ys := (sharedL zs).reverse) HOWN.out (by simp) (Nat.le_refl _)
        rw [List.take_of_length_le (by simp)] at hp
        refine ⟨_, _, rfl, ?_, Lib.below_putRow hB hbg⟩
        refine Ints.of_own (base := w.heap.size) (e := 3) (c := cap0) ?_
        rw [List.length_reverse]
        exact hp

end Go.Proofs.Ytmonemgjgcfhlaa
