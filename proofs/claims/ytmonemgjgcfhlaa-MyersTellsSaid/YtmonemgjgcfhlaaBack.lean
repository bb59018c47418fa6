/-
  collatorlaw05.back: lines, the last one first: a new list.
-/
import Derived.Test.YtmonemgjgcfhlaaScr
namespace Go.Proofs.Ytmonemgjgcfhlaa
open Go.RowKit

theorem rev_snoc {ss : List ByteArray} {k m : Nat} {s : ByteArray} (hm : m + k + 1 = ss.length) (hs : ss[m]? = some s) : ss.reverse.take (k + 1) = ss.reverse.take k ++ [s] := by
  obtain ⟨h, rfl⟩ := List.getElem?_eq_some_iff.1 hs
  have hk : k < ss.reverse.length := by rw [List.length_reverse]; omega
  rw [List.take_succ_eq_append_getElem hk, List.getElem_reverse]
  congr 3
  omega

set_option maxHeartbeats 2000000 in
set_option maxRecDepth 100000 in
theorem back_any (A : Option Addr) (ss : List ByteArray) (c : Nat) (w : World) (ha : Strs w w.heap.size A ss) (h1 : ss.length ≤ 1073741) :
    Calls Try.prog 19 #[.slice A ss.length c] w fun e w' => ∃ A' c', e = .returned (.slice A' ss.length c') ∧ Strs w' w'.heap.size A' ss.reverse ∧ Below w.heap.size w w' := by
  go_enter Try.func19, Try.ntmps19
  go_wp2_with fail
  go_loopw [3, 4] (fun v i wr => ∃ (k : Nat) (z : Int), k ≤ ss.length ∧ z = (ss.length : Int) - 1 - k ∧ i = .int .i64 z ∧ wr.ownsRow w.heap.size 9 1 v k ((ss.reverse.take k).map .string) ∧ Below w.heap.size w wr) (fun _ i _ => (intOf i + 1).toNat)
  case atStart => exact ⟨0, _, Nat.zero_le _, by simp, rfl, World.ownsRow_nil _ _ _ _, Below.refl _ _⟩
  case round =>
    obtain ⟨k, z, hk, hz, rfl, hown, hB⟩ := hrel
    have hbs := hB.size
    obtain ⟨A3, c3, rfl, _, _⟩ := row_shape hown
    by_cases g1 : k < ss.length
    · obtain ⟨m, hm⟩ : ∃ m, m + k + 1 = ss.length := ⟨ss.length - 1 - k, by omega⟩
      have hzm : z = (m : Int) := by omega
      subst hzm
      have g2 : m < ss.length := by omega
      obtain ⟨a, rfl, hab, hca0⟩ := (ha.below hB).at_ g2
      obtain ⟨s, hs⟩ : ∃ s, s = ss[m] := ⟨_, rfl⟩
      have hca : wr.cell? (a.add m) = some (.string s) := by rw [hs]; exact hca0
      have HK := Lib.hid (rev_snoc hm (at_getD g2 hs))
      have hown1 : (wr.alloc (.cells #[.string s] 9)).ownsRow w.heap.size 9 1 (.slice A3 k c3) k ((ss.reverse.take k).map .string) := hown.alloc _
      obtain ⟨A6, c6, w6, hrun, hown6, hg6⟩ := run_append_strs _ w.heap.size _ _ _ hown1 (wr.heap.size + 1) (some ⟨wr.heap.size, 0, none⟩) 1 1 [s] (strs_new wr [s]) rfl (by omega) (by simp; omega)
      have HR : Hid ((Builtin.append_ #[22, 22] 22 #[.slice A3 k c3, .slice (some ⟨wr.heap.size, 0, none⟩) 1 1]).run Try.prog (wr.alloc (.cells #[.string s] 9)) = .ok (.slice A6 (k + 1) c6) w6) := Lib.hid hrun
      have HZ := Lib.hid hz
      clear hrun hca0 hs hz
      go_wp2_with (at_builtin; refine wpList_append_run rfl rfl (by simp [Region.wanted]) rfl rfl HR.out ?_)
      go_roundw
      case rel => exact ⟨k + 1, _, by omega, by have := HZ.out; omega, rfl, by rw [HK.out, List.map_append]; exact hown6, (hB.alloc hbs _).grown hg6 (by simp; omega) (fun j hj => (hown1.lt j hj).1)⟩
      case measure => simp [intOf]
    · have hz1 : z < 0 := by omega
      have hkn : k = ss.length := by omega
      have hz2 : ¬ 0 ≤ z := by omega
      have HO := Lib.hid hown
      have HKN := Lib.hid hkn
      clear hown hkn hz
      go_wp2_with fail
      go_ret
      refine ⟨A3, ⟨c3, by rw [← HKN.out]; rfl⟩, ?_, hB⟩
      have ho := HO.out
      rw [HKN.out, List.take_of_length_le (by simp)] at ho
      refine Strs.of_own (base := w.heap.size) (e := 9) (c := c3) ?_
      rw [List.length_reverse]
      exact ho

end Go.Proofs.Ytmonemgjgcfhlaa
