/-
  Package flight: without: all numbers but one, in memory of their own; nothing that was there is changed.
-/
import Derived.Test.YtllkegonhghkcaaOwn
import Derived.Laws.MakeOwn
namespace Go.Proofs.Ytllkegonhghkcaa
open Go.RowKit P15

/-- an empty list with room -/
theorem own_made {α : Type} (f : α → List Value) (n : Nat) (t : TypeId) (w : World) (c : Nat) (hc : c ≤ maxLen) (cs : Array Value) (hs : cs.size = c * n) :
    OwnR f n t w (w.alloc (.cells cs t)) (.slice (some ⟨w.heap.size, 0, none⟩) 0 c) [] := by
  refine ⟨⟨by simp, .inr ⟨w.heap.size, c, cs, rfl, Nat.le_refl _, Blk.new w t _, Nat.zero_le _, hc, hs, ?_⟩⟩, (Below.refl _ _).alloc (Nat.le_refl _) _⟩
  simp
theorem make_ints (n : Nat) (hn : n ≤ 1048576) (W : World) : ∃ cs, cs.size = n * 1 ∧ (Instr.makeSlice 26 (.int .i64 0) (.int .i64 (n : Int))).run Try.prog W = .ok (.slice (some ⟨W.heap.size, 0, none⟩) 0 n) (W.alloc (.cells cs 3)) := by
  obtain ⟨i0, hi, hz0, hz1, hz2⟩ := info_parts infoI
  have hr := run_make (P := Try.prog) W 26 3 i0 _ Try.underlying26 hi hz0 .i64 .i64 0 (n : Int) (by omega) (by omega) (by rw [hz2]; omega) (by omega)
  rw [hz1] at hr
  simp only [Int.toNat_natCast] at hr
  exact ⟨_, size_madeCells _ _, hr⟩
theorem make_fills (n : Nat) (hn : n ≤ 1048576) (W : World) : ∃ cs, cs.size = n * 4 ∧ (Instr.makeSlice 22 (.int .i64 0) (.int .i64 (n : Int))).run Try.prog W = .ok (.slice (some ⟨W.heap.size, 0, none⟩) 0 n) (W.alloc (.cells cs 28)) := by
  obtain ⟨i0, hi, hz0, hz1, hz2⟩ := info_parts infoF
  have hr := run_make (P := Try.prog) W 22 28 i0 _ Try.underlying22 hi hz0 .i64 .i64 0 (n : Int) (by omega) (by omega) (by rw [hz2]; omega) (by omega)
  rw [hz1] at hr
  simp only [Int.toNat_natCast] at hr
  exact ⟨_, size_madeCells _ _, hr⟩

set_option maxHeartbeats 2000000 in
theorem without_any (A : Option Addr) (L : List Int) (n c : Nat) (who : Int) (w : World) (ha : IntsAt w A L) (hn : L.length = n) (h1 : n ≤ 2000) :
    Calls Try.prog 32 #[.slice A n c, .int .i64 who] w (IntsTold (without L who) w) := by
  subst hn
  have HA := Lib.hid ha
  clear ha
  obtain ⟨cs, hcs, hmk⟩ := make_ints L.length (by omega) w
  go_enter Try.func32, Try.ntmps32
  go_wp2_with fail
  have ho := own_made icells 1 3 w L.length (by unfold maxLen; omega) cs hcs
  obtain ⟨w1, hw1⟩ : ∃ w1, w1 = w.alloc (.cells cs 3) := ⟨_, rfl⟩
  obtain ⟨g, hg⟩ : ∃ g, g = w.heap.size := ⟨_, rfl⟩
  rw [← hw1, ← hg] at ho ⊢
  have HO := Lib.hid ho
  clear hcs hmk ho hw1 hg
  go_loopw [5, 13] (fun v i wr => ∃ (j m : Nat) (Ao : Option Addr) (co : Nat), j ≤ L.length ∧ v = .slice Ao m co ∧ i = .int .i64 j ∧ Hid (OwnI w wr (.slice Ao m co) (without (L.take j) who)) ∧ Hid ((without (L.take j) who).length = m)) (fun _ i _ => L.length - (intOf i).toNat)
  case atStart => exact ⟨0, 0, _, L.length, Nat.zero_le _, rfl, rfl, HO, Lib.hid rfl⟩
  case round =>
    obtain ⟨j, m, Ao, co, hj, rfl, rfl, HV, HM⟩ := hrel
    have hm1 : m ≤ j := by
      have h1 := without_len (L.take j) who
      rw [HM.out, List.length_take] at h1
      omega
    by_cases g2 : j < L.length
    · obtain ⟨z, hz⟩ : ∃ z, L[j]? = some z := ⟨_, List.getElem?_eq_getElem g2⟩
      obtain ⟨b, rfl, hbl, d0⟩ := ints_cell (HA.out.up HV.out.2) hz
      have HZ := Lib.hid hz
      clear hz
      by_cases g3 : z = who
      · have t3 : (z != who) = false := by simp [g3]
        have t4 : (z == who) = true := by simp [g3]
        have HO : Hid (without (L.take (j + 1)) who = without (L.take j) who) := Lib.hid (by rw [take_snoc HZ.out, without_snoc_eq g3])
        clear g3
        go_wp2_with fail
        go_roundw
        case rel => exact ⟨j + 1, m, Ao, co, by omega, rfl, by go_num, Lib.hid (by rw [HO.out]; exact HV.out), Lib.hid (by rw [HO.out]; exact HM.out)⟩
        case measure => simp [intOf]; omega
      · have t3 : (z != who) = true := by simp [g3]
        have t4 : (z == who) = false := by simp [g3]
        have HO : Hid (without (L.take (j + 1)) who = without (L.take j) who ++ [z]) := Lib.hid (by rw [take_snoc HZ.out, without_snoc_ne g3])
        obtain ⟨A6, c6, w6, hr6, ho6, hgr6⟩ := int_push HV.out z (m + 1) (by rw [HM.out]) (by omega)
        have HR6 := Lib.hid hr6
        have HO6 := Lib.hid ho6
        clear hr6 ho6 hgr6 g3
        go_wp2_with (at_builtin; refine wpList_append_run rfl rfl (by simp [Region.wanted]) rfl rfl HR6.out ?_; clear HR6)
        go_roundw
        case rel => exact ⟨j + 1, m + 1, A6, c6, by omega, rfl, by go_num, Lib.hid (by rw [HO.out]; exact HO6.out), Lib.hid (by rw [HO.out, List.length_append, HM.out]; rfl)⟩
        case measure => simp [intOf]; omega
    · have HV2 : Hid (OwnI w wr (.slice Ao m co) (without L who)) := Lib.hid (by have := HV.out; rwa [List.take_of_length_le (by omega)] at this)
      have HM2 : Hid ((without L who).length = m) := Lib.hid (by have := HM.out; rwa [List.take_of_length_le (by omega)] at this)
      clear HV HM
      go_wp2_with fail
      go_ret
      exact ⟨Ao, m, co, rfl, HM2.out, HV2.out⟩

end Go.Proofs.Ytllkegonhghkcaa
