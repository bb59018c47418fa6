/-
  Package cache: may, roomOf, partOf, counted, and tally's count: what each returns; nothing that was there is changed, but for the count that is counted.
-/
import Derived.Test.YtjifmfgfmciaeaaOk
import Derived.StillTailTactics
import Derived.Lib.MinMax
namespace Go.Proofs.Ytjifmfgfmciaeaa
open Go.RowKit

set_option maxHeartbeats 1000000 in
theorem may_any (p r w : Int) (W : World) : Calls Try.prog 25 #[.int .i64 p, .int .i64 r, .int .i64 w] W fun e w' => e = .returned (.bool (fitsB p r w)) ∧ W = w' := by
  by_cases h1 : 1 ≤ p
  · by_cases h2 : p ≤ 16
    · by_cases h3 : 0 ≤ r
      · by_cases h4 : r ≤ 4096
        · by_cases h5 : 0 ≤ w
          · by_cases h6 : w ≤ 64
            · go_enter Try.func25, Try.ntmps25
              go_wp2
              go_ret
              exact ⟨fits_eq (decide_eq_true ⟨h1, h2, h3, h4, h5, h6⟩), rfl⟩
            · go_enter Try.func25, Try.ntmps25
              go_wp2
              go_ret
              exact ⟨fits_eq (decide_eq_false (by omega)), rfl⟩
          · go_enter Try.func25, Try.ntmps25
            go_wp2
            go_ret
            exact ⟨fits_eq (decide_eq_false (by omega)), rfl⟩
        · go_enter Try.func25, Try.ntmps25
          go_wp2
          go_ret
          exact ⟨fits_eq (decide_eq_false (by omega)), rfl⟩
      · go_enter Try.func25, Try.ntmps25
        go_wp2
        go_ret
        exact ⟨fits_eq (decide_eq_false (by omega)), rfl⟩
    · go_enter Try.func25, Try.ntmps25
      go_wp2
      go_ret
      exact ⟨fits_eq (decide_eq_false (by omega)), rfl⟩
  · go_enter Try.func25, Try.ntmps25
    go_wp2
    go_ret
    exact ⟨fits_eq (decide_eq_false (by omega)), rfl⟩
set_option maxHeartbeats 1000000 in
theorem roomOf_any (wd rm h m cl ev : Int) (A : Option Addr) (n cap i : Nat) (W : World) (hn : 1 ≤ n) (hn2 : n ≤ 1000) (hr : 0 ≤ rm) (hr2 : rm ≤ 4096) :
    Calls Try.prog 42 #[.agg #[.int .i64 wd, .int .i64 rm, .slice A n cap, .int .i64 h, .int .i64 m, .int .i64 cl, .int .i64 ev], .int .i64 (i : Nat)] W fun e w' => e = .returned (.int .i64 (roomN n rm i : Nat)) ∧ Below W.heap.size W w' := by
  obtain ⟨r, rfl⟩ := Int.eq_ofNat_of_zero_le hr
  have hr3 : r ≤ 4096 := by omega
  have h0 : ((n == 0) : Bool) = false := by rw [beq_eq_false_iff_ne]; omega
  have hm : r % n < n := Nat.mod_lt _ (by omega)
  have hd : r / n ≤ r := Nat.div_le_self _ _
  have b1 : 0 ≤ (r : Int) / (n : Int) := Int.ediv_nonneg (by omega) (by omega)
  have b2 : (r : Int) / (n : Int) ≤ 4096 := by rw [← Int.natCast_ediv]; omega
  have em : (r : Int) % (n : Int) = ((r % n : Nat) : Int) := (Int.natCast_emod r n).symm
  by_cases hlt : i < r % n
  · have t1 : decide ((i : Int) < (r : Int) % (n : Int)) = true := by rw [em]; exact decide_eq_true (by omega)
    have hR : Hid ((roomN n (r : Int) i : Nat) = (r : Int) / (n : Int) + 1) := Lib.hid (by unfold roomN; rw [Int.toNat_natCast, if_pos hlt, Int.natCast_add, Int.natCast_ediv]; rfl)
    clear em hlt hm hd
    go_enter Try.func42, Try.ntmps42
    go_wp2
    go_ret
    exact ⟨ret_int (by rw [hR.out]), (Below.refl _ _).alloc (Nat.le_refl _) _⟩
  · have t1 : decide ((i : Int) < (r : Int) % (n : Int)) = false := by rw [em]; exact decide_eq_false (by omega)
    have hR : Hid ((roomN n (r : Int) i : Nat) = (r : Int) / (n : Int)) := Lib.hid (by unfold roomN; rw [Int.toNat_natCast, if_neg hlt, Nat.add_zero, Int.natCast_ediv])
    clear em hlt hm hd
    go_enter Try.func42, Try.ntmps42
    go_wp2
    go_ret
    exact ⟨ret_int (by rw [hR.out]), (Below.refl _ _).alloc (Nat.le_refl _) _⟩

set_option maxHeartbeats 1000000 in
theorem partOf_any (wd rm h m cl ev : Int) (A : Option Addr) (n cap : Nat) (ks kl : Int) (W : World) (hn : 1 ≤ n) (hn2 : n ≤ 1000) (hk : (Lit.int .u64 ks).wf = true) :
    Calls Try.prog 40 #[.agg #[.int .i64 wd, .int .i64 rm, .slice A n cap, .int .i64 h, .int .i64 m, .int .i64 cl, .int .i64 ev], .agg #[.int .u64 ks, .int .i64 kl]] W fun e w' => e = .returned (.int .i64 (partN n (ks, kl) : Nat)) ∧ Below W.heap.size W w' := by
  obtain ⟨k1, k2⟩ : 0 ≤ ks ∧ ks ≤ 18446744073709551615 := by
    have e1 : IntKind.u64.min = 0 := by decide
    have e2 : IntKind.u64.max = 18446744073709551615 := by decide
    have : (decide (_ ≤ ks) && decide (ks ≤ _)) = true := hk
    rw [e1, e2, Bool.and_eq_true, decide_eq_true_eq, decide_eq_true_eq] at this
    exact this
  clear hk
  obtain ⟨k, rfl⟩ := Int.eq_ofNat_of_zero_le k1
  have h0 : ((n == 0) : Bool) = false := by rw [beq_eq_false_iff_ne]; omega
  have hP : Hid ((partN n ((k : Int), kl) : Nat) = (k : Int) % (n : Int)) := Lib.hid (by unfold partN; rw [Int.toNat_natCast, Int.natCast_emod])
  have hm : (k : Int) % (n : Int) < n := Int.emod_lt_of_pos _ (by omega)
  have hm0 : 0 ≤ (k : Int) % (n : Int) := Int.emod_nonneg _ (by omega)
  go_enter Try.func40, Try.ntmps40
  go_wp2
  go_ret
  exact ⟨ret_int (by rw [hP.out]), ((Below.refl _ _).alloc (Nat.le_refl _) _).alloc (by simp) _⟩


/-! ### counts -/
def zcell (z : Int) : List Value := [.int .i64 z]
theorem z_len : ∀ z : Int, (zcell z).length = 1 := fun _ => rfl
abbrev IntsAt (w : World) (A : Option Addr) (L : List Int) : Prop := RowAt zcell 1 w A L
theorem countB_iff {n : Int} : countB n = true ↔ 0 ≤ n ∧ n ≤ 1099511627776 := by unfold countB maxC; exact decide_eq_true_iff
set_option maxHeartbeats 1000000 in
theorem counted_any (A : Option Addr) (L : List Int) (n c : Nat) (w : World) (ha : IntsAt w A L) (hn : L.length = n) (h1 : L.length ≤ 1000) :
    Calls Try.prog 28 #[.slice A n c] w fun e w' => e = .returned (.bool (L.all countB)) ∧ w = w' := by
  subst hn
  have HA := Lib.hid ha
  clear ha
  go_enter Try.func28, Try.ntmps28
  go_wp2_with fail
  go_loopw [7] (fun i wr => ∃ k : Nat, k ≤ L.length ∧ i = .int .i64 k ∧ Hid (∀ j z, j < k → L[j]? = some z → countB z = true) ∧ w = wr) (fun i _ => L.length - (intOf i).toNat)
  case atStart => exact ⟨0, Nat.zero_le _, rfl, Lib.hid (fun j z h => absurd h (Nat.not_lt_zero _)), rfl⟩
  case round =>
    obtain ⟨k, hk, rfl, HK, rfl⟩ := hrel
    by_cases g1 : k < L.length
    · obtain ⟨z, hz⟩ : ∃ z, L[k]? = some z := ⟨_, List.getElem?_eq_getElem g1⟩
      obtain ⟨a, rfl, hal, hc⟩ := HA.out.at_ hz
      have hcell := hc 0 _ rfl
      rw [Nat.mul_one, Nat.add_zero] at hcell
      have HZ := Lib.hid hz
      clear hz hc
      by_cases t1 : z < 0
      · have HF : Hid (L.all countB = false) := Lib.hid (by
          rw [List.all_eq_false]
          exact ⟨z, List.mem_of_getElem? HZ.out, fun h => by have := countB_iff.1 h; omega⟩)
        go_wp2_with fail
        go_ret
        exact ⟨ret_bool HF.out.symm, rfl⟩
      · by_cases t2 : z > 1099511627776
        · have HF : Hid (L.all countB = false) := Lib.hid (by
            rw [List.all_eq_false]
            exact ⟨z, List.mem_of_getElem? HZ.out, fun h => by have := countB_iff.1 h; omega⟩)
          go_wp2_with fail
          go_ret
          exact ⟨ret_bool HF.out.symm, rfl⟩
        · have HN : Hid (∀ j y, j < k + 1 → L[j]? = some y → countB y = true) := Lib.hid fun j y hj hy => by
            by_cases e : j = k
            · subst e
              rw [HZ.out] at hy
              injection hy with hy
              subst hy
              exact countB_iff.2 ⟨by omega, by omega⟩
            · exact HK.out j y (by omega) hy
          go_wp2_with fail
          go_roundw
          case rel => exact ⟨k + 1, by omega, by go_num, HN, by trivial⟩
          case measure => simp [intOf]; omega
    · obtain rfl : k = L.length := by omega
      have HF : Hid (L.all countB = true) := Lib.hid (by
        rw [List.all_eq_true]
        intro z hz
        obtain ⟨j, hj⟩ := List.getElem?_of_mem hz
        exact HK.out j z (List.getElem?_eq_some_iff.1 hj).1 hj)
      go_wp2_with fail
      go_ret
      exact ⟨ret_bool HF.out.symm, rfl⟩

/-- one more is counted, in the place that the method value holds -/
theorem count_any (g j : Nat) (n : Int) (t : TypeId) (cs : Array Value) (w : World) (hb : Blk w g t cs) (hj : cs[j]? = some (.int .i64 n)) (h0 : 0 ≤ n ∧ n ≤ maxC) :
    Calls Try.prog 43 #[.agg #[.pointer (some ⟨g, j, none⟩)]] w fun e w' => e = .returned (.tuple #[]) ∧ ∃ w1, Below w.heap.size w w1 ∧ w' = w1.setCell ⟨g, j, none⟩ (.int .i64 (more n 1)) := by
  obtain ⟨b1, b2⟩ := h0
  unfold maxC at b2
  have hlt := hb.lt
  have hal : Below w.heap.size w (w.alloc (.cells #[.pointer (some ⟨g, j, none⟩)] 82)) := (Below.refl _ _).alloc (Nat.le_refl _) _
  have hb2 := Blk.below hb hal hlt
  have y := (Blk.cell hb2 j).trans hj
  have z := Blk.frozen hb2 j
  have hw1 : IntKind.i64.wrap (n + 1) = n + 1 := IntWalk.i64_in _ (by omega)
  have hmn : min (n + 1) 1099511627776 = more n 1 := by unfold more maxC; rfl
  obtain ⟨m, hm⟩ : ∃ m, more n 1 = m := ⟨_, rfl⟩
  rw [hm] at hmn
  have HM := Lib.hid hm
  clear hm
  go_enter Try.func43, Try.ntmps43
  go_wp2_with fail
  have hbx := Blk.new w 82 #[.pointer (some ⟨g, j, none⟩)]
  have hne : g ≠ w.heap.size := by omega
  obtain ⟨h, hh⟩ : ∃ h, h = w.heap.size := ⟨_, rfl⟩
  obtain ⟨w1, hw⟩ : ∃ w1, w1 = (w.alloc (.cells #[.pointer (some ⟨g, j, none⟩)] 82)) := ⟨_, rfl⟩
  rw [← hw] at hbx hal hb2 y z ⊢
  rw [← hh] at hbx hne ⊢
  have HAL := Lib.hid hal
  have hlt1 := hb2.lt
  clear hw hh hal hb2 hb hj
  have x9 : w1.cell? ⟨h, 0, none⟩ = some (.pointer (some ⟨g, j, none⟩)) := Blk.cell hbx 0
  have x0 : ({w1 with drawn := w1.drawn + 1} : World).cell? ⟨h, 0, none⟩ = some (.pointer (some ⟨g, j, none⟩)) := Blk.cell hbx 0
  have y0 : ({w1 with drawn := w1.drawn + 1} : World).cell? ⟨g, j, none⟩ = some (.int .i64 n) := y
  go_still_tail 9, (by kernel_rfl)
  change wpList _ _ _ _ _ w1.drew
  have y1 : w1.drew.cell? ⟨g, j, none⟩ = some (.int .i64 n) := y
  have z1 : w1.drew.frozen? ⟨g, j, none⟩ = false := z
  have HD : Hid (Below w.heap.size w w1.drew) := Lib.hid HAL.out.drew
  obtain ⟨w2, hw2⟩ : ∃ w2, w2 = w1.drew := ⟨_, rfl⟩
  rw [← hw2] at y1 z1 HD ⊢
  clear hw2 x0 y0
  go_wp2_with fail
  refine bodyPost_end (results_none rfl _ _ _) rfl ?_
  exact ⟨rfl, w2, HD.out, by rw [HM.out]⟩

end Go.Proofs.Ytjifmfgfmciaeaa
