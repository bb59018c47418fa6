/-
  collatorlaw03.pick and collatorlaw03.Lines: of raw numbers, a new list of lines, at most m; which ones, in plain words; nothing that was there is changed.
-/
import Derived.Test.YtmonemgjgcfhlaaMem
namespace Go.Proofs.Ytmonemgjgcfhlaa
open Go.RowKit

/-- what a raw number speaks of -/
def pos (c : Int) : Int := if c < 0 then -(c + 1) else c
def pickI (c n : Int) : Int := pos c % n
theorem pickI_range (c n : Int) (h : 0 < n) : 0 ≤ pickI c n ∧ pickI c n < n := ⟨Int.emod_nonneg _ (by omega), Int.emod_lt_of_pos _ h⟩

set_option maxHeartbeats 400000 in
theorem pick_any (c n : Int) (w : World) (hc1 : -9223372036854775808 ≤ c) (hc2 : c ≤ 9223372036854775807) (hn : 0 < n) (hn2 : n ≤ 140737488355328) :
    Calls Try.prog 26 #[.int .i64 c, .int .i64 n] w fun e w' => e = .returned (.int .i64 (pickI c n)) ∧ w = w' := by
  have h0 : ((n == 0) : Bool) = false := by rw [beq_eq_false_iff_ne]; omega
  by_cases hc : c < 0
  · have hp : 0 ≤ -(c + 1) := by omega
    go_enter Try.func26, Try.ntmps26
    go_wp2
    go_ret
    refine ⟨ret_int ?_, rfl⟩
    unfold pickI pos
    rw [if_pos hc, ← Int.tmod_eq_emod_of_nonneg (by omega), Int.neg_tmod]
  · go_enter Try.func26, Try.ntmps26
    go_wp2
    go_ret
    refine ⟨ret_int ?_, rfl⟩
    unfold pickI pos
    rw [if_neg (by omega)]

/-- the few lines that there are -/
def few : List ByteArray := [⟨#[97, 10]⟩, ⟨#[98, 10]⟩, ⟨#[99, 10]⟩, ⟨#[10]⟩, ⟨#[108, 111, 110, 103, 10]⟩]
def fewAt (z : Int) : ByteArray := few.getD (pickI z 5).toNat ⟨#[]⟩
def plainL (m : Nat) (zs : List Int) : List ByteArray := (zs.take m).map fewAt
def endB : ByteArray := ⟨#[101, 110, 100]⟩
/-- is the last line another one? -/
def lastEnds (m : Nat) (zs : List Int) : Bool := decide (0 < (plainL m zs).length) && decide (pickI (zs.getD ((plainL m zs).length - 1) 0) 7 = 6)
def linesL (m : Nat) (zs : List Int) : List ByteArray := if lastEnds m zs then (plainL m zs).set ((plainL m zs).length - 1) endB else plainL m zs

theorem plainL_length (m : Nat) (zs : List Int) : (plainL m zs).length = min m zs.length := by simp [plainL]
theorem linesL_length (m : Nat) (zs : List Int) : (linesL m zs).length = (plainL m zs).length := by unfold linesL; split <;> simp
theorem plainL_snoc {m : Nat} {zs : List Int} {k : Nat} {z : Int} (hk : k < m) (hz : zs[k]? = some z) : (plainL m zs).take (k + 1) = (plainL m zs).take k ++ [fewAt z] := by
  obtain ⟨hl, rfl⟩ := List.getElem?_eq_some_iff.1 hz
  have h : k < (plainL m zs).length := by rw [plainL_length]; omega
  rw [List.take_succ_eq_append_getElem h]
  simp [plainL]

theorem few_cell {z : Int} : few[(pickI z 5).toNat]? = some (fewAt z) := by
  have h := pickI_range z 5 (by omega)
  have hl : (pickI z 5).toNat < few.length := by simp [few]; omega
  unfold fewAt
  rw [List.getD_eq_getElem?_getD, List.getElem?_eq_getElem hl]
  rfl

theorem linesL_end {m : Nat} {zs : List Int} {p : Nat} {z : Int} (hl : (plainL m zs).length = p + 1) (hz : zs[p]? = some z) (h6 : pickI z 7 = 6) : linesL m zs = (plainL m zs).set p endB := by
  unfold linesL lastEnds
  rw [hl]
  simp [hz, h6]
theorem linesL_plain {m : Nat} {zs : List Int} {p : Nat} {z : Int} (hl : (plainL m zs).length = p + 1) (hz : zs[p]? = some z) (h6 : ¬ pickI z 7 = 6) : linesL m zs = plainL m zs := by
  unfold linesL lastEnds
  rw [hl]
  simp [hz, h6]
theorem strs_grown {w w' : World} {B : Nat} {A : Option Addr} {ss : List ByteArray} {row : Option Nat} (h : Strs w B A ss) (hg : w.grownBy w' row) (hB : B ≤ w.heap.size) (hr : ∀ g, row = some g → B ≤ g) : Strs w' B A ss :=
  h.keep fun p hp => World.cell?_of_block (hg.block p.block (by omega) (fun e => by have := hr _ e.symm; omega))
theorem add_zero_off (b j : Nat) : ((⟨b, 0, none⟩ : Addr).add j) = ⟨b, j, none⟩ := by
  by_cases hj0 : j = 0 <;> simp [Addr.add, hj0]

set_option maxHeartbeats 4000000 in
set_option maxRecDepth 100000 in
theorem lines_any (m : Nat) (hm0 : m ≤ 1000) (hm1 : 0 < m) (A : Option Addr) (zs : List Int) (c : Nat) (w : World) (ha : Ints w w.heap.size A zs) (h1 : zs.length ≤ 140737488355328) (hz : ∀ z ∈ zs, -9223372036854775808 ≤ z ∧ z ≤ 9223372036854775807) :
    Calls Try.prog 11 #[.slice A zs.length c, .int .i64 m] w fun e w' => ∃ A' c', e = .returned (.slice A' (linesL m zs).length c') ∧ w'.ownsRow (w.heap.size + 1) 9 1 (.slice A' (linesL m zs).length c') (linesL m zs).length ((linesL m zs).map .string) ∧ Below w.heap.size w w' := by
  have HZ := Lib.hid hz
  clear hz
  have hf := strs_new w few
  have hB0 : Below w.heap.size w (w.alloc (.cells (few.map Value.string).toArray 9)) := (Below.refl _ w).alloc (Nat.le_refl _) _
  go_enter Try.func11, Try.ntmps11
  go_wp2
  go_loopw [6, 7] (fun v i wr => ∃ k : Nat, k ≤ zs.length ∧ k ≤ m ∧ i = .int .i64 k ∧ w.heap.size + 1 ≤ wr.heap.size ∧ wr.ownsRow (w.heap.size + 1) 9 1 v k (((plainL m zs).take k).map .string) ∧ Strs wr (w.heap.size + 1) (some ⟨w.heap.size, 0, none⟩) few ∧ Below w.heap.size w wr) (fun _ i _ => m - (intOf i).toNat)
  case atStart => exact ⟨0, Nat.zero_le _, Nat.zero_le _, rfl, by simp, World.ownsRow_nil _ _ _ _, hf, hB0⟩
  case round =>
    obtain ⟨k, hk1, hk2, rfl, hwz, hown, hF, hB⟩ := hrel
    clear hf hB0
    by_cases g1 : k < zs.length
    · by_cases g2 : k < m
      · obtain ⟨a, rfl, hab, hca0⟩ := (ha.below hB).at_ g1
        obtain ⟨z, hz⟩ : ∃ z, z = zs[k] := ⟨_, rfl⟩
        have hca : wr.cell? (a.add k) = some (.int .i64 z) := by rw [hz]; exact hca0
        have hzr : -9223372036854775808 ≤ z ∧ z ≤ 9223372036854775807 := HZ.out z (by rw [hz]; exact List.getElem_mem _)
        obtain ⟨hz1, hz2⟩ := hzr
        have HK := Lib.hid (at_getD g1 hz)
        clear hca0 hz
        obtain ⟨hp1, hp2⟩ := pickI_range z 5 (by omega)
        have hcx : wr.cell? ⟨w.heap.size, (pickI z 5).toNat, none⟩ = some (.string (fewAt z)) := by
          obtain ⟨a', e', _, hcell⟩ := hF (by simp [few])
          injection e' with e'
          subst e'
          rw [← hcell _ _ few_cell, add_zero_off]
        have g2' : (k : Int) < m := by omega
        have hbw := hB.size
        have HS := Lib.hid (plainL_snoc g2 HK.out)
        obtain ⟨A7, c7, w7, hrun7, hown7, hg7⟩ := run_append_strs (wr.alloc (.cells #[.string (fewAt z)] 9)) (w.heap.size + 1) _ k _ (hown.alloc _) (wr.heap.size + 1) (some ⟨wr.heap.size, 0, none⟩) 1 1 [fewAt z] (strs_new wr [fewAt z]) rfl (by omega) (by simp; omega)
        have HR7 := Lib.hid hrun7
        clear hrun7
        go_wp2_with (first
          | (go_at_call 26; refine (pick_any _ _ _ hz1 hz2 (by omega) (by omega)).mono ?_; rintro e w' ⟨rfl, rfl⟩)
          | (at_builtin; refine wpList_append_run rfl rfl (by simp [Region.wanted]) rfl rfl HR7.out ?_))
        go_roundw
        case rel => exact ⟨k + 1, by omega, by omega, by go_num, by have := hg7.size; simp at this; omega, by rw [HS.out]; simpa using hown7, strs_grown (hF.alloc hwz _) hg7 (by simp; omega) (fun g hg => (hown.lt g hg).1), (hB.alloc hbw _).grown hg7 (by simp; omega) (fun g hg => by have := (hown.lt g hg).1; omega)⟩
        case measure => simp [intOf]; omega
      · have g1' : decide (k < zs.length) = true := by simpa using g1
        have g2' : ¬ (k : Int) < m := by omega
        have hkl : (plainL m zs).length = k := by rw [plainL_length]; omega
        obtain ⟨A6, c6, rfl, hc6, _⟩ := row_shape hown
        rw [show (plainL m zs).take k = plainL m zs from List.take_of_length_le (by omega)] at hown
        have HKL := Lib.hid hkl
        clear hkl
        rcases Nat.eq_zero_or_pos k with k0 | k0
        · exact absurd k0 (by omega)
        · obtain ⟨p, rfl⟩ : ∃ p, k = p + 1 := ⟨k - 1, by omega⟩
          have gp : p < zs.length := by omega
          obtain ⟨a, rfl, hab, hca0⟩ := (ha.below hB).at_ gp
          obtain ⟨z, hz⟩ : ∃ z, z = zs[p] := ⟨_, rfl⟩
          have hca : wr.cell? (a.add p) = some (.int .i64 z) := by rw [hz]; exact hca0
          have hzr : -9223372036854775808 ≤ z ∧ z ≤ 9223372036854775807 := HZ.out z (by rw [hz]; exact List.getElem_mem _)
          obtain ⟨hz1, hz2⟩ := hzr
          have HK := Lib.hid (at_getD gp hz)
          clear hca0 hz
          obtain ⟨g, cap, hv, hgl, hgt⟩ := hown.form (Nat.succ_pos p)
          injection hv with hv1 hv2 hv3
          subst hv1 hv3
          by_cases h6 : pickI z 7 = 6
          · have e6 : ((pickI z 7 == 6) : Bool) = true := by simpa using h6
            have hst := hown.stored p (.string endB)
            have hfz := hown.frozenAt p
            have hcp := hown.cellAt p (by omega)
            obtain ⟨u, hu⟩ : ∃ u, wr.cell? ⟨g, p, none⟩ = some u := by
              rw [hcp, List.getElem?_eq_getElem (by rw [List.length_map, HKL.out]; omega)]; exact ⟨_, rfl⟩
            have HL := Lib.hid (linesL_end HKL.out HK.out h6)
            clear h6 hcp
            go_wp2_with (go_at_call 26; refine (pick_any _ _ _ hz1 hz2 (by omega) (by omega)).mono ?_; rintro e w' ⟨rfl, rfl⟩)
            go_ret
            rw [HL.out, List.length_set, HKL.out]
            exact ⟨_, _, rfl, by rw [List.map_set]; exact hst.1, hB.grown hst.2 (by omega) (fun k hk => by injection hk with hk; omega)⟩
          · have e6 : ((pickI z 7 == 6) : Bool) = false := by simpa using h6
            have HL := Lib.hid (linesL_plain HKL.out HK.out h6)
            clear h6
            go_wp2_with (go_at_call 26; refine (pick_any _ _ _ hz1 hz2 (by omega) (by omega)).mono ?_; rintro e w' ⟨rfl, rfl⟩)
            go_ret
            rw [HL.out, HKL.out]
            exact ⟨_, _, rfl, hown, hB⟩
    · have g1' : decide (k < zs.length) = false := by simpa using g1
      have hkl : (plainL m zs).length = k := by rw [plainL_length]; omega
      obtain ⟨A6, c6, rfl, hc6, _⟩ := row_shape hown
      rw [show (plainL m zs).take k = plainL m zs from List.take_of_length_le (by omega)] at hown
      have HKL := Lib.hid hkl
      clear hkl
      rcases Nat.eq_zero_or_pos k with k0 | k0
      · subst k0
        go_wp2
        go_ret
        have e : linesL m zs = plainL m zs := by unfold linesL lastEnds; rw [HKL.out]; rfl
        rw [e, HKL.out]
        exact ⟨A6, c6, rfl, hown, hB⟩
      · obtain ⟨p, rfl⟩ : ∃ p, k = p + 1 := ⟨k - 1, by omega⟩
        have gp : p < zs.length := by omega
        obtain ⟨a, rfl, hab, hca0⟩ := (ha.below hB).at_ gp
        obtain ⟨z, hz⟩ : ∃ z, z = zs[p] := ⟨_, rfl⟩
        have hca : wr.cell? (a.add p) = some (.int .i64 z) := by rw [hz]; exact hca0
        have hzr : -9223372036854775808 ≤ z ∧ z ≤ 9223372036854775807 := HZ.out z (by rw [hz]; exact List.getElem_mem _)
        obtain ⟨hz1, hz2⟩ := hzr
        have HK := Lib.hid (at_getD gp hz)
        clear hca0 hz
        obtain ⟨g, cap, hv, hgl, hgt⟩ := hown.form (Nat.succ_pos p)
        injection hv with hv1 hv2 hv3
        subst hv1 hv3
        by_cases h6 : pickI z 7 = 6
        · have e6 : ((pickI z 7 == 6) : Bool) = true := by simpa using h6
          have hst := hown.stored p (.string endB)
          have hfz := hown.frozenAt p
          have hcp := hown.cellAt p (by omega)
          obtain ⟨u, hu⟩ : ∃ u, wr.cell? ⟨g, p, none⟩ = some u := by
            rw [hcp, List.getElem?_eq_getElem (by rw [List.length_map, HKL.out]; omega)]; exact ⟨_, rfl⟩
          have HL := Lib.hid (linesL_end HKL.out HK.out h6)
          clear h6 hcp
          go_wp2_with (go_at_call 26; refine (pick_any _ _ _ hz1 hz2 (by omega) (by omega)).mono ?_; rintro e w' ⟨rfl, rfl⟩)
          go_ret
          rw [HL.out, List.length_set, HKL.out]
          exact ⟨_, _, rfl, by rw [List.map_set]; exact hst.1, hB.grown hst.2 (by omega) (fun k hk => by injection hk with hk; omega)⟩
        · have e6 : ((pickI z 7 == 6) : Bool) = false := by simpa using h6
          have HL := Lib.hid (linesL_plain HKL.out HK.out h6)
          clear h6
          go_wp2_with (go_at_call 26; refine (pick_any _ _ _ hz1 hz2 (by omega) (by omega)).mono ?_; rintro e w' ⟨rfl, rfl⟩)
          go_ret
          rw [HL.out, HKL.out]
          exact ⟨_, _, rfl, hown, hB⟩

end Go.Proofs.Ytmonemgjgcfhlaa
