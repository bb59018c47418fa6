/-
  collatorlaw05.MyersEnds: whatever the raw numbers, it returns true; nothing that was there is changed.
-/
import Derived.Test.YtmonemgjgcfhlaaEdits
namespace Go.Proofs.Ytmonemgjgcfhlaa
open Go.RowKit

theorem kept_small (a : List ByteArray) : ∀ e ∈ kept a, e.lines.length ≤ 65536 := by
  intro e he
  unfold kept at he
  split at he
  · cases he
  · simp at he; subst he; simp

set_option maxHeartbeats 2000000 in
set_option maxRecDepth 100000 in
theorem ends_walk (A B : Option Addr) (xs ys : List Int) (pa pb : Nat) (w : World) (ha : Ints w w.heap.size A xs) (hb : Ints w w.heap.size B ys) (h1 : xs.length ≤ 140737488355328) (h2 : ys.length ≤ 140737488355328)
    (hx : ∀ z ∈ xs, -9223372036854775808 ≤ z ∧ z ≤ 9223372036854775807) (hy : ∀ z ∈ ys, -9223372036854775808 ≤ z ∧ z ≤ 9223372036854775807) :
    Calls Try.prog 6 #[.slice A xs.length pa, .slice B ys.length pb] w fun e w' => e = .returned (.bool true) ∧ Below w.heap.size w w' := by
  have HX := Lib.hid hx
  have HY := Lib.hid hy
  clear hx hy
  go_enter Try.func6, Try.ntmps6
  go_wp2_with fail
  refine (awake_any _).mono ?_
  rintro e w1 ⟨rfl, hb1⟩
  go_wp2_with fail
  refine (lines_at 20 20 rfl (by omega) (by omega) _ xs _ _ (up_of' ha hb1) h1 HX.out).mono ?_
  rintro e wa ⟨Aa, ca, rfl, hoa, hca, hbn⟩
  replace hb1 := hb1.trans (hbn.mono hb1.size)
  clear hbn
  go_wp2_with fail
  refine (lines_at 20 20 rfl (by omega) (by omega) _ ys _ _ (up_of' hb hb1) h2 HY.out).mono ?_
  rintro e wb ⟨Ab, cb, rfl, hob, hcb, hbn⟩
  replace hb1 := hb1.trans (hbn.mono hb1.size)
  replace hoa := hoa.up2 hbn
  clear hbn
  have hla := lines_len 20 xs
  have hlb := lines_len 20 ys
  have HFa := Lib.hid (lines_fit (m := 20) xs)
  have HFb := Lib.hid (lines_fit (m := 20) ys)
  have HGa := Lib.hid (lines_fit' (m := 20) xs)
  have HGb := Lib.hid (lines_fit' (m := 20) ys)
  generalize linesL 20 xs = a at *
  generalize linesL 20 ys = b at *
  clear ha hb HX HY
  obtain ⟨X, hX⟩ : ∃ X, X = a ++ b := ⟨_, rfl⟩
  have hXl : X.length = a.length + b.length := by rw [hX, List.length_append]
  obtain ⟨A1, c1, w2, hr1, hq1⟩ := append_own (Own.nil wb) a.length ca hoa rfl a rfl (by omega)
  obtain ⟨AX, cX, wX, hr2, hq2⟩ := append_own hq1 b.length cb (hob.below hq1.2) rfl X hX (by omega)
  have HR1 := Lib.hid hr1
  have HR2 := Lib.hid hr2
  have HX := Lib.hid hX
  have HXL := Lib.hid hXl
  have hXb : X.length ≤ 40 := by omega
  have hbn := hq2.2
  replace hoa := hoa.up2 hbn
  replace hob := hob.up2 hbn
  replace hb1 := hb1.trans (hbn.mono hb1.size)
  have hoX := hq2.strs
  have hFX : ∀ s ∈ X, s.size ≤ maxLen := fun s hs => by
    rw [hX] at hs
    rcases List.mem_append.1 hs with h | h
    · exact HFa.out s h
    · exact HFb.out s h
  have hGX : ∀ s ∈ X, s.size ≤ 140737488355328 := fun s hs => by
    rw [hX] at hs
    rcases List.mem_append.1 hs with h | h
    · exact HGa.out s h
    · exact HGb.out s h
  have HFX := Lib.hid hFX
  have HGX := Lib.hid hGX
  have HW1 : Hid (grp [] (Pm.way a X) = kept a ++ if b = [] then [] else [⟨3, b.length, b⟩]) := Lib.hid (by rw [hX]; exact way_more a b)
  have HW2 : Hid (grp [] (Pm.way X a) = kept a ++ if b = [] then [] else [⟨2, b.length, []⟩]) := Lib.hid (by rw [hX]; exact way_less a b)
  have HCM : Hid (((a.length : Int) + X.length - (Pm.ed a X : Nat)) / 2 = (a.length : Int)) := Lib.hid (by rw [hX, ed_more, List.length_append]; omega)
  have HC1 : Hid (((Pm.ed a [] : Nat) : Int) = (a.length : Int)) := Lib.hid (by rw [Pm.ed_nil'])
  have HC2 : Hid (((Pm.ed [] b : Nat) : Int) = (b.length : Int)) := Lib.hid (by rw [Pm.ed_nil])
  clear hr1 hr2 hX hXl hq1 hq2 hbn hFX hGX
  by_cases ga : a = []
  · rw [show kept a = [] from by unfold kept; rw [if_pos ga]] at HW1 HW2
    have da : decide (0 < a.length) = false := by rw [ga]; rfl
    have ia : ¬ (0 : Int) < (a.length : Int) := by rw [ga]; simp
    clear ga
    by_cases gb : b = []
    · rw [if_pos gb] at HW1 HW2
      have db : decide (0 < b.length) = false := by rw [gb]; rfl
      have ib : ¬ (0 : Int) < (b.length : Int) := by rw [gb]; simp
      clear gb
      have hT0 := TwoE.nil wX
      have heA : Eds _ _ _ [] := hT0.eds
      have heC : Eds _ _ _ [] := hT0.swap.eds
      have hbn := hT0.below
      replace hoa := hoa.up2 hbn
      replace hob := hob.up2 hbn
      replace hoX := hoX.up2 hbn
      replace hb1 := hb1.trans (hbn.mono hb1.size)
      clear hbn hT0
      have HS1 : Hid (∀ e ∈ ([] : List Edt), e.lines.length ≤ 65536) := Lib.hid (by simp)
      have HS2 : Hid (∀ e ∈ ([] : List Edt), e.lines.length ≤ 65536) := Lib.hid (by simp)
      go_wp2_with (first
        | (at_builtin; refine wpList_append_run (o := ⟨some 17, _, _, _, _, _⟩) rfl rfl (by simp [Region.wanted]) rfl rfl HR1.out ?_)
        | (at_builtin; refine wpList_append_run (o := ⟨some 19, _, _, _, _, _⟩) rfl rfl (by simp [Region.wanted]) rfl rfl HR2.out ?_))
      refine (diff_at Aa AX a X a.length X.length ca cX 0 [] _ hoa hoX rfl rfl (by omega) HFa.out HGX.out HW1.out rfl).mono ?_
      rintro e v1 ⟨D1, k1, rfl, hE1, hbn⟩
      replace hoa := hoa.up2 hbn
      replace hob := hob.up2 hbn
      replace hoX := hoX.up2 hbn
      replace heA := heA.up hbn
      replace heC := heC.up hbn
      replace hb1 := hb1.trans (hbn.mono hb1.size)
      clear hbn
      go_wp2_with fail
      refine (same_at D1 _ [] 0 _ _ _ hE1 heA rfl (by omega) HS1.out).mono ?_
      rintro e v2 ⟨rfl, hbn⟩
      replace hoa := hoa.up2 hbn
      replace hob := hob.up2 hbn
      replace hoX := hoX.up2 hbn
      replace heC := heC.up hbn
      replace hb1 := hb1.trans (hbn.mono hb1.size)
      clear hbn hE1 heA
      go_wp2_with fail
      refine (diff_at AX Aa X a X.length a.length cX ca 0 [] _ hoX hoa rfl rfl (by omega) HFX.out HGa.out HW2.out rfl).mono ?_
      rintro e v3 ⟨D2, k2, rfl, hE2, hbn⟩
      replace hoa := hoa.up2 hbn
      replace hob := hob.up2 hbn
      replace hoX := hoX.up2 hbn
      replace heC := heC.up hbn
      replace hb1 := hb1.trans (hbn.mono hb1.size)
      clear hbn
      go_wp2_with fail
      refine (same_at D2 _ [] 0 _ _ _ hE2 heC rfl (by omega) HS2.out).mono ?_
      rintro e v4 ⟨rfl, hbn⟩
      replace hoa := hoa.up2 hbn
      replace hob := hob.up2 hbn
      replace hoX := hoX.up2 hbn
      replace hb1 := hb1.trans (hbn.mono hb1.size)
      clear hbn hE2 heC
      go_wp2_with fail
      refine (cost_at' Aa none a [] a.length 0 ca 0 (a.length : Int) _ hoa Strs.nil rfl rfl (by omega) HFa.out (by simp) HC1.out).mono ?_
      rintro e v5 ⟨rfl, hbn⟩
      replace hoa := hoa.up2 hbn
      replace hob := hob.up2 hbn
      replace hoX := hoX.up2 hbn
      replace hb1 := hb1.trans (hbn.mono hb1.size)
      clear hbn
      go_wp2_with fail
      refine (cost_at' none Ab [] b 0 b.length 0 cb (b.length : Int) _ Strs.nil hob rfl rfl (by omega) (by simp) HFb.out HC2.out).mono ?_
      rintro e v6 ⟨rfl, hbn⟩
      replace hoa := hoa.up2 hbn
      replace hoX := hoX.up2 hbn
      replace hb1 := hb1.trans (hbn.mono hb1.size)
      clear hbn
      go_wp2_with fail
      refine (common_at' Aa AX a X a.length X.length ca cX (a.length : Int) _ hoa hoX rfl rfl (by omega) HFa.out HFX.out HCM.out).mono ?_
      rintro e v7 ⟨rfl, hbn⟩
      replace hb1 := hb1.trans (hbn.mono hb1.size)
      clear hbn
      go_wp2_with fail
      go_ret
      exact ⟨rfl, hb1⟩
    · rw [if_neg gb] at HW1 HW2
      have db : decide (0 < b.length) = true := decide_eq_true (List.length_pos_iff.2 gb)
      have jb : 0 < b.length := List.length_pos_iff.2 gb
      clear gb
      have hT0 := TwoE.nil wX
      obtain ⟨Pe3, qe3, we3, hr, hTe30⟩ := (hT0).push ⟨3, b.length, Ab, cb, b⟩ (by first | exact Strs.nil | exact hob) 1 rfl (by omega)
      simp only [MEd.val] at hr
      have HRe3 := Lib.hid hr
      clear hr
      have hTe3 := hTe30
      clear hTe30
      obtain ⟨Pe4, qe4, we4, hr, hTe40⟩ := (hTe3.swap).push ⟨2, b.length, none, 0, []⟩ (by first | exact Strs.nil | exact hob) 1 rfl (by omega)
      simp only [MEd.val, List.length_nil] at hr
      have HRe4 := Lib.hid hr
      clear hr
      have hTe4 := hTe40.swap
      clear hTe40
      have heA : Eds _ _ _ [⟨3, b.length, b⟩] := hTe4.eds
      have heC : Eds _ _ _ [⟨2, b.length, []⟩] := hTe4.swap.eds
      have hbn := hTe4.below
      replace hoa := hoa.up2 hbn
      replace hob := hob.up2 hbn
      replace hoX := hoX.up2 hbn
      replace hb1 := hb1.trans (hbn.mono hb1.size)
      clear hbn hTe3 hTe4 hT0
      have HS1 : Hid (∀ e ∈ ([⟨3, b.length, b⟩] : List Edt), e.lines.length ≤ 65536) := Lib.hid (by intro e he; simp at he; subst he; simp; try omega)
      have HS2 : Hid (∀ e ∈ ([⟨2, b.length, []⟩] : List Edt), e.lines.length ≤ 65536) := Lib.hid (by intro e he; simp at he; subst he; simp)
      go_wp2_with (first
        | (at_builtin; refine wpList_append_run (o := ⟨some 17, _, _, _, _, _⟩) rfl rfl (by simp [Region.wanted]) rfl rfl HR1.out ?_)
        | (at_builtin; refine wpList_append_run (o := ⟨some 19, _, _, _, _, _⟩) rfl rfl (by simp [Region.wanted]) rfl rfl HR2.out ?_)
        | (at_builtin; refine wpList_append_run (o := ⟨some 44, _, _, _, _, _⟩) rfl rfl (by simp [Region.wanted]) rfl rfl HRe3.out ?_)
        | (at_builtin; refine wpList_append_run (o := ⟨some 50, _, _, _, _, _⟩) rfl rfl (by simp [Region.wanted]) rfl rfl HRe4.out ?_))
      refine (diff_at Aa AX a X a.length X.length ca cX 1 [⟨3, b.length, b⟩] _ hoa hoX rfl rfl (by omega) HFa.out HGX.out HW1.out rfl).mono ?_
      rintro e v1 ⟨D1, k1, rfl, hE1, hbn⟩
      replace hoa := hoa.up2 hbn
      replace hob := hob.up2 hbn
      replace hoX := hoX.up2 hbn
      replace heA := heA.up hbn
      replace heC := heC.up hbn
      replace hb1 := hb1.trans (hbn.mono hb1.size)
      clear hbn
      go_wp2_with fail
      refine (same_at D1 _ [⟨3, b.length, b⟩] 1 _ _ _ hE1 heA rfl (by omega) HS1.out).mono ?_
      rintro e v2 ⟨rfl, hbn⟩
      replace hoa := hoa.up2 hbn
      replace hob := hob.up2 hbn
      replace hoX := hoX.up2 hbn
      replace heC := heC.up hbn
      replace hb1 := hb1.trans (hbn.mono hb1.size)
      clear hbn hE1 heA
      go_wp2_with fail
      refine (diff_at AX Aa X a X.length a.length cX ca 1 [⟨2, b.length, []⟩] _ hoX hoa rfl rfl (by omega) HFX.out HGa.out HW2.out rfl).mono ?_
      rintro e v3 ⟨D2, k2, rfl, hE2, hbn⟩
      replace hoa := hoa.up2 hbn
      replace hob := hob.up2 hbn
      replace hoX := hoX.up2 hbn
      replace heC := heC.up hbn
      replace hb1 := hb1.trans (hbn.mono hb1.size)
      clear hbn
      go_wp2_with fail
      refine (same_at D2 _ [⟨2, b.length, []⟩] 1 _ _ _ hE2 heC rfl (by omega) HS2.out).mono ?_
      rintro e v4 ⟨rfl, hbn⟩
      replace hoa := hoa.up2 hbn
      replace hob := hob.up2 hbn
      replace hoX := hoX.up2 hbn
      replace hb1 := hb1.trans (hbn.mono hb1.size)
      clear hbn hE2 heC
      go_wp2_with fail
      refine (cost_at' Aa none a [] a.length 0 ca 0 (a.length : Int) _ hoa Strs.nil rfl rfl (by omega) HFa.out (by simp) HC1.out).mono ?_
      rintro e v5 ⟨rfl, hbn⟩
      replace hoa := hoa.up2 hbn
      replace hob := hob.up2 hbn
      replace hoX := hoX.up2 hbn
      replace hb1 := hb1.trans (hbn.mono hb1.size)
      clear hbn
      go_wp2_with fail
      refine (cost_at' none Ab [] b 0 b.length 0 cb (b.length : Int) _ Strs.nil hob rfl rfl (by omega) (by simp) HFb.out HC2.out).mono ?_
      rintro e v6 ⟨rfl, hbn⟩
      replace hoa := hoa.up2 hbn
      replace hoX := hoX.up2 hbn
      replace hb1 := hb1.trans (hbn.mono hb1.size)
      clear hbn
      go_wp2_with fail
      refine (common_at' Aa AX a X a.length X.length ca cX (a.length : Int) _ hoa hoX rfl rfl (by omega) HFa.out HFX.out HCM.out).mono ?_
      rintro e v7 ⟨rfl, hbn⟩
      replace hb1 := hb1.trans (hbn.mono hb1.size)
      clear hbn
      go_wp2_with fail
      go_ret
      exact ⟨rfl, hb1⟩
  · rw [show kept a = [⟨1, a.length, []⟩] from by unfold kept; rw [if_neg ga]] at HW1 HW2
    have da : decide (0 < a.length) = true := decide_eq_true (List.length_pos_iff.2 ga)
    have ja : 0 < a.length := List.length_pos_iff.2 ga
    clear ga
    by_cases gb : b = []
    · rw [if_pos gb] at HW1 HW2
      have db : decide (0 < b.length) = false := by rw [gb]; rfl
      have ib : ¬ (0 : Int) < (b.length : Int) := by rw [gb]; simp
      clear gb
      have hT0 := TwoE.nil wX
      obtain ⟨Pe1, qe1, we1, hr, hTe10⟩ := (hT0).push ⟨1, a.length, none, 0, []⟩ (by first | exact Strs.nil | exact hob) 1 rfl (by omega)
      simp only [MEd.val, List.length_nil] at hr
      have HRe1 := Lib.hid hr
      clear hr
      have hTe1 := hTe10
      clear hTe10
      obtain ⟨Pe2, qe2, we2, hr, hTe20⟩ := (hTe1.swap).push ⟨1, a.length, none, 0, []⟩ (by first | exact Strs.nil | exact hob) 1 rfl (by omega)
      simp only [MEd.val, List.length_nil] at hr
      have HRe2 := Lib.hid hr
      clear hr
      have hTe2 := hTe20.swap
      clear hTe20
      have heA : Eds _ _ _ [⟨1, a.length, []⟩] := hTe2.eds
      have heC : Eds _ _ _ [⟨1, a.length, []⟩] := hTe2.swap.eds
      have hbn := hTe2.below
      replace hoa := hoa.up2 hbn
      replace hob := hob.up2 hbn
      replace hoX := hoX.up2 hbn
      replace hb1 := hb1.trans (hbn.mono hb1.size)
      clear hbn hTe1 hTe2 hT0
      have HS1 : Hid (∀ e ∈ ([⟨1, a.length, []⟩] : List Edt), e.lines.length ≤ 65536) := Lib.hid (by intro e he; simp at he; subst he; simp; try omega)
      have HS2 : Hid (∀ e ∈ ([⟨1, a.length, []⟩] : List Edt), e.lines.length ≤ 65536) := Lib.hid (by intro e he; simp at he; subst he; simp)
      go_wp2_with (first
        | (at_builtin; refine wpList_append_run (o := ⟨some 17, _, _, _, _, _⟩) rfl rfl (by simp [Region.wanted]) rfl rfl HR1.out ?_)
        | (at_builtin; refine wpList_append_run (o := ⟨some 19, _, _, _, _, _⟩) rfl rfl (by simp [Region.wanted]) rfl rfl HR2.out ?_)
        | (at_builtin; refine wpList_append_run (o := ⟨some 28, _, _, _, _, _⟩) rfl rfl (by simp [Region.wanted]) rfl rfl HRe1.out ?_)
        | (at_builtin; refine wpList_append_run (o := ⟨some 34, _, _, _, _, _⟩) rfl rfl (by simp [Region.wanted]) rfl rfl HRe2.out ?_))
      refine (diff_at Aa AX a X a.length X.length ca cX 1 [⟨1, a.length, []⟩] _ hoa hoX rfl rfl (by omega) HFa.out HGX.out HW1.out rfl).mono ?_
      rintro e v1 ⟨D1, k1, rfl, hE1, hbn⟩
      replace hoa := hoa.up2 hbn
      replace hob := hob.up2 hbn
      replace hoX := hoX.up2 hbn
      replace heA := heA.up hbn
      replace heC := heC.up hbn
      replace hb1 := hb1.trans (hbn.mono hb1.size)
      clear hbn
      go_wp2_with fail
      refine (same_at D1 _ [⟨1, a.length, []⟩] 1 _ _ _ hE1 heA rfl (by omega) HS1.out).mono ?_
      rintro e v2 ⟨rfl, hbn⟩
      replace hoa := hoa.up2 hbn
      replace hob := hob.up2 hbn
      replace hoX := hoX.up2 hbn
      replace heC := heC.up hbn
      replace hb1 := hb1.trans (hbn.mono hb1.size)
      clear hbn hE1 heA
      go_wp2_with fail
      refine (diff_at AX Aa X a X.length a.length cX ca 1 [⟨1, a.length, []⟩] _ hoX hoa rfl rfl (by omega) HFX.out HGa.out HW2.out rfl).mono ?_
      rintro e v3 ⟨D2, k2, rfl, hE2, hbn⟩
      replace hoa := hoa.up2 hbn
      replace hob := hob.up2 hbn
      replace hoX := hoX.up2 hbn
      replace heC := heC.up hbn
      replace hb1 := hb1.trans (hbn.mono hb1.size)
      clear hbn
      go_wp2_with fail
      refine (same_at D2 _ [⟨1, a.length, []⟩] 1 _ _ _ hE2 heC rfl (by omega) HS2.out).mono ?_
      rintro e v4 ⟨rfl, hbn⟩
      replace hoa := hoa.up2 hbn
      replace hob := hob.up2 hbn
      replace hoX := hoX.up2 hbn
      replace hb1 := hb1.trans (hbn.mono hb1.size)
      clear hbn hE2 heC
      go_wp2_with fail
      refine (cost_at' Aa none a [] a.length 0 ca 0 (a.length : Int) _ hoa Strs.nil rfl rfl (by omega) HFa.out (by simp) HC1.out).mono ?_
      rintro e v5 ⟨rfl, hbn⟩
      replace hoa := hoa.up2 hbn
      replace hob := hob.up2 hbn
      replace hoX := hoX.up2 hbn
      replace hb1 := hb1.trans (hbn.mono hb1.size)
      clear hbn
      go_wp2_with fail
      refine (cost_at' none Ab [] b 0 b.length 0 cb (b.length : Int) _ Strs.nil hob rfl rfl (by omega) (by simp) HFb.out HC2.out).mono ?_
      rintro e v6 ⟨rfl, hbn⟩
      replace hoa := hoa.up2 hbn
      replace hoX := hoX.up2 hbn
      replace hb1 := hb1.trans (hbn.mono hb1.size)
      clear hbn
      go_wp2_with fail
      refine (common_at' Aa AX a X a.length X.length ca cX (a.length : Int) _ hoa hoX rfl rfl (by omega) HFa.out HFX.out HCM.out).mono ?_
      rintro e v7 ⟨rfl, hbn⟩
      replace hb1 := hb1.trans (hbn.mono hb1.size)
      clear hbn
      go_wp2_with fail
      go_ret
      exact ⟨rfl, hb1⟩
    · rw [if_neg gb] at HW1 HW2
      have db : decide (0 < b.length) = true := decide_eq_true (List.length_pos_iff.2 gb)
      have jb : 0 < b.length := List.length_pos_iff.2 gb
      clear gb
      have hT0 := TwoE.nil wX
      obtain ⟨Pe1, qe1, we1, hr, hTe10⟩ := (hT0).push ⟨1, a.length, none, 0, []⟩ (by first | exact Strs.nil | exact hob) 1 rfl (by omega)
      simp only [MEd.val, List.length_nil] at hr
      have HRe1 := Lib.hid hr
      clear hr
      have hTe1 := hTe10
      clear hTe10
      obtain ⟨Pe2, qe2, we2, hr, hTe20⟩ := (hTe1.swap).push ⟨1, a.length, none, 0, []⟩ (by first | exact Strs.nil | exact hob) 1 rfl (by omega)
      simp only [MEd.val, List.length_nil] at hr
      have HRe2 := Lib.hid hr
      clear hr
      have hTe2 := hTe20.swap
      clear hTe20
      obtain ⟨Pe3, qe3, we3, hr, hTe30⟩ := (hTe2).push ⟨3, b.length, Ab, cb, b⟩ (by first | exact Strs.nil | exact hob) 2 rfl (by omega)
      simp only [MEd.val] at hr
      have HRe3 := Lib.hid hr
      clear hr
      have hTe3 := hTe30
      clear hTe30
      obtain ⟨Pe4, qe4, we4, hr, hTe40⟩ := (hTe3.swap).push ⟨2, b.length, none, 0, []⟩ (by first | exact Strs.nil | exact hob) 2 rfl (by omega)
      simp only [MEd.val, List.length_nil] at hr
      have HRe4 := Lib.hid hr
      clear hr
      have hTe4 := hTe40.swap
      clear hTe40
      have heA : Eds _ _ _ [⟨1, a.length, []⟩, ⟨3, b.length, b⟩] := hTe4.eds
      have heC : Eds _ _ _ [⟨1, a.length, []⟩, ⟨2, b.length, []⟩] := hTe4.swap.eds
      have hbn := hTe4.below
      replace hoa := hoa.up2 hbn
      replace hob := hob.up2 hbn
      replace hoX := hoX.up2 hbn
      replace hb1 := hb1.trans (hbn.mono hb1.size)
      clear hbn hTe1 hTe2 hTe3 hTe4 hT0
      have HS1 : Hid (∀ e ∈ ([⟨1, a.length, []⟩, ⟨3, b.length, b⟩] : List Edt), e.lines.length ≤ 65536) := Lib.hid (by intro e he; simp at he; rcases he with rfl | rfl <;> simp <;> omega)
      have HS2 : Hid (∀ e ∈ ([⟨1, a.length, []⟩, ⟨2, b.length, []⟩] : List Edt), e.lines.length ≤ 65536) := Lib.hid (by intro e he; simp at he; rcases he with rfl | rfl <;> simp)
      go_wp2_with (first
        | (at_builtin; refine wpList_append_run (o := ⟨some 17, _, _, _, _, _⟩) rfl rfl (by simp [Region.wanted]) rfl rfl HR1.out ?_)
        | (at_builtin; refine wpList_append_run (o := ⟨some 19, _, _, _, _, _⟩) rfl rfl (by simp [Region.wanted]) rfl rfl HR2.out ?_)
        | (at_builtin; refine wpList_append_run (o := ⟨some 28, _, _, _, _, _⟩) rfl rfl (by simp [Region.wanted]) rfl rfl HRe1.out ?_)
        | (at_builtin; refine wpList_append_run (o := ⟨some 34, _, _, _, _, _⟩) rfl rfl (by simp [Region.wanted]) rfl rfl HRe2.out ?_)
        | (at_builtin; refine wpList_append_run (o := ⟨some 44, _, _, _, _, _⟩) rfl rfl (by simp [Region.wanted]) rfl rfl HRe3.out ?_)
        | (at_builtin; refine wpList_append_run (o := ⟨some 50, _, _, _, _, _⟩) rfl rfl (by simp [Region.wanted]) rfl rfl HRe4.out ?_))
      refine (diff_at Aa AX a X a.length X.length ca cX 2 [⟨1, a.length, []⟩, ⟨3, b.length, b⟩] _ hoa hoX rfl rfl (by omega) HFa.out HGX.out HW1.out rfl).mono ?_
      rintro e v1 ⟨D1, k1, rfl, hE1, hbn⟩
      replace hoa := hoa.up2 hbn
      replace hob := hob.up2 hbn
      replace hoX := hoX.up2 hbn
      replace heA := heA.up hbn
      replace heC := heC.up hbn
      replace hb1 := hb1.trans (hbn.mono hb1.size)
      clear hbn
      go_wp2_with fail
      refine (same_at D1 _ [⟨1, a.length, []⟩, ⟨3, b.length, b⟩] 2 _ _ _ hE1 heA rfl (by omega) HS1.out).mono ?_
      rintro e v2 ⟨rfl, hbn⟩
      replace hoa := hoa.up2 hbn
      replace hob := hob.up2 hbn
      replace hoX := hoX.up2 hbn
      replace heC := heC.up hbn
      replace hb1 := hb1.trans (hbn.mono hb1.size)
      clear hbn hE1 heA
      go_wp2_with fail
      refine (diff_at AX Aa X a X.length a.length cX ca 2 [⟨1, a.length, []⟩, ⟨2, b.length, []⟩] _ hoX hoa rfl rfl (by omega) HFX.out HGa.out HW2.out rfl).mono ?_
      rintro e v3 ⟨D2, k2, rfl, hE2, hbn⟩
      replace hoa := hoa.up2 hbn
      replace hob := hob.up2 hbn
      replace hoX := hoX.up2 hbn
      replace heC := heC.up hbn
      replace hb1 := hb1.trans (hbn.mono hb1.size)
      clear hbn
      go_wp2_with fail
      refine (same_at D2 _ [⟨1, a.length, []⟩, ⟨2, b.length, []⟩] 2 _ _ _ hE2 heC rfl (by omega) HS2.out).mono ?_
      rintro e v4 ⟨rfl, hbn⟩
      replace hoa := hoa.up2 hbn
      replace hob := hob.up2 hbn
      replace hoX := hoX.up2 hbn
      replace hb1 := hb1.trans (hbn.mono hb1.size)
      clear hbn hE2 heC
      go_wp2_with fail
      refine (cost_at' Aa none a [] a.length 0 ca 0 (a.length : Int) _ hoa Strs.nil rfl rfl (by omega) HFa.out (by simp) HC1.out).mono ?_
      rintro e v5 ⟨rfl, hbn⟩
      replace hoa := hoa.up2 hbn
      replace hob := hob.up2 hbn
      replace hoX := hoX.up2 hbn
      replace hb1 := hb1.trans (hbn.mono hb1.size)
      clear hbn
      go_wp2_with fail
      refine (cost_at' none Ab [] b 0 b.length 0 cb (b.length : Int) _ Strs.nil hob rfl rfl (by omega) (by simp) HFb.out HC2.out).mono ?_
      rintro e v6 ⟨rfl, hbn⟩
      replace hoa := hoa.up2 hbn
      replace hoX := hoX.up2 hbn
      replace hb1 := hb1.trans (hbn.mono hb1.size)
      clear hbn
      go_wp2_with fail
      refine (common_at' Aa AX a X a.length X.length ca cX (a.length : Int) _ hoa hoX rfl rfl (by omega) HFa.out HFX.out HCM.out).mono ?_
      rintro e v7 ⟨rfl, hbn⟩
      replace hb1 := hb1.trans (hbn.mono hb1.size)
      clear hbn
      go_wp2_with fail
      go_ret
      exact ⟨rfl, hb1⟩

end Go.Proofs.Ytmonemgjgcfhlaa
