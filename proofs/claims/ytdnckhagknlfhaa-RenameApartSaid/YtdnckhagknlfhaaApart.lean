/-
  collatorlaw08.RenameApart: it returns true. Nothing that was there is changed. (The orders of its three drawn regions are written out by a script.)
-/
import Derived.Test.YtdnckhagknlfhaaApm
import Derived.Test.YtdnckhagknlfhaaTree
namespace Go.Proofs.Ytdnckhagknlfhaa
open Go.RowKit

set_option maxHeartbeats 8000000 in
set_option maxRecDepth 100000 in
theorem apart_any (A B : Option Addr) (n m c d : Nat) (th kd : Int) (w : World) (t1 : -9223372036854775808 ≤ th) (t2 : th ≤ 9223372036854775807) (k1 : -9223372036854775808 ≤ kd) (k2 : kd ≤ 9223372036854775807)
    (ha : ∀ W, Below w.heap.size w W → Calls Try.prog 15 #[.slice A n c] W (TreeCap W)) (hb : ∀ W, Below w.heap.size w W → Calls Try.prog 15 #[.slice B m d] W (TreeCap W)) :
    Calls Try.prog 8 #[.slice A n c, .slice B m d, .int .i64 th, .int .i64 kd] w fun e w' => e = .returned (.bool true) ∧ Below w.heap.size w w' := by
  have HA := Lib.hid ha
  have HB := Lib.hid hb
  clear ha hb
  go_enter Try.func8, Try.ntmps8
  go_wp2_with fail
  refine (awake_any _).mono ?_
  rintro e w1 ⟨rfl, hB1⟩
  have HB1 := Lib.hid hB1
  clear hB1
  go_wp2_with fail
  refine (HA.out _ HB1.out).mono ?_
  rintro e w2 ⟨A1, c1, a, rfl, hI1, hO1, hB2, _⟩
  have HI1 := Lib.hid hI1
  have HO1 := Lib.hid hO1
  have HB2 := Lib.hid (HB1.out.trans (hB2.mono HB1.out.size))
  clear hI1 hO1 hB2
  go_wp2_with fail
  refine (HB.out _ HB2.out).mono ?_
  rintro e w3 ⟨A2, c2, b, rfl, hI2, hO2, hB3, _⟩
  have HI1' := Lib.hid (HI1.out.up hB3)
  have HI2 := Lib.hid hI2
  have HO2 := Lib.hid hO2
  have HB3 := Lib.hid (HB2.out.trans (hB3.mono HB2.out.size))
  clear hI2 hO2 hB3 HI1 HA HB HB1 HB2
  have la : a.length ≤ 200 := HO1.out.few
  have lb : b.length ≤ 200 := HO2.out.few
  go_wp2_with fail
  refine (pick11_any th 101 _ t1 t2 (by omega) (by omega)).mono ?_
  rintro e w4 ⟨rfl, rfl⟩
  obtain ⟨t, ht⟩ : ∃ t : Int, pickI th 101 = t := ⟨_, rfl⟩
  have rt := pickI_range th 101 (by omega)
  rw [ht] at rt ⊢
  obtain ⟨t3, t4⟩ := rt
  clear ht
  go_wp2_with fail
  refine (pairs_told A1 A2 a b a.length b.length c1 c2 t _ HI1'.out HI2.out rfl rfl HO1.out.fit HO2.out.fit).mono ?_
  rintro e w9 ⟨A9, c9, L, rfl, hP, hL, hB9, hll⟩
  have HP := Lib.hid hP
  have HL := Lib.hid hL
  have U1a := Lib.hid (HI1'.out.up hB9)
  have U2a := Lib.hid (HI2.out.up hB9)
  have UB := Lib.hid (HB3.out.trans (hB9.mono HB3.out.size))
  have hl2 : L.length ≤ 200 := by omega
  clear hP hL hB9 hll HI1' HI2 HB3
  go_wp2_with fail
  go_cut [14] (fun s wx => MadeI w9 ⟨#[126, 120]⟩ xData 2 s wx)
  case first =>
    refine wp_region_noPanic ?_
    refine wp_region_held_drew (S := fun W => Below w9.heap.size w9 W) (by kernel_rfl) (Below.refl w9.heap.size w9).drew (fun hS0 => ?_)
    change wpAnyH _ _ _ _ _ 9 #[false, false, false, false, false, false, false, false, false] _ (World.drew _)
    refine wpAnyH_ready (rs := [0, 3, 7]) (by kernel_rfl) (by simp) (AllReadyH.cons rfl (fun K hK => ?_) (AllReadyH.cons rfl (fun K hK => ?_) (AllReadyH.cons rfl (fun K hK => ?_) (AllReadyH.nil))))
    · skip
      obtain ⟨g1, W1, hr2, hzm1, hb3, hg4⟩ := make_z 70 (by decide) w9.drew
      refine step_op_run (hr2 _ _ rfl) rfl ?_
      refine hK.out _ _ (hS0.trans (hb3.mono (hS0).size)) (fun hS5 => ?_)
      clear hK K
      change wpAnyH _ _ _ _ _ _ _ (Act.put _ (some 29) (.slice (some ⟨g1, 0, none⟩) 70 70)) _
      simp only [Act.put, List.setIfInBounds_toArray, List.set_cons_zero, List.set_cons_succ]
      refine wpAnyH_more (S' := fun W => Below w9.heap.size w9 W ∧ Blk W g1 5 (zc 70)) (fun _ h => h.1) ?_
      have hS6 : Below w9.heap.size w9 W1 ∧ Blk W1 g1 5 (zc 70) := ⟨hS5, hzm1⟩
      clear hr2 hb3 hS5
      refine wpAnyH_take (i := 1) (v := .string (zb 70)) rfl (by kernel_rfl) (by kernel_rfl) (by kernel_rfl) (fun _ _ _ h => h) (Or.inl ⟨by rfl, fun w' hS' => by exact conv_z rfl rfl hS'.2⟩) hS6 ?_
      change wpAnyH _ _ _ _ _ _ _ (Act.put _ (some 30) (.string (zb 70))) _
      simp only [Act.put, List.setIfInBounds_toArray, List.set_cons_zero, List.set_cons_succ]
      refine wpAnyH_take (i := 2) (v := .string xHead) rfl (by kernel_rfl) (by kernel_rfl) (by kernel_rfl) (fun _ _ _ h => h) (Or.inl ⟨by rfl, fun w' hS' => by exact cat_x1 rfl rfl⟩) hS6 ?_
      change wpAnyH _ _ _ _ _ _ _ (Act.put _ (some 31) (.string xHead)) _
      simp only [Act.put, List.setIfInBounds_toArray, List.set_cons_zero, List.set_cons_succ]
      refine wpAnyH_ready (rs := [3, 7]) (by kernel_rfl) (by simp) (AllReadyH.cons rfl (fun K hK => ?_) (AllReadyH.cons rfl (fun K hK => ?_) (AllReadyH.nil)))
      · skip
        obtain ⟨g2, W7, hr8, hzm2, hb9, hg10⟩ := make_z 80 (by decide) W1
        refine step_op_run (hr8 _ _ rfl) rfl ?_
        refine hK.out _ _ ⟨(hS6.1.trans (hb9.mono (hS6.1).size)), (Blk.below hS6.2 hb9 (Blk.lt hS6.2))⟩ (fun hS11 => ?_)
        clear hK K
        change wpAnyH _ _ _ _ _ _ _ (Act.put _ (some 32) (.slice (some ⟨g2, 0, none⟩) 80 80)) _
        simp only [Act.put, List.setIfInBounds_toArray, List.set_cons_zero, List.set_cons_succ]
        refine wpAnyH_more (S' := fun W => (Below w9.heap.size w9 W ∧ Blk W g1 5 (zc 70)) ∧ Blk W g2 5 (zc 80)) (fun _ h => h.1) ?_
        have hS12 : (Below w9.heap.size w9 W7 ∧ Blk W7 g1 5 (zc 70)) ∧ Blk W7 g2 5 (zc 80) := ⟨hS11, hzm2⟩
        clear hr8 hb9 hS11
        refine wpAnyH_take (i := 4) (v := .string (zb 80)) rfl (by kernel_rfl) (by kernel_rfl) (by kernel_rfl) (fun _ _ _ h => h) (Or.inl ⟨by rfl, fun w' hS' => by exact conv_z rfl rfl hS'.2⟩) hS12 ?_
        change wpAnyH _ _ _ _ _ _ _ (Act.put _ (some 33) (.string (zb 80))) _
        simp only [Act.put, List.setIfInBounds_toArray, List.set_cons_zero, List.set_cons_succ]
        refine wpAnyH_take (i := 5) (v := .string xData) rfl (by kernel_rfl) (by kernel_rfl) (by kernel_rfl) (fun _ _ _ h => h) (Or.inl ⟨by rfl, fun w' hS' => by exact cat_x2 rfl rfl rfl⟩) hS12 ?_
        change wpAnyH _ _ _ _ _ _ _ (Act.put _ (some 34) (.string xData)) _
        simp only [Act.put, List.setIfInBounds_toArray, List.set_cons_zero, List.set_cons_succ]
        refine wpAnyH_take (i := 6) (v := .agg #[.string ⟨#[126, 120]⟩, .int .i64 2, .string xData, .bool false]) rfl (by kernel_rfl) (by kernel_rfl) (by kernel_rfl) (fun _ _ _ h => h) (Or.inl ⟨by rfl, fun w' hS' => by exact op_build rfl rfl⟩) hS12 ?_
        change wpAnyH _ _ _ _ _ _ _ (Act.put _ (some 35) (.agg #[.string ⟨#[126, 120]⟩, .int .i64 2, .string xData, .bool false])) _
        simp only [Act.put, List.setIfInBounds_toArray, List.set_cons_zero, List.set_cons_succ]
        refine wpAnyH_ready (rs := [7]) (by kernel_rfl) (by simp) (AllReadyH.cons rfl (fun K hK => ?_) (AllReadyH.nil))
        · skip
          obtain ⟨g, W13, hr14, hbl15, hb16, hga⟩ := op_alloc W7
          refine step_op_run (hr14 _ _ rfl) rfl ?_
          have hwg : w9.heap.size ≤ g := Nat.le_trans hS12.1.1.size hga
          refine hK.out _ _ ⟨⟨(hS12.1.1.trans (hb16.mono (hS12.1.1).size)), (Blk.below hS12.1.2 hb16 (Blk.lt hS12.1.2))⟩, (Blk.below hS12.2 hb16 (Blk.lt hS12.2))⟩ (fun hS17 => ?_)
          clear hK K
          change wpAnyH _ _ _ _ _ _ _ (Act.put _ (some 14) (.pointer (some ⟨g, 0, none⟩))) _
          simp only [Act.put, List.setIfInBounds_toArray, List.set_cons_zero, List.set_cons_succ]
          clear hr14 hb16
          refine wpAnyH_ready (rs := [8]) (by kernel_rfl) (by simp) (AllReadyH.cons rfl (fun K hK => ?_) (AllReadyH.nil))
          · skip
            obtain ⟨WE, hrE, hbE, hgE⟩ := op_store g ⟨#[126, 120]⟩ xData ⟨#[]⟩ ⟨#[]⟩ 2 0 W13 hbl15
            refine step_op_skip (hrE _ _ _ _ rfl rfl rfl) rfl ?_
            refine hK.out _ _ ⟨⟨(kept_below hS17.1.1 hgE hwg), Blk.grown hS17.1.2 hgE (fun e => blk_ne hS17.1.2 hbl15 (by decide) (Option.some.inj e))⟩, Blk.grown hS17.2 hgE (fun e => blk_ne hS17.2 hbl15 (by decide) (Option.some.inj e))⟩ (fun hSE => ?_)
            clear hK K
            refine wpAnyH_done (by kernel_rfl) ?_ _
            refine NoPanic.normal ?_
            go_wp2_with fail
            go_meet
            exact ⟨g, rfl, hwg, hbE, hSE.1.1⟩
      · skip
        obtain ⟨g, W18, hr19, hbl20, hb21, hga⟩ := op_alloc W1
        refine step_op_run (hr19 _ _ rfl) rfl ?_
        have hwg : w9.heap.size ≤ g := Nat.le_trans hS6.1.size hga
        refine hK.out _ _ ⟨(hS6.1.trans (hb21.mono (hS6.1).size)), (Blk.below hS6.2 hb21 (Blk.lt hS6.2))⟩ (fun hS22 => ?_)
        clear hK K
        change wpAnyH _ _ _ _ _ _ _ (Act.put _ (some 14) (.pointer (some ⟨g, 0, none⟩))) _
        simp only [Act.put, List.setIfInBounds_toArray, List.set_cons_zero, List.set_cons_succ]
        clear hr19 hb21
        refine wpAnyH_ready (rs := [3]) (by kernel_rfl) (by simp) (AllReadyH.cons rfl (fun K hK => ?_) (AllReadyH.nil))
        · skip
          obtain ⟨g2, W23, hr24, hzm2, hb25, hg26⟩ := make_z 80 (by decide) W18
          refine step_op_run (hr24 _ _ rfl) rfl ?_
          refine hK.out _ _ ⟨(hS22.1.trans (hb25.mono (hS22.1).size)), (Blk.below hS22.2 hb25 (Blk.lt hS22.2))⟩ (fun hS27 => ?_)
          clear hK K
          change wpAnyH _ _ _ _ _ _ _ (Act.put _ (some 32) (.slice (some ⟨g2, 0, none⟩) 80 80)) _
          simp only [Act.put, List.setIfInBounds_toArray, List.set_cons_zero, List.set_cons_succ]
          refine wpAnyH_more (S' := fun W => (Below w9.heap.size w9 W ∧ Blk W g1 5 (zc 70)) ∧ Blk W g2 5 (zc 80)) (fun _ h => h.1) ?_
          have hS28 : (Below w9.heap.size w9 W23 ∧ Blk W23 g1 5 (zc 70)) ∧ Blk W23 g2 5 (zc 80) := ⟨hS27, hzm2⟩
          have hbl29 := Blk.below hbl20 hb25 (Blk.lt hbl20)
          clear hr24 hb25 hS27
          refine wpAnyH_take (i := 4) (v := .string (zb 80)) rfl (by kernel_rfl) (by kernel_rfl) (by kernel_rfl) (fun _ _ _ h => h) (Or.inl ⟨by rfl, fun w' hS' => by exact conv_z rfl rfl hS'.2⟩) hS28 ?_
          change wpAnyH _ _ _ _ _ _ _ (Act.put _ (some 33) (.string (zb 80))) _
          simp only [Act.put, List.setIfInBounds_toArray, List.set_cons_zero, List.set_cons_succ]
          refine wpAnyH_take (i := 5) (v := .string xData) rfl (by kernel_rfl) (by kernel_rfl) (by kernel_rfl) (fun _ _ _ h => h) (Or.inl ⟨by rfl, fun w' hS' => by exact cat_x2 rfl rfl rfl⟩) hS28 ?_
          change wpAnyH _ _ _ _ _ _ _ (Act.put _ (some 34) (.string xData)) _
          simp only [Act.put, List.setIfInBounds_toArray, List.set_cons_zero, List.set_cons_succ]
          refine wpAnyH_take (i := 6) (v := .agg #[.string ⟨#[126, 120]⟩, .int .i64 2, .string xData, .bool false]) rfl (by kernel_rfl) (by kernel_rfl) (by kernel_rfl) (fun _ _ _ h => h) (Or.inl ⟨by rfl, fun w' hS' => by exact op_build rfl rfl⟩) hS28 ?_
          change wpAnyH _ _ _ _ _ _ _ (Act.put _ (some 35) (.agg #[.string ⟨#[126, 120]⟩, .int .i64 2, .string xData, .bool false])) _
          simp only [Act.put, List.setIfInBounds_toArray, List.set_cons_zero, List.set_cons_succ]
          refine wpAnyH_ready (rs := [8]) (by kernel_rfl) (by simp) (AllReadyH.cons rfl (fun K hK => ?_) (AllReadyH.nil))
          · skip
            obtain ⟨WE, hrE, hbE, hgE⟩ := op_store g ⟨#[126, 120]⟩ xData ⟨#[]⟩ ⟨#[]⟩ 2 0 W23 hbl29
            refine step_op_skip (hrE _ _ _ _ rfl rfl rfl) rfl ?_
            refine hK.out _ _ ⟨⟨(kept_below hS28.1.1 hgE hwg), Blk.grown hS28.1.2 hgE (fun e => blk_ne hS28.1.2 hbl29 (by decide) (Option.some.inj e))⟩, Blk.grown hS28.2 hgE (fun e => blk_ne hS28.2 hbl29 (by decide) (Option.some.inj e))⟩ (fun hSE => ?_)
            clear hK K
            refine wpAnyH_done (by kernel_rfl) ?_ _
            refine NoPanic.normal ?_
            go_wp2_with fail
            go_meet
            exact ⟨g, rfl, hwg, hbE, hSE.1.1⟩
    · skip
      obtain ⟨g2, W30, hr31, hzm2, hb32, hg33⟩ := make_z 80 (by decide) w9.drew
      refine step_op_run (hr31 _ _ rfl) rfl ?_
      refine hK.out _ _ (hS0.trans (hb32.mono (hS0).size)) (fun hS34 => ?_)
      clear hK K
      change wpAnyH _ _ _ _ _ _ _ (Act.put _ (some 32) (.slice (some ⟨g2, 0, none⟩) 80 80)) _
      simp only [Act.put, List.setIfInBounds_toArray, List.set_cons_zero, List.set_cons_succ]
      refine wpAnyH_more (S' := fun W => Below w9.heap.size w9 W ∧ Blk W g2 5 (zc 80)) (fun _ h => h.1) ?_
      have hS35 : Below w9.heap.size w9 W30 ∧ Blk W30 g2 5 (zc 80) := ⟨hS34, hzm2⟩
      clear hr31 hb32 hS34
      refine wpAnyH_take (i := 4) (v := .string (zb 80)) rfl (by kernel_rfl) (by kernel_rfl) (by kernel_rfl) (fun _ _ _ h => h) (Or.inl ⟨by rfl, fun w' hS' => by exact conv_z rfl rfl hS'.2⟩) hS35 ?_
      change wpAnyH _ _ _ _ _ _ _ (Act.put _ (some 33) (.string (zb 80))) _
      simp only [Act.put, List.setIfInBounds_toArray, List.set_cons_zero, List.set_cons_succ]
      refine wpAnyH_ready (rs := [0, 7]) (by kernel_rfl) (by simp) (AllReadyH.cons rfl (fun K hK => ?_) (AllReadyH.cons rfl (fun K hK => ?_) (AllReadyH.nil)))
      · skip
        obtain ⟨g1, W36, hr37, hzm1, hb38, hg39⟩ := make_z 70 (by decide) W30
        refine step_op_run (hr37 _ _ rfl) rfl ?_
        refine hK.out _ _ ⟨(hS35.1.trans (hb38.mono (hS35.1).size)), (Blk.below hS35.2 hb38 (Blk.lt hS35.2))⟩ (fun hS40 => ?_)
        clear hK K
        change wpAnyH _ _ _ _ _ _ _ (Act.put _ (some 29) (.slice (some ⟨g1, 0, none⟩) 70 70)) _
        simp only [Act.put, List.setIfInBounds_toArray, List.set_cons_zero, List.set_cons_succ]
        refine wpAnyH_more (S' := fun W => (Below w9.heap.size w9 W ∧ Blk W g2 5 (zc 80)) ∧ Blk W g1 5 (zc 70)) (fun _ h => h.1) ?_
        have hS41 : (Below w9.heap.size w9 W36 ∧ Blk W36 g2 5 (zc 80)) ∧ Blk W36 g1 5 (zc 70) := ⟨hS40, hzm1⟩
        clear hr37 hb38 hS40
        refine wpAnyH_take (i := 1) (v := .string (zb 70)) rfl (by kernel_rfl) (by kernel_rfl) (by kernel_rfl) (fun _ _ _ h => h) (Or.inl ⟨by rfl, fun w' hS' => by exact conv_z rfl rfl hS'.2⟩) hS41 ?_
        change wpAnyH _ _ _ _ _ _ _ (Act.put _ (some 30) (.string (zb 70))) _
        simp only [Act.put, List.setIfInBounds_toArray, List.set_cons_zero, List.set_cons_succ]
        refine wpAnyH_take (i := 2) (v := .string xHead) rfl (by kernel_rfl) (by kernel_rfl) (by kernel_rfl) (fun _ _ _ h => h) (Or.inl ⟨by rfl, fun w' hS' => by exact cat_x1 rfl rfl⟩) hS41 ?_
        change wpAnyH _ _ _ _ _ _ _ (Act.put _ (some 31) (.string xHead)) _
        simp only [Act.put, List.setIfInBounds_toArray, List.set_cons_zero, List.set_cons_succ]
        refine wpAnyH_take (i := 5) (v := .string xData) rfl (by kernel_rfl) (by kernel_rfl) (by kernel_rfl) (fun _ _ _ h => h) (Or.inl ⟨by rfl, fun w' hS' => by exact cat_x2 rfl rfl rfl⟩) hS41 ?_
        change wpAnyH _ _ _ _ _ _ _ (Act.put _ (some 34) (.string xData)) _
        simp only [Act.put, List.setIfInBounds_toArray, List.set_cons_zero, List.set_cons_succ]
        refine wpAnyH_take (i := 6) (v := .agg #[.string ⟨#[126, 120]⟩, .int .i64 2, .string xData, .bool false]) rfl (by kernel_rfl) (by kernel_rfl) (by kernel_rfl) (fun _ _ _ h => h) (Or.inl ⟨by rfl, fun w' hS' => by exact op_build rfl rfl⟩) hS41 ?_
        change wpAnyH _ _ _ _ _ _ _ (Act.put _ (some 35) (.agg #[.string ⟨#[126, 120]⟩, .int .i64 2, .string xData, .bool false])) _
        simp only [Act.put, List.setIfInBounds_toArray, List.set_cons_zero, List.set_cons_succ]
        refine wpAnyH_ready (rs := [7]) (by kernel_rfl) (by simp) (AllReadyH.cons rfl (fun K hK => ?_) (AllReadyH.nil))
        · skip
          obtain ⟨g, W42, hr43, hbl44, hb45, hga⟩ := op_alloc W36
          refine step_op_run (hr43 _ _ rfl) rfl ?_
          have hwg : w9.heap.size ≤ g := Nat.le_trans hS41.1.1.size hga
          refine hK.out _ _ ⟨⟨(hS41.1.1.trans (hb45.mono (hS41.1.1).size)), (Blk.below hS41.1.2 hb45 (Blk.lt hS41.1.2))⟩, (Blk.below hS41.2 hb45 (Blk.lt hS41.2))⟩ (fun hS46 => ?_)
          clear hK K
          change wpAnyH _ _ _ _ _ _ _ (Act.put _ (some 14) (.pointer (some ⟨g, 0, none⟩))) _
          simp only [Act.put, List.setIfInBounds_toArray, List.set_cons_zero, List.set_cons_succ]
          clear hr43 hb45
          refine wpAnyH_ready (rs := [8]) (by kernel_rfl) (by simp) (AllReadyH.cons rfl (fun K hK => ?_) (AllReadyH.nil))
          · skip
            obtain ⟨WE, hrE, hbE, hgE⟩ := op_store g ⟨#[126, 120]⟩ xData ⟨#[]⟩ ⟨#[]⟩ 2 0 W42 hbl44
            refine step_op_skip (hrE _ _ _ _ rfl rfl rfl) rfl ?_
            refine hK.out _ _ ⟨⟨(kept_below hS46.1.1 hgE hwg), Blk.grown hS46.1.2 hgE (fun e => blk_ne hS46.1.2 hbl44 (by decide) (Option.some.inj e))⟩, Blk.grown hS46.2 hgE (fun e => blk_ne hS46.2 hbl44 (by decide) (Option.some.inj e))⟩ (fun hSE => ?_)
            clear hK K
            refine wpAnyH_done (by kernel_rfl) ?_ _
            refine NoPanic.normal ?_
            go_wp2_with fail
            go_meet
            exact ⟨g, rfl, hwg, hbE, hSE.1.1⟩
      · skip
        obtain ⟨g, W47, hr48, hbl49, hb50, hga⟩ := op_alloc W30
        refine step_op_run (hr48 _ _ rfl) rfl ?_
        have hwg : w9.heap.size ≤ g := Nat.le_trans hS35.1.size hga
        refine hK.out _ _ ⟨(hS35.1.trans (hb50.mono (hS35.1).size)), (Blk.below hS35.2 hb50 (Blk.lt hS35.2))⟩ (fun hS51 => ?_)
        clear hK K
        change wpAnyH _ _ _ _ _ _ _ (Act.put _ (some 14) (.pointer (some ⟨g, 0, none⟩))) _
        simp only [Act.put, List.setIfInBounds_toArray, List.set_cons_zero, List.set_cons_succ]
        clear hr48 hb50
        refine wpAnyH_ready (rs := [0]) (by kernel_rfl) (by simp) (AllReadyH.cons rfl (fun K hK => ?_) (AllReadyH.nil))
        · skip
          obtain ⟨g1, W52, hr53, hzm1, hb54, hg55⟩ := make_z 70 (by decide) W47
          refine step_op_run (hr53 _ _ rfl) rfl ?_
          refine hK.out _ _ ⟨(hS51.1.trans (hb54.mono (hS51.1).size)), (Blk.below hS51.2 hb54 (Blk.lt hS51.2))⟩ (fun hS56 => ?_)
          clear hK K
          change wpAnyH _ _ _ _ _ _ _ (Act.put _ (some 29) (.slice (some ⟨g1, 0, none⟩) 70 70)) _
          simp only [Act.put, List.setIfInBounds_toArray, List.set_cons_zero, List.set_cons_succ]
          refine wpAnyH_more (S' := fun W => (Below w9.heap.size w9 W ∧ Blk W g2 5 (zc 80)) ∧ Blk W g1 5 (zc 70)) (fun _ h => h.1) ?_
          have hS57 : (Below w9.heap.size w9 W52 ∧ Blk W52 g2 5 (zc 80)) ∧ Blk W52 g1 5 (zc 70) := ⟨hS56, hzm1⟩
          have hbl58 := Blk.below hbl49 hb54 (Blk.lt hbl49)
          clear hr53 hb54 hS56
          refine wpAnyH_take (i := 1) (v := .string (zb 70)) rfl (by kernel_rfl) (by kernel_rfl) (by kernel_rfl) (fun _ _ _ h => h) (Or.inl ⟨by rfl, fun w' hS' => by exact conv_z rfl rfl hS'.2⟩) hS57 ?_
          change wpAnyH _ _ _ _ _ _ _ (Act.put _ (some 30) (.string (zb 70))) _
          simp only [Act.put, List.setIfInBounds_toArray, List.set_cons_zero, List.set_cons_succ]
          refine wpAnyH_take (i := 2) (v := .string xHead) rfl (by kernel_rfl) (by kernel_rfl) (by kernel_rfl) (fun _ _ _ h => h) (Or.inl ⟨by rfl, fun w' hS' => by exact cat_x1 rfl rfl⟩) hS57 ?_
          change wpAnyH _ _ _ _ _ _ _ (Act.put _ (some 31) (.string xHead)) _
          simp only [Act.put, List.setIfInBounds_toArray, List.set_cons_zero, List.set_cons_succ]
          refine wpAnyH_take (i := 5) (v := .string xData) rfl (by kernel_rfl) (by kernel_rfl) (by kernel_rfl) (fun _ _ _ h => h) (Or.inl ⟨by rfl, fun w' hS' => by exact cat_x2 rfl rfl rfl⟩) hS57 ?_
          change wpAnyH _ _ _ _ _ _ _ (Act.put _ (some 34) (.string xData)) _
          simp only [Act.put, List.setIfInBounds_toArray, List.set_cons_zero, List.set_cons_succ]
          refine wpAnyH_take (i := 6) (v := .agg #[.string ⟨#[126, 120]⟩, .int .i64 2, .string xData, .bool false]) rfl (by kernel_rfl) (by kernel_rfl) (by kernel_rfl) (fun _ _ _ h => h) (Or.inl ⟨by rfl, fun w' hS' => by exact op_build rfl rfl⟩) hS57 ?_
          change wpAnyH _ _ _ _ _ _ _ (Act.put _ (some 35) (.agg #[.string ⟨#[126, 120]⟩, .int .i64 2, .string xData, .bool false])) _
          simp only [Act.put, List.setIfInBounds_toArray, List.set_cons_zero, List.set_cons_succ]
          refine wpAnyH_ready (rs := [8]) (by kernel_rfl) (by simp) (AllReadyH.cons rfl (fun K hK => ?_) (AllReadyH.nil))
          · skip
            obtain ⟨WE, hrE, hbE, hgE⟩ := op_store g ⟨#[126, 120]⟩ xData ⟨#[]⟩ ⟨#[]⟩ 2 0 W52 hbl58
            refine step_op_skip (hrE _ _ _ _ rfl rfl rfl) rfl ?_
            refine hK.out _ _ ⟨⟨(kept_below hS57.1.1 hgE hwg), Blk.grown hS57.1.2 hgE (fun e => blk_ne hS57.1.2 hbl58 (by decide) (Option.some.inj e))⟩, Blk.grown hS57.2 hgE (fun e => blk_ne hS57.2 hbl58 (by decide) (Option.some.inj e))⟩ (fun hSE => ?_)
            clear hK K
            refine wpAnyH_done (by kernel_rfl) ?_ _
            refine NoPanic.normal ?_
            go_wp2_with fail
            go_meet
            exact ⟨g, rfl, hwg, hbE, hSE.1.1⟩
    · skip
      obtain ⟨g, W59, hr60, hbl61, hb62, hga⟩ := op_alloc w9.drew
      refine step_op_run (hr60 _ _ rfl) rfl ?_
      have hwg : w9.heap.size ≤ g := Nat.le_trans hS0.size hga
      refine hK.out _ _ (hS0.trans (hb62.mono (hS0).size)) (fun hS63 => ?_)
      clear hK K
      change wpAnyH _ _ _ _ _ _ _ (Act.put _ (some 14) (.pointer (some ⟨g, 0, none⟩))) _
      simp only [Act.put, List.setIfInBounds_toArray, List.set_cons_zero, List.set_cons_succ]
      clear hr60 hb62
      refine wpAnyH_ready (rs := [0, 3]) (by kernel_rfl) (by simp) (AllReadyH.cons rfl (fun K hK => ?_) (AllReadyH.cons rfl (fun K hK => ?_) (AllReadyH.nil)))
      · skip
        obtain ⟨g1, W64, hr65, hzm1, hb66, hg67⟩ := make_z 70 (by decide) W59
        refine step_op_run (hr65 _ _ rfl) rfl ?_
        refine hK.out _ _ (hS63.trans (hb66.mono (hS63).size)) (fun hS68 => ?_)
        clear hK K
        change wpAnyH _ _ _ _ _ _ _ (Act.put _ (some 29) (.slice (some ⟨g1, 0, none⟩) 70 70)) _
        simp only [Act.put, List.setIfInBounds_toArray, List.set_cons_zero, List.set_cons_succ]
        refine wpAnyH_more (S' := fun W => Below w9.heap.size w9 W ∧ Blk W g1 5 (zc 70)) (fun _ h => h.1) ?_
        have hS69 : Below w9.heap.size w9 W64 ∧ Blk W64 g1 5 (zc 70) := ⟨hS68, hzm1⟩
        have hbl70 := Blk.below hbl61 hb66 (Blk.lt hbl61)
        clear hr65 hb66 hS68
        refine wpAnyH_take (i := 1) (v := .string (zb 70)) rfl (by kernel_rfl) (by kernel_rfl) (by kernel_rfl) (fun _ _ _ h => h) (Or.inl ⟨by rfl, fun w' hS' => by exact conv_z rfl rfl hS'.2⟩) hS69 ?_
        change wpAnyH _ _ _ _ _ _ _ (Act.put _ (some 30) (.string (zb 70))) _
        simp only [Act.put, List.setIfInBounds_toArray, List.set_cons_zero, List.set_cons_succ]
        refine wpAnyH_take (i := 2) (v := .string xHead) rfl (by kernel_rfl) (by kernel_rfl) (by kernel_rfl) (fun _ _ _ h => h) (Or.inl ⟨by rfl, fun w' hS' => by exact cat_x1 rfl rfl⟩) hS69 ?_
        change wpAnyH _ _ _ _ _ _ _ (Act.put _ (some 31) (.string xHead)) _
        simp only [Act.put, List.setIfInBounds_toArray, List.set_cons_zero, List.set_cons_succ]
        refine wpAnyH_ready (rs := [3]) (by kernel_rfl) (by simp) (AllReadyH.cons rfl (fun K hK => ?_) (AllReadyH.nil))
        · skip
          obtain ⟨g2, W71, hr72, hzm2, hb73, hg74⟩ := make_z 80 (by decide) W64
          refine step_op_run (hr72 _ _ rfl) rfl ?_
          refine hK.out _ _ ⟨(hS69.1.trans (hb73.mono (hS69.1).size)), (Blk.below hS69.2 hb73 (Blk.lt hS69.2))⟩ (fun hS75 => ?_)
          clear hK K
          change wpAnyH _ _ _ _ _ _ _ (Act.put _ (some 32) (.slice (some ⟨g2, 0, none⟩) 80 80)) _
          simp only [Act.put, List.setIfInBounds_toArray, List.set_cons_zero, List.set_cons_succ]
          refine wpAnyH_more (S' := fun W => (Below w9.heap.size w9 W ∧ Blk W g1 5 (zc 70)) ∧ Blk W g2 5 (zc 80)) (fun _ h => h.1) ?_
          have hS76 : (Below w9.heap.size w9 W71 ∧ Blk W71 g1 5 (zc 70)) ∧ Blk W71 g2 5 (zc 80) := ⟨hS75, hzm2⟩
          have hbl77 := Blk.below hbl70 hb73 (Blk.lt hbl70)
          clear hr72 hb73 hS75
          refine wpAnyH_take (i := 4) (v := .string (zb 80)) rfl (by kernel_rfl) (by kernel_rfl) (by kernel_rfl) (fun _ _ _ h => h) (Or.inl ⟨by rfl, fun w' hS' => by exact conv_z rfl rfl hS'.2⟩) hS76 ?_
          change wpAnyH _ _ _ _ _ _ _ (Act.put _ (some 33) (.string (zb 80))) _
          simp only [Act.put, List.setIfInBounds_toArray, List.set_cons_zero, List.set_cons_succ]
          refine wpAnyH_take (i := 5) (v := .string xData) rfl (by kernel_rfl) (by kernel_rfl) (by kernel_rfl) (fun _ _ _ h => h) (Or.inl ⟨by rfl, fun w' hS' => by exact cat_x2 rfl rfl rfl⟩) hS76 ?_
          change wpAnyH _ _ _ _ _ _ _ (Act.put _ (some 34) (.string xData)) _
          simp only [Act.put, List.setIfInBounds_toArray, List.set_cons_zero, List.set_cons_succ]
          refine wpAnyH_take (i := 6) (v := .agg #[.string ⟨#[126, 120]⟩, .int .i64 2, .string xData, .bool false]) rfl (by kernel_rfl) (by kernel_rfl) (by kernel_rfl) (fun _ _ _ h => h) (Or.inl ⟨by rfl, fun w' hS' => by exact op_build rfl rfl⟩) hS76 ?_
          change wpAnyH _ _ _ _ _ _ _ (Act.put _ (some 35) (.agg #[.string ⟨#[126, 120]⟩, .int .i64 2, .string xData, .bool false])) _
          simp only [Act.put, List.setIfInBounds_toArray, List.set_cons_zero, List.set_cons_succ]
          refine wpAnyH_ready (rs := [8]) (by kernel_rfl) (by simp) (AllReadyH.cons rfl (fun K hK => ?_) (AllReadyH.nil))
          · skip
            obtain ⟨WE, hrE, hbE, hgE⟩ := op_store g ⟨#[126, 120]⟩ xData ⟨#[]⟩ ⟨#[]⟩ 2 0 W71 hbl77
            refine step_op_skip (hrE _ _ _ _ rfl rfl rfl) rfl ?_
            refine hK.out _ _ ⟨⟨(kept_below hS76.1.1 hgE hwg), Blk.grown hS76.1.2 hgE (fun e => blk_ne hS76.1.2 hbl77 (by decide) (Option.some.inj e))⟩, Blk.grown hS76.2 hgE (fun e => blk_ne hS76.2 hbl77 (by decide) (Option.some.inj e))⟩ (fun hSE => ?_)
            clear hK K
            refine wpAnyH_done (by kernel_rfl) ?_ _
            refine NoPanic.normal ?_
            go_wp2_with fail
            go_meet
            exact ⟨g, rfl, hwg, hbE, hSE.1.1⟩
      · skip
        obtain ⟨g2, W78, hr79, hzm2, hb80, hg81⟩ := make_z 80 (by decide) W59
        refine step_op_run (hr79 _ _ rfl) rfl ?_
        refine hK.out _ _ (hS63.trans (hb80.mono (hS63).size)) (fun hS82 => ?_)
        clear hK K
        change wpAnyH _ _ _ _ _ _ _ (Act.put _ (some 32) (.slice (some ⟨g2, 0, none⟩) 80 80)) _
        simp only [Act.put, List.setIfInBounds_toArray, List.set_cons_zero, List.set_cons_succ]
        refine wpAnyH_more (S' := fun W => Below w9.heap.size w9 W ∧ Blk W g2 5 (zc 80)) (fun _ h => h.1) ?_
        have hS83 : Below w9.heap.size w9 W78 ∧ Blk W78 g2 5 (zc 80) := ⟨hS82, hzm2⟩
        have hbl84 := Blk.below hbl61 hb80 (Blk.lt hbl61)
        clear hr79 hb80 hS82
        refine wpAnyH_take (i := 4) (v := .string (zb 80)) rfl (by kernel_rfl) (by kernel_rfl) (by kernel_rfl) (fun _ _ _ h => h) (Or.inl ⟨by rfl, fun w' hS' => by exact conv_z rfl rfl hS'.2⟩) hS83 ?_
        change wpAnyH _ _ _ _ _ _ _ (Act.put _ (some 33) (.string (zb 80))) _
        simp only [Act.put, List.setIfInBounds_toArray, List.set_cons_zero, List.set_cons_succ]
        refine wpAnyH_ready (rs := [0]) (by kernel_rfl) (by simp) (AllReadyH.cons rfl (fun K hK => ?_) (AllReadyH.nil))
        · skip
          obtain ⟨g1, W85, hr86, hzm1, hb87, hg88⟩ := make_z 70 (by decide) W78
          refine step_op_run (hr86 _ _ rfl) rfl ?_
          refine hK.out _ _ ⟨(hS83.1.trans (hb87.mono (hS83.1).size)), (Blk.below hS83.2 hb87 (Blk.lt hS83.2))⟩ (fun hS89 => ?_)
          clear hK K
          change wpAnyH _ _ _ _ _ _ _ (Act.put _ (some 29) (.slice (some ⟨g1, 0, none⟩) 70 70)) _
          simp only [Act.put, List.setIfInBounds_toArray, List.set_cons_zero, List.set_cons_succ]
          refine wpAnyH_more (S' := fun W => (Below w9.heap.size w9 W ∧ Blk W g2 5 (zc 80)) ∧ Blk W g1 5 (zc 70)) (fun _ h => h.1) ?_
          have hS90 : (Below w9.heap.size w9 W85 ∧ Blk W85 g2 5 (zc 80)) ∧ Blk W85 g1 5 (zc 70) := ⟨hS89, hzm1⟩
          have hbl91 := Blk.below hbl84 hb87 (Blk.lt hbl84)
          clear hr86 hb87 hS89
          refine wpAnyH_take (i := 1) (v := .string (zb 70)) rfl (by kernel_rfl) (by kernel_rfl) (by kernel_rfl) (fun _ _ _ h => h) (Or.inl ⟨by rfl, fun w' hS' => by exact conv_z rfl rfl hS'.2⟩) hS90 ?_
          change wpAnyH _ _ _ _ _ _ _ (Act.put _ (some 30) (.string (zb 70))) _
          simp only [Act.put, List.setIfInBounds_toArray, List.set_cons_zero, List.set_cons_succ]
          refine wpAnyH_take (i := 2) (v := .string xHead) rfl (by kernel_rfl) (by kernel_rfl) (by kernel_rfl) (fun _ _ _ h => h) (Or.inl ⟨by rfl, fun w' hS' => by exact cat_x1 rfl rfl⟩) hS90 ?_
          change wpAnyH _ _ _ _ _ _ _ (Act.put _ (some 31) (.string xHead)) _
          simp only [Act.put, List.setIfInBounds_toArray, List.set_cons_zero, List.set_cons_succ]
          refine wpAnyH_take (i := 5) (v := .string xData) rfl (by kernel_rfl) (by kernel_rfl) (by kernel_rfl) (fun _ _ _ h => h) (Or.inl ⟨by rfl, fun w' hS' => by exact cat_x2 rfl rfl rfl⟩) hS90 ?_
          change wpAnyH _ _ _ _ _ _ _ (Act.put _ (some 34) (.string xData)) _
          simp only [Act.put, List.setIfInBounds_toArray, List.set_cons_zero, List.set_cons_succ]
          refine wpAnyH_take (i := 6) (v := .agg #[.string ⟨#[126, 120]⟩, .int .i64 2, .string xData, .bool false]) rfl (by kernel_rfl) (by kernel_rfl) (by kernel_rfl) (fun _ _ _ h => h) (Or.inl ⟨by rfl, fun w' hS' => by exact op_build rfl rfl⟩) hS90 ?_
          change wpAnyH _ _ _ _ _ _ _ (Act.put _ (some 35) (.agg #[.string ⟨#[126, 120]⟩, .int .i64 2, .string xData, .bool false])) _
          simp only [Act.put, List.setIfInBounds_toArray, List.set_cons_zero, List.set_cons_succ]
          refine wpAnyH_ready (rs := [8]) (by kernel_rfl) (by simp) (AllReadyH.cons rfl (fun K hK => ?_) (AllReadyH.nil))
          · skip
            obtain ⟨WE, hrE, hbE, hgE⟩ := op_store g ⟨#[126, 120]⟩ xData ⟨#[]⟩ ⟨#[]⟩ 2 0 W85 hbl91
            refine step_op_skip (hrE _ _ _ _ rfl rfl rfl) rfl ?_
            refine hK.out _ _ ⟨⟨(kept_below hS90.1.1 hgE hwg), Blk.grown hS90.1.2 hgE (fun e => blk_ne hS90.1.2 hbl91 (by decide) (Option.some.inj e))⟩, Blk.grown hS90.2 hgE (fun e => blk_ne hS90.2 hbl91 (by decide) (Option.some.inj e))⟩ (fun hSE => ?_)
            clear hK K
            refine wpAnyH_done (by kernel_rfl) ?_ _
            refine NoPanic.normal ?_
            go_wp2_with fail
            go_meet
            exact ⟨g, rfl, hwg, hbE, hSE.1.1⟩
  case rest =>
  obtain ⟨gx, rfl, hgx, hbx, hbw⟩ := hcut
  have HBXa := Lib.hid hbx
  have U1b := Lib.hid (U1a.out.up hbw)
  have U2b := Lib.hid (U2a.out.up hbw)
  have HLb := Lib.hid (HL.out.up hbw)
  have UBb := Lib.hid (UB.out.trans (hbw.mono UB.out.size))
  clear hbx hbw hgx U1a U2a HL UB
  go_wp2_with fail
  refine (pick11_any kd 2 _ k1 k2 (by omega) (by omega)).mono ?_
  rintro e w5 ⟨rfl, rfl⟩
  obtain ⟨kv, hkv⟩ : ∃ kv : Int, pickI kd 2 = kv := ⟨_, rfl⟩
  have rk := pickI_range kd 2 (by omega)
  rw [hkv] at rk ⊢
  obtain ⟨r1, r2⟩ := rk
  clear hkv
  have e1 : IntKind.i64.wrap (2 * kv) = 2 * kv := IntWalk.i64_in _ (by omega)
  have e2 : IntKind.i64.wrap (1 + 2 * kv) = 1 + 2 * kv := IntWalk.i64_in _ (by omega)
  go_wp2_with fail
  clear e1 e2
  obtain ⟨ky, hky⟩ : ∃ ky : Int, ky = 1 + 2 * kv := ⟨_, rfl⟩
  have HKY : Hid (ky ≠ 2) := Lib.hid (by omega)
  simp only [← hky]
  obtain ⟨gy, hgy⟩ : ∃ gy, gy = wc.heap.size := ⟨_, rfl⟩
  obtain ⟨wx, hwx⟩ : ∃ wx, wx = wc.alloc (.cells #[.string ⟨#[126, 121]⟩, .int .i64 ky, .string ⟨#[97, 10, 98, 10]⟩, .bool false] 33) := ⟨_, rfl⟩
  have hbyn : Blk wx gy 33 (ic ⟨#[126, 121]⟩ ⟨#[97, 10, 98, 10]⟩ ky) := by rw [hwx, hgy]; exact Blk.new wc 33 _
  have hbl : Below wc.heap.size wc wx := by rw [hwx]; exact (Below.refl _ _).alloc (Nat.le_refl _) _
  have U1 := Lib.hid (U1b.out.up hbl)
  have U2c := Lib.hid (U2b.out.up hbl)
  have HLc := Lib.hid (HLb.out.up hbl)
  have HBX := Lib.hid (Blk.below HBXa.out hbl HBXa.out.lt)
  have UBc := Lib.hid (UBb.out.trans (hbl.mono UBb.out.size))
  have HBY := Lib.hid hbyn
  clear hbl hbyn
  rw [← hwx, ← hgy]
  clear hky hwx hgy r1 r2 U1b U2b HLb UBb HBXa
  obtain ⟨C, hC⟩ : ∃ C, C = [⟨⟨#[126, 121]⟩, ky, ⟨#[97, 10, 98, 10]⟩, false⟩] ++ a ++ [⟨⟨#[126, 120]⟩, 2, xData, false⟩] := ⟨_, rfl⟩
  obtain ⟨D, hD⟩ : ∃ D, D = [⟨⟨#[126, 121]⟩, ky, ⟨#[97, 10, 98, 10]⟩, false⟩] ++ b ++ [⟨⟨#[126, 122]⟩, 2, zData, false⟩] := ⟨_, rfl⟩
  have hCl : C.length ≤ 202 := by rw [hC]; simp; omega
  have hDl : D.length ≤ 202 := by rw [hD]; simp; omega
  have HCE := Lib.hid hC
  have HDE := Lib.hid hD
  have HFC : Hid (FitI C) := Lib.hid (by rw [hC]; exact apart_fit HO1.out ⟨Nat.le_of_ble_eq_true rfl, Nat.le_of_ble_eq_true rfl⟩ (by decide +kernel))
  have HFD : Hid (FitI D) := Lib.hid (by rw [hD]; exact apart_fit HO2.out ⟨Nat.le_of_ble_eq_true rfl, Nat.le_of_ble_eq_true rfl⟩ (by decide +kernel))
  have HC1 : Hid (∀ p, CandM (fl C) (fl b) t p ↔ CandM (fl a) (fl b) t p) := Lib.hid (by rw [hC]; exact apart_c HO2.out HKY.out rfl t)
  have HD1 : Hid (∀ p, CandM (fl a) (fl D) t p ↔ CandM (fl a) (fl b) t p) := Lib.hid (by rw [hD]; exact apart_d HO1.out HKY.out rfl t)
  have HCD : Hid (∀ p, CandM (fl C) (fl D) t p ↔ CandM (fl a) (fl b) t p) := Lib.hid (by rw [hC, hD]; exact apart_cd HO1.out HO2.out HKY.out rfl rfl t)
  clear hC hD
  go_cut [16] (fun s wz => MadeL wx C s wz)
  case first =>
    refine wp_region_noPanic ?_
    refine wp_region_held_drew (S := fun W => Below wx.heap.size wx W) (by kernel_rfl) (Below.refl wx.heap.size wx).drew (fun hS0 => ?_)
    change wpAnyH _ _ _ _ _ 9 #[false, false, false, false, false, false, false, false, false] _ (World.drew _)
    refine wpAnyH_take (i := 0) (v := .agg #[.string ⟨#[126, 121]⟩, .int .i64 ky, .string ⟨#[97, 10, 98, 10]⟩, .bool false]) rfl (by kernel_rfl) (by kernel_rfl) (by kernel_rfl) (fun _ _ _ h => h) (Or.inl ⟨by rfl, fun w' hS' => by exact op_load rfl rfl (Blk.below HBY.out hS' (Blk.lt HBY.out))⟩) hS0 ?_
    change wpAnyH _ _ _ _ _ _ _ (Act.put _ (some 41) (.agg #[.string ⟨#[126, 121]⟩, .int .i64 ky, .string ⟨#[97, 10, 98, 10]⟩, .bool false])) _
    simp only [Act.put, List.setIfInBounds_toArray, List.set_cons_zero, List.set_cons_succ]
    refine wpAnyH_take (i := 3) (v := .slice A1 a.length c1) rfl (by kernel_rfl) (by kernel_rfl) (by kernel_rfl) (fun _ _ _ h => h) (Or.inl ⟨by rfl, fun w' hS' => by exact op_move rfl rfl⟩) hS0 ?_
    change wpAnyH _ _ _ _ _ _ _ (Act.put _ (some 44) (.slice A1 a.length c1)) _
    simp only [Act.put, List.setIfInBounds_toArray, List.set_cons_zero, List.set_cons_succ]
    refine wpAnyH_take (i := 5) (v := .agg #[.string ⟨#[126, 120]⟩, .int .i64 2, .string xData, .bool false]) rfl (by kernel_rfl) (by kernel_rfl) (by kernel_rfl) (fun _ _ _ h => h) (Or.inl ⟨by rfl, fun w' hS' => by exact op_load rfl rfl (Blk.below HBX.out hS' (Blk.lt HBX.out))⟩) hS0 ?_
    change wpAnyH _ _ _ _ _ _ _ (Act.put _ (some 46) (.agg #[.string ⟨#[126, 120]⟩, .int .i64 2, .string xData, .bool false])) _
    simp only [Act.put, List.setIfInBounds_toArray, List.set_cons_zero, List.set_cons_succ]
    refine wpAnyH_ready (rs := [1, 6]) (by kernel_rfl) (by simp) (AllReadyH.cons rfl (fun K hK => ?_) (AllReadyH.cons rfl (fun K hK => ?_) (AllReadyH.nil)))
    · skip
      obtain ⟨gb, W1, hr3, by5, hb4, hgB1⟩ := op_slice ⟨#[126, 121]⟩ ⟨#[97, 10, 98, 10]⟩ ky wx.drew
      refine step_op_run (hr3 _ _ _ rfl rfl) rfl ?_
      refine hK.out _ _ (hS0.trans (hb4.mono (hS0).size)) (fun hS2 => ?_)
      clear hK K
      change wpAnyH _ _ _ _ _ _ _ (Act.put _ (some 42) (.slice (some ⟨gb, 0, none⟩) 1 1)) _
      simp only [Act.put, List.setIfInBounds_toArray, List.set_cons_zero, List.set_cons_succ]
      clear hr3 hb4
      refine wpAnyH_ready (rs := [2, 6]) (by kernel_rfl) (by simp) (AllReadyH.cons rfl (fun K hK => ?_) (AllReadyH.cons rfl (fun K hK => ?_) (AllReadyH.nil)))
      · skip
        obtain ⟨A12, d13, W6, hr8, ho10, hg11⟩ := append_kept (OwnI.nil W1) 1 1 (one_item by5) rfl [⟨⟨#[126, 121]⟩, ky, ⟨#[97, 10, 98, 10]⟩, false⟩] rfl (by simp)
        refine step_append_run2 hr8 rfl rfl rfl rfl rfl ?_
        refine hK.out _ _ (hS2.trans (ho10.2.mono (hS2).size)) (fun hS7 => ?_)
        clear hK K
        change wpAnyH _ _ _ _ _ _ _ (Act.put _ (some 43) (.slice A12 [(⟨⟨#[126, 121]⟩, ky, ⟨#[97, 10, 98, 10]⟩, false⟩ : It)].length d13)) _
        simp only [Act.put, List.setIfInBounds_toArray, List.set_cons_zero, List.set_cons_succ]
        clear hr8 hg11
        refine wpAnyH_ready (rs := [4, 6]) (by kernel_rfl) (by simp) (AllReadyH.cons rfl (fun K hK => ?_) (AllReadyH.cons rfl (fun K hK => ?_) (AllReadyH.nil)))
        · skip
          obtain ⟨A20, d21, W14, hr16, ho18, hg19⟩ := append_kept ho10 a.length c1 (U1.out.up hS7) rfl ([⟨⟨#[126, 121]⟩, ky, ⟨#[97, 10, 98, 10]⟩, false⟩] ++ a) rfl (by simp; omega)
          refine step_append_run2 hr16 rfl rfl rfl rfl rfl ?_
          refine hK.out _ _ (hS2.trans (ho18.2.mono (hS2).size)) (fun hS15 => ?_)
          clear hK K
          change wpAnyH _ _ _ _ _ _ _ (Act.put _ (some 45) (.slice A20 ([(⟨⟨#[126, 121]⟩, ky, ⟨#[97, 10, 98, 10]⟩, false⟩ : It)] ++ a).length d21)) _
          simp only [Act.put, List.setIfInBounds_toArray, List.set_cons_zero, List.set_cons_succ]
          clear hr16 hg19
          refine wpAnyH_ready (rs := [6]) (by kernel_rfl) (by simp) (AllReadyH.cons rfl (fun K hK => ?_) (AllReadyH.nil))
          · skip
            obtain ⟨gz, W22, hr24, bz26, hb25, hgB2⟩ := op_slice ⟨#[126, 120]⟩ xData 2 W14
            refine step_op_run (hr24 _ _ _ rfl rfl) rfl ?_
            refine hK.out _ _ (hS15.trans (hb25.mono (hS15).size)) (fun hS23 => ?_)
            clear hK K
            change wpAnyH _ _ _ _ _ _ _ (Act.put _ (some 47) (.slice (some ⟨gz, 0, none⟩) 1 1)) _
            simp only [Act.put, List.setIfInBounds_toArray, List.set_cons_zero, List.set_cons_succ]
            have ho27 := ho18.up hb25
            have hzf := OwnI.far ho18 hgB2
            clear hr24 hb25
            refine wpAnyH_ready (rs := [7]) (by kernel_rfl) (by simp) (AllReadyH.cons rfl (fun K hK => ?_) (AllReadyH.nil))
            · skip
              obtain ⟨A34, d35, W28, hr30, ho32, hg33⟩ := append_kept ho27 1 1 (one_item bz26) rfl C HCE.out (by omega)
              refine step_append_run2 hr30 rfl rfl rfl rfl rfl ?_
              refine hK.out _ _ (hS2.trans (ho32.2.mono (hS2).size)) (fun hS29 => ?_)
              clear hK K
              change wpAnyH _ _ _ _ _ _ _ (Act.put _ (some 48) (.slice A34 C.length d35)) _
              simp only [Act.put, List.setIfInBounds_toArray, List.set_cons_zero, List.set_cons_succ]
              clear hr30 hg33
              refine wpAnyH_take (i := 8) (v := .slice A34 C.length d35) rfl (by kernel_rfl) (by kernel_rfl) (by kernel_rfl) (fun _ _ _ h => h) (Or.inl ⟨by rfl, fun w' hS' => by exact op_assign rfl rfl⟩) hS29 ?_
              change wpAnyH _ _ _ _ _ _ _ (Act.put _ (some 16) (.slice A34 C.length d35)) _
              simp only [Act.put, List.setIfInBounds_toArray, List.set_cons_zero, List.set_cons_succ]
              refine wpAnyH_done (by kernel_rfl) ?_ _
              refine NoPanic.normal ?_
              go_wp2_with fail
              go_meet
              exact ⟨_, _, rfl, ItemsAt.of_own ho32.1 rfl, hS29⟩
        · skip
          obtain ⟨gz, W36, hr38, bz40, hb39, hgB2⟩ := op_slice ⟨#[126, 120]⟩ xData 2 W6
          refine step_op_run (hr38 _ _ _ rfl rfl) rfl ?_
          refine hK.out _ _ (hS7.trans (hb39.mono (hS7).size)) (fun hS37 => ?_)
          clear hK K
          change wpAnyH _ _ _ _ _ _ _ (Act.put _ (some 47) (.slice (some ⟨gz, 0, none⟩) 1 1)) _
          simp only [Act.put, List.setIfInBounds_toArray, List.set_cons_zero, List.set_cons_succ]
          have ho41 := ho10.up hb39
          have hzf := OwnI.far ho10 hgB2
          clear hr38 hb39
          refine wpAnyH_ready (rs := [4]) (by kernel_rfl) (by simp) (AllReadyH.cons rfl (fun K hK => ?_) (AllReadyH.nil))
          · skip
            obtain ⟨A48, d49, W42, hr44, ho46, hg47⟩ := append_kept ho41 a.length c1 (U1.out.up hS37) rfl ([⟨⟨#[126, 121]⟩, ky, ⟨#[97, 10, 98, 10]⟩, false⟩] ++ a) rfl (by simp; omega)
            refine step_append_run2 hr44 rfl rfl rfl rfl rfl ?_
            refine hK.out _ _ (hS2.trans (ho46.2.mono (hS2).size)) (fun hS43 => ?_)
            clear hK K
            change wpAnyH _ _ _ _ _ _ _ (Act.put _ (some 45) (.slice A48 ([(⟨⟨#[126, 121]⟩, ky, ⟨#[97, 10, 98, 10]⟩, false⟩ : It)] ++ a).length d49)) _
            simp only [Act.put, List.setIfInBounds_toArray, List.set_cons_zero, List.set_cons_succ]
            have bz50 := Blk.grown bz40 hg47 hzf
            clear hr44 hg47
            refine wpAnyH_ready (rs := [7]) (by kernel_rfl) (by simp) (AllReadyH.cons rfl (fun K hK => ?_) (AllReadyH.nil))
            · skip
              obtain ⟨A57, d58, W51, hr53, ho55, hg56⟩ := append_kept ho46 1 1 (one_item bz50) rfl C HCE.out (by omega)
              refine step_append_run2 hr53 rfl rfl rfl rfl rfl ?_
              refine hK.out _ _ (hS2.trans (ho55.2.mono (hS2).size)) (fun hS52 => ?_)
              clear hK K
              change wpAnyH _ _ _ _ _ _ _ (Act.put _ (some 48) (.slice A57 C.length d58)) _
              simp only [Act.put, List.setIfInBounds_toArray, List.set_cons_zero, List.set_cons_succ]
              clear hr53 hg56
              refine wpAnyH_take (i := 8) (v := .slice A57 C.length d58) rfl (by kernel_rfl) (by kernel_rfl) (by kernel_rfl) (fun _ _ _ h => h) (Or.inl ⟨by rfl, fun w' hS' => by exact op_assign rfl rfl⟩) hS52 ?_
              change wpAnyH _ _ _ _ _ _ _ (Act.put _ (some 16) (.slice A57 C.length d58)) _
              simp only [Act.put, List.setIfInBounds_toArray, List.set_cons_zero, List.set_cons_succ]
              refine wpAnyH_done (by kernel_rfl) ?_ _
              refine NoPanic.normal ?_
              go_wp2_with fail
              go_meet
              exact ⟨_, _, rfl, ItemsAt.of_own ho55.1 rfl, hS52⟩
      · skip
        obtain ⟨gz, W59, hr61, bz63, hb62, hgB2⟩ := op_slice ⟨#[126, 120]⟩ xData 2 W1
        refine step_op_run (hr61 _ _ _ rfl rfl) rfl ?_
        refine hK.out _ _ (hS2.trans (hb62.mono (hS2).size)) (fun hS60 => ?_)
        clear hK K
        change wpAnyH _ _ _ _ _ _ _ (Act.put _ (some 47) (.slice (some ⟨gz, 0, none⟩) 1 1)) _
        simp only [Act.put, List.setIfInBounds_toArray, List.set_cons_zero, List.set_cons_succ]
        have by64 := Blk.below by5 hb62 (Blk.lt by5)
        clear hr61 hb62
        refine wpAnyH_ready (rs := [2]) (by kernel_rfl) (by simp) (AllReadyH.cons rfl (fun K hK => ?_) (AllReadyH.nil))
        · skip
          obtain ⟨A71, d72, W65, hr67, ho69, hg70⟩ := append_kept (OwnI.nil W59) 1 1 (one_item by64) rfl [⟨⟨#[126, 121]⟩, ky, ⟨#[97, 10, 98, 10]⟩, false⟩] rfl (by simp)
          refine step_append_run2 hr67 rfl rfl rfl rfl rfl ?_
          refine hK.out _ _ (hS60.trans (ho69.2.mono (hS60).size)) (fun hS66 => ?_)
          clear hK K
          change wpAnyH _ _ _ _ _ _ _ (Act.put _ (some 43) (.slice A71 [(⟨⟨#[126, 121]⟩, ky, ⟨#[97, 10, 98, 10]⟩, false⟩ : It)].length d72)) _
          simp only [Act.put, List.setIfInBounds_toArray, List.set_cons_zero, List.set_cons_succ]
          clear hr67 hg70
          refine wpAnyH_ready (rs := [4]) (by kernel_rfl) (by simp) (AllReadyH.cons rfl (fun K hK => ?_) (AllReadyH.nil))
          · skip
            obtain ⟨A79, d80, W73, hr75, ho77, hg78⟩ := append_kept ho69 a.length c1 (U1.out.up hS66) rfl ([⟨⟨#[126, 121]⟩, ky, ⟨#[97, 10, 98, 10]⟩, false⟩] ++ a) rfl (by simp; omega)
            refine step_append_run2 hr75 rfl rfl rfl rfl rfl ?_
            refine hK.out _ _ (hS60.trans (ho77.2.mono (hS60).size)) (fun hS74 => ?_)
            clear hK K
            change wpAnyH _ _ _ _ _ _ _ (Act.put _ (some 45) (.slice A79 ([(⟨⟨#[126, 121]⟩, ky, ⟨#[97, 10, 98, 10]⟩, false⟩ : It)] ++ a).length d80)) _
            simp only [Act.put, List.setIfInBounds_toArray, List.set_cons_zero, List.set_cons_succ]
            clear hr75 hg78
            refine wpAnyH_ready (rs := [7]) (by kernel_rfl) (by simp) (AllReadyH.cons rfl (fun K hK => ?_) (AllReadyH.nil))
            · skip
              obtain ⟨A87, d88, W81, hr83, ho85, hg86⟩ := append_kept ho77 1 1 (one_item (Blk.below bz63 ho77.2 (Blk.lt bz63))) rfl C HCE.out (by omega)
              refine step_append_run2 hr83 rfl rfl rfl rfl rfl ?_
              refine hK.out _ _ (hS60.trans (ho85.2.mono (hS60).size)) (fun hS82 => ?_)
              clear hK K
              change wpAnyH _ _ _ _ _ _ _ (Act.put _ (some 48) (.slice A87 C.length d88)) _
              simp only [Act.put, List.setIfInBounds_toArray, List.set_cons_zero, List.set_cons_succ]
              clear hr83 hg86
              refine wpAnyH_take (i := 8) (v := .slice A87 C.length d88) rfl (by kernel_rfl) (by kernel_rfl) (by kernel_rfl) (fun _ _ _ h => h) (Or.inl ⟨by rfl, fun w' hS' => by exact op_assign rfl rfl⟩) hS82 ?_
              change wpAnyH _ _ _ _ _ _ _ (Act.put _ (some 16) (.slice A87 C.length d88)) _
              simp only [Act.put, List.setIfInBounds_toArray, List.set_cons_zero, List.set_cons_succ]
              refine wpAnyH_done (by kernel_rfl) ?_ _
              refine NoPanic.normal ?_
              go_wp2_with fail
              go_meet
              exact ⟨_, _, rfl, ItemsAt.of_own ho85.1 rfl, hS82⟩
    · skip
      obtain ⟨gz, W89, hr91, bz93, hb92, hgB2⟩ := op_slice ⟨#[126, 120]⟩ xData 2 wx.drew
      refine step_op_run (hr91 _ _ _ rfl rfl) rfl ?_
      refine hK.out _ _ (hS0.trans (hb92.mono (hS0).size)) (fun hS90 => ?_)
      clear hK K
      change wpAnyH _ _ _ _ _ _ _ (Act.put _ (some 47) (.slice (some ⟨gz, 0, none⟩) 1 1)) _
      simp only [Act.put, List.setIfInBounds_toArray, List.set_cons_zero, List.set_cons_succ]
      clear hr91 hb92
      refine wpAnyH_ready (rs := [1]) (by kernel_rfl) (by simp) (AllReadyH.cons rfl (fun K hK => ?_) (AllReadyH.nil))
      · skip
        obtain ⟨gb, W94, hr96, by98, hb97, hgB1⟩ := op_slice ⟨#[126, 121]⟩ ⟨#[97, 10, 98, 10]⟩ ky W89
        refine step_op_run (hr96 _ _ _ rfl rfl) rfl ?_
        refine hK.out _ _ (hS90.trans (hb97.mono (hS90).size)) (fun hS95 => ?_)
        clear hK K
        change wpAnyH _ _ _ _ _ _ _ (Act.put _ (some 42) (.slice (some ⟨gb, 0, none⟩) 1 1)) _
        simp only [Act.put, List.setIfInBounds_toArray, List.set_cons_zero, List.set_cons_succ]
        have bz99 := Blk.below bz93 hb97 (Blk.lt bz93)
        skip
        clear hr96 hb97
        refine wpAnyH_ready (rs := [2]) (by kernel_rfl) (by simp) (AllReadyH.cons rfl (fun K hK => ?_) (AllReadyH.nil))
        · skip
          obtain ⟨A106, d107, W100, hr102, ho104, hg105⟩ := append_kept (OwnI.nil W94) 1 1 (one_item by98) rfl [⟨⟨#[126, 121]⟩, ky, ⟨#[97, 10, 98, 10]⟩, false⟩] rfl (by simp)
          refine step_append_run2 hr102 rfl rfl rfl rfl rfl ?_
          refine hK.out _ _ (hS95.trans (ho104.2.mono (hS95).size)) (fun hS101 => ?_)
          clear hK K
          change wpAnyH _ _ _ _ _ _ _ (Act.put _ (some 43) (.slice A106 [(⟨⟨#[126, 121]⟩, ky, ⟨#[97, 10, 98, 10]⟩, false⟩ : It)].length d107)) _
          simp only [Act.put, List.setIfInBounds_toArray, List.set_cons_zero, List.set_cons_succ]
          clear hr102 hg105
          refine wpAnyH_ready (rs := [4]) (by kernel_rfl) (by simp) (AllReadyH.cons rfl (fun K hK => ?_) (AllReadyH.nil))
          · skip
            obtain ⟨A114, d115, W108, hr110, ho112, hg113⟩ := append_kept ho104 a.length c1 (U1.out.up hS101) rfl ([⟨⟨#[126, 121]⟩, ky, ⟨#[97, 10, 98, 10]⟩, false⟩] ++ a) rfl (by simp; omega)
            refine step_append_run2 hr110 rfl rfl rfl rfl rfl ?_
            refine hK.out _ _ (hS95.trans (ho112.2.mono (hS95).size)) (fun hS109 => ?_)
            clear hK K
            change wpAnyH _ _ _ _ _ _ _ (Act.put _ (some 45) (.slice A114 ([(⟨⟨#[126, 121]⟩, ky, ⟨#[97, 10, 98, 10]⟩, false⟩ : It)] ++ a).length d115)) _
            simp only [Act.put, List.setIfInBounds_toArray, List.set_cons_zero, List.set_cons_succ]
            clear hr110 hg113
            refine wpAnyH_ready (rs := [7]) (by kernel_rfl) (by simp) (AllReadyH.cons rfl (fun K hK => ?_) (AllReadyH.nil))
            · skip
              obtain ⟨A122, d123, W116, hr118, ho120, hg121⟩ := append_kept ho112 1 1 (one_item (Blk.below bz99 ho112.2 (Blk.lt bz99))) rfl C HCE.out (by omega)
              refine step_append_run2 hr118 rfl rfl rfl rfl rfl ?_
              refine hK.out _ _ (hS95.trans (ho120.2.mono (hS95).size)) (fun hS117 => ?_)
              clear hK K
              change wpAnyH _ _ _ _ _ _ _ (Act.put _ (some 48) (.slice A122 C.length d123)) _
              simp only [Act.put, List.setIfInBounds_toArray, List.set_cons_zero, List.set_cons_succ]
              clear hr118 hg121
              refine wpAnyH_take (i := 8) (v := .slice A122 C.length d123) rfl (by kernel_rfl) (by kernel_rfl) (by kernel_rfl) (fun _ _ _ h => h) (Or.inl ⟨by rfl, fun w' hS' => by exact op_assign rfl rfl⟩) hS117 ?_
              change wpAnyH _ _ _ _ _ _ _ (Act.put _ (some 16) (.slice A122 C.length d123)) _
              simp only [Act.put, List.setIfInBounds_toArray, List.set_cons_zero, List.set_cons_succ]
              refine wpAnyH_done (by kernel_rfl) ?_ _
              refine NoPanic.normal ?_
              go_wp2_with fail
              go_meet
              exact ⟨_, _, rfl, ItemsAt.of_own ho120.1 rfl, hS117⟩
  case rest =>
  obtain ⟨A16, c16, rfl, hic, hbw⟩ := hcut
  obtain ⟨wy, hwy⟩ : ∃ wy, wy = wc := ⟨_, rfl⟩
  have U1d := Lib.hid (U1.out.up hbw)
  have U2 := Lib.hid (U2c.out.up hbw)
  have HLd := Lib.hid (HLc.out.up hbw)
  have HBYy := Lib.hid (Blk.below HBY.out hbw HBY.out.lt)
  have UBd := Lib.hid (UBc.out.trans (hbw.mono UBc.out.size))
  have HIC := Lib.hid hic
  rw [← hwy] at U1d U2 HLd HBYy UBd HIC ⊢
  clear hbw hic U1 U2c HLc HBX HBY UBc hwy HCE
  go_wp2_with fail
  go_cut [17] (fun s wz => MadeL wy D s wz)
  case first =>
    refine wp_region_noPanic ?_
    refine wp_region_held_drew (S := fun W => Below wy.heap.size wy W) (by kernel_rfl) (Below.refl wy.heap.size wy).drew (fun hS0 => ?_)
    change wpAnyH _ _ _ _ _ 11 #[false, false, false, false, false, false, false, false, false, false, false] _ (World.drew _)
    refine wpAnyH_take (i := 0) (v := .agg #[.string ⟨#[126, 121]⟩, .int .i64 ky, .string ⟨#[97, 10, 98, 10]⟩, .bool false]) rfl (by kernel_rfl) (by kernel_rfl) (by kernel_rfl) (fun _ _ _ h => h) (Or.inl ⟨by rfl, fun w' hS' => by exact op_load rfl rfl (Blk.below HBYy.out hS' (Blk.lt HBYy.out))⟩) hS0 ?_
    change wpAnyH _ _ _ _ _ _ _ (Act.put _ (some 49) (.agg #[.string ⟨#[126, 121]⟩, .int .i64 ky, .string ⟨#[97, 10, 98, 10]⟩, .bool false])) _
    simp only [Act.put, List.setIfInBounds_toArray, List.set_cons_zero, List.set_cons_succ]
    refine wpAnyH_take (i := 3) (v := .slice A2 b.length c2) rfl (by kernel_rfl) (by kernel_rfl) (by kernel_rfl) (fun _ _ _ h => h) (Or.inl ⟨by rfl, fun w' hS' => by exact op_move rfl rfl⟩) hS0 ?_
    change wpAnyH _ _ _ _ _ _ _ (Act.put _ (some 52) (.slice A2 b.length c2)) _
    simp only [Act.put, List.setIfInBounds_toArray, List.set_cons_zero, List.set_cons_succ]
    refine wpAnyH_ready (rs := [1, 5]) (by kernel_rfl) (by simp) (AllReadyH.cons rfl (fun K hK => ?_) (AllReadyH.cons rfl (fun K hK => ?_) (AllReadyH.nil)))
    · skip
      obtain ⟨gb, W1, hr3, by5, hb4, hgB1⟩ := op_slice ⟨#[126, 121]⟩ ⟨#[97, 10, 98, 10]⟩ ky wy.drew
      refine step_op_run (hr3 _ _ _ rfl rfl) rfl ?_
      refine hK.out _ _ (hS0.trans (hb4.mono (hS0).size)) (fun hS2 => ?_)
      clear hK K
      change wpAnyH _ _ _ _ _ _ _ (Act.put _ (some 50) (.slice (some ⟨gb, 0, none⟩) 1 1)) _
      simp only [Act.put, List.setIfInBounds_toArray, List.set_cons_zero, List.set_cons_succ]
      clear hr3 hb4
      refine wpAnyH_ready (rs := [2, 5]) (by kernel_rfl) (by simp) (AllReadyH.cons rfl (fun K hK => ?_) (AllReadyH.cons rfl (fun K hK => ?_) (AllReadyH.nil)))
      · skip
        obtain ⟨A12, d13, W6, hr8, ho10, hg11⟩ := append_kept (OwnI.nil W1) 1 1 (one_item by5) rfl [⟨⟨#[126, 121]⟩, ky, ⟨#[97, 10, 98, 10]⟩, false⟩] rfl (by simp)
        refine step_append_run2 hr8 rfl rfl rfl rfl rfl ?_
        refine hK.out _ _ (hS2.trans (ho10.2.mono (hS2).size)) (fun hS7 => ?_)
        clear hK K
        change wpAnyH _ _ _ _ _ _ _ (Act.put _ (some 51) (.slice A12 [(⟨⟨#[126, 121]⟩, ky, ⟨#[97, 10, 98, 10]⟩, false⟩ : It)].length d13)) _
        simp only [Act.put, List.setIfInBounds_toArray, List.set_cons_zero, List.set_cons_succ]
        clear hr8 hg11
        refine wpAnyH_ready (rs := [4, 5]) (by kernel_rfl) (by simp) (AllReadyH.cons rfl (fun K hK => ?_) (AllReadyH.cons rfl (fun K hK => ?_) (AllReadyH.nil)))
        · skip
          obtain ⟨A20, d21, W14, hr16, ho18, hg19⟩ := append_kept ho10 b.length c2 (U2.out.up hS7) rfl ([⟨⟨#[126, 121]⟩, ky, ⟨#[97, 10, 98, 10]⟩, false⟩] ++ b) rfl (by simp; omega)
          refine step_append_run2 hr16 rfl rfl rfl rfl rfl ?_
          refine hK.out _ _ (hS2.trans (ho18.2.mono (hS2).size)) (fun hS15 => ?_)
          clear hK K
          change wpAnyH _ _ _ _ _ _ _ (Act.put _ (some 53) (.slice A20 ([(⟨⟨#[126, 121]⟩, ky, ⟨#[97, 10, 98, 10]⟩, false⟩ : It)] ++ b).length d21)) _
          simp only [Act.put, List.setIfInBounds_toArray, List.set_cons_zero, List.set_cons_succ]
          clear hr16 hg19
          refine wpAnyH_ready (rs := [5]) (by kernel_rfl) (by simp) (AllReadyH.cons rfl (fun K hK => ?_) (AllReadyH.nil))
          · skip
            obtain ⟨gm, W22, hr24, hz26, hb25, hgm⟩ := make_z 90 (by decide) W14
            refine step_op_run (hr24 _ _ rfl) rfl ?_
            refine hK.out _ _ (hS15.trans (hb25.mono (hS15).size)) (fun hS23 => ?_)
            clear hK K
            change wpAnyH _ _ _ _ _ _ _ (Act.put _ (some 54) (.slice (some ⟨gm, 0, none⟩) 90 90)) _
            simp only [Act.put, List.setIfInBounds_toArray, List.set_cons_zero, List.set_cons_succ]
            refine wpAnyH_more (S' := fun W => Below wy.heap.size wy W ∧ Blk W gm 5 (zc 90)) (fun _ h => h.1) ?_
            have hS27 : Below wy.heap.size wy W22 ∧ Blk W22 gm 5 (zc 90) := ⟨hS23, hz26⟩
            have ho28 := ho18.up hb25
            clear hr24 hb25 hS23
            refine wpAnyH_take (i := 6) (v := .string (zb 90)) rfl (by kernel_rfl) (by kernel_rfl) (by kernel_rfl) (fun _ _ _ h => h) (Or.inl ⟨by rfl, fun w' hS' => by exact conv_z rfl rfl hS'.2⟩) hS27 ?_
            change wpAnyH _ _ _ _ _ _ _ (Act.put _ (some 55) (.string (zb 90))) _
            simp only [Act.put, List.setIfInBounds_toArray, List.set_cons_zero, List.set_cons_succ]
            refine wpAnyH_take (i := 7) (v := .agg #[.string ⟨#[126, 122]⟩, .int .i64 2, .string (zb 90), .bool false]) rfl (by kernel_rfl) (by kernel_rfl) (by kernel_rfl) (fun _ _ _ h => h) (Or.inl ⟨by rfl, fun w' hS' => by exact op_build rfl rfl⟩) hS27 ?_
            change wpAnyH _ _ _ _ _ _ _ (Act.put _ (some 56) (.agg #[.string ⟨#[126, 122]⟩, .int .i64 2, .string (zb 90), .bool false])) _
            simp only [Act.put, List.setIfInBounds_toArray, List.set_cons_zero, List.set_cons_succ]
            refine wpAnyH_ready (rs := [8]) (by kernel_rfl) (by simp) (AllReadyH.cons rfl (fun K hK => ?_) (AllReadyH.nil))
            · skip
              obtain ⟨gz, W29, hr31, bz33, hb32, hgB2⟩ := op_slice ⟨#[126, 122]⟩ zData 2 W22
              refine step_op_run (hr31 _ _ _ rfl rfl) rfl ?_
              refine hK.out _ _ ⟨(hS27.1.trans (hb32.mono (hS27.1).size)), Blk.below hS27.2 hb32 (Blk.lt hS27.2)⟩ (fun hS30 => ?_)
              clear hK K
              change wpAnyH _ _ _ _ _ _ _ (Act.put _ (some 57) (.slice (some ⟨gz, 0, none⟩) 1 1)) _
              simp only [Act.put, List.setIfInBounds_toArray, List.set_cons_zero, List.set_cons_succ]
              have ho34 := ho28.up hb32
              have hzf := OwnI.far ho28 hgB2
              clear hr31 hb32
              refine wpAnyH_ready (rs := [9]) (by kernel_rfl) (by simp) (AllReadyH.cons rfl (fun K hK => ?_) (AllReadyH.nil))
              · skip
                obtain ⟨A41, d42, W35, hr37, ho39, hg40⟩ := append_kept ho34 1 1 (one_item bz33) rfl D HDE.out (by omega)
                refine step_append_run2 hr37 rfl rfl rfl rfl rfl ?_
                refine hK.out _ _ ⟨(hS2.trans (ho39.2.mono (hS2).size)), Blk.grown hS30.2 hg40 (own_blk_ne (ho34).1 hS30.2 (by decide))⟩ (fun hS36 => ?_)
                clear hK K
                change wpAnyH _ _ _ _ _ _ _ (Act.put _ (some 58) (.slice A41 D.length d42)) _
                simp only [Act.put, List.setIfInBounds_toArray, List.set_cons_zero, List.set_cons_succ]
                clear hr37 hg40
                refine wpAnyH_take (i := 10) (v := .slice A41 D.length d42) rfl (by kernel_rfl) (by kernel_rfl) (by kernel_rfl) (fun _ _ _ h => h) (Or.inl ⟨by rfl, fun w' hS' => by exact op_assign rfl rfl⟩) hS36 ?_
                change wpAnyH _ _ _ _ _ _ _ (Act.put _ (some 17) (.slice A41 D.length d42)) _
                simp only [Act.put, List.setIfInBounds_toArray, List.set_cons_zero, List.set_cons_succ]
                refine wpAnyH_done (by kernel_rfl) ?_ _
                refine NoPanic.normal ?_
                go_wp2_with fail
                go_meet
                exact ⟨_, _, rfl, ItemsAt.of_own ho39.1 rfl, hS36.1⟩
        · skip
          obtain ⟨gm, W43, hr45, hz47, hb46, hgm⟩ := make_z 90 (by decide) W6
          refine step_op_run (hr45 _ _ rfl) rfl ?_
          refine hK.out _ _ (hS7.trans (hb46.mono (hS7).size)) (fun hS44 => ?_)
          clear hK K
          change wpAnyH _ _ _ _ _ _ _ (Act.put _ (some 54) (.slice (some ⟨gm, 0, none⟩) 90 90)) _
          simp only [Act.put, List.setIfInBounds_toArray, List.set_cons_zero, List.set_cons_succ]
          refine wpAnyH_more (S' := fun W => Below wy.heap.size wy W ∧ Blk W gm 5 (zc 90)) (fun _ h => h.1) ?_
          have hS48 : Below wy.heap.size wy W43 ∧ Blk W43 gm 5 (zc 90) := ⟨hS44, hz47⟩
          have ho49 := ho10.up hb46
          clear hr45 hb46 hS44
          refine wpAnyH_take (i := 6) (v := .string (zb 90)) rfl (by kernel_rfl) (by kernel_rfl) (by kernel_rfl) (fun _ _ _ h => h) (Or.inl ⟨by rfl, fun w' hS' => by exact conv_z rfl rfl hS'.2⟩) hS48 ?_
          change wpAnyH _ _ _ _ _ _ _ (Act.put _ (some 55) (.string (zb 90))) _
          simp only [Act.put, List.setIfInBounds_toArray, List.set_cons_zero, List.set_cons_succ]
          refine wpAnyH_take (i := 7) (v := .agg #[.string ⟨#[126, 122]⟩, .int .i64 2, .string (zb 90), .bool false]) rfl (by kernel_rfl) (by kernel_rfl) (by kernel_rfl) (fun _ _ _ h => h) (Or.inl ⟨by rfl, fun w' hS' => by exact op_build rfl rfl⟩) hS48 ?_
          change wpAnyH _ _ _ _ _ _ _ (Act.put _ (some 56) (.agg #[.string ⟨#[126, 122]⟩, .int .i64 2, .string (zb 90), .bool false])) _
          simp only [Act.put, List.setIfInBounds_toArray, List.set_cons_zero, List.set_cons_succ]
          refine wpAnyH_ready (rs := [4, 8]) (by kernel_rfl) (by simp) (AllReadyH.cons rfl (fun K hK => ?_) (AllReadyH.cons rfl (fun K hK => ?_) (AllReadyH.nil)))
          · skip
            obtain ⟨A56, d57, W50, hr52, ho54, hg55⟩ := append_kept ho49 b.length c2 (U2.out.up hS48.1) rfl ([⟨⟨#[126, 121]⟩, ky, ⟨#[97, 10, 98, 10]⟩, false⟩] ++ b) rfl (by simp; omega)
            refine step_append_run2 hr52 rfl rfl rfl rfl rfl ?_
            refine hK.out _ _ ⟨(hS2.trans (ho54.2.mono (hS2).size)), Blk.grown hS48.2 hg55 (own_blk_ne (ho49).1 hS48.2 (by decide))⟩ (fun hS51 => ?_)
            clear hK K
            change wpAnyH _ _ _ _ _ _ _ (Act.put _ (some 53) (.slice A56 ([(⟨⟨#[126, 121]⟩, ky, ⟨#[97, 10, 98, 10]⟩, false⟩ : It)] ++ b).length d57)) _
            simp only [Act.put, List.setIfInBounds_toArray, List.set_cons_zero, List.set_cons_succ]
            clear hr52 hg55
            refine wpAnyH_ready (rs := [8]) (by kernel_rfl) (by simp) (AllReadyH.cons rfl (fun K hK => ?_) (AllReadyH.nil))
            · skip
              obtain ⟨gz, W58, hr60, bz62, hb61, hgB2⟩ := op_slice ⟨#[126, 122]⟩ zData 2 W50
              refine step_op_run (hr60 _ _ _ rfl rfl) rfl ?_
              refine hK.out _ _ ⟨(hS51.1.trans (hb61.mono (hS51.1).size)), Blk.below hS51.2 hb61 (Blk.lt hS51.2)⟩ (fun hS59 => ?_)
              clear hK K
              change wpAnyH _ _ _ _ _ _ _ (Act.put _ (some 57) (.slice (some ⟨gz, 0, none⟩) 1 1)) _
              simp only [Act.put, List.setIfInBounds_toArray, List.set_cons_zero, List.set_cons_succ]
              have ho63 := ho54.up hb61
              have hzf := OwnI.far ho54 hgB2
              clear hr60 hb61
              refine wpAnyH_ready (rs := [9]) (by kernel_rfl) (by simp) (AllReadyH.cons rfl (fun K hK => ?_) (AllReadyH.nil))
              · skip
                obtain ⟨A70, d71, W64, hr66, ho68, hg69⟩ := append_kept ho63 1 1 (one_item bz62) rfl D HDE.out (by omega)
                refine step_append_run2 hr66 rfl rfl rfl rfl rfl ?_
                refine hK.out _ _ ⟨(hS2.trans (ho68.2.mono (hS2).size)), Blk.grown hS59.2 hg69 (own_blk_ne (ho63).1 hS59.2 (by decide))⟩ (fun hS65 => ?_)
                clear hK K
                change wpAnyH _ _ _ _ _ _ _ (Act.put _ (some 58) (.slice A70 D.length d71)) _
                simp only [Act.put, List.setIfInBounds_toArray, List.set_cons_zero, List.set_cons_succ]
                clear hr66 hg69
                refine wpAnyH_take (i := 10) (v := .slice A70 D.length d71) rfl (by kernel_rfl) (by kernel_rfl) (by kernel_rfl) (fun _ _ _ h => h) (Or.inl ⟨by rfl, fun w' hS' => by exact op_assign rfl rfl⟩) hS65 ?_
                change wpAnyH _ _ _ _ _ _ _ (Act.put _ (some 17) (.slice A70 D.length d71)) _
                simp only [Act.put, List.setIfInBounds_toArray, List.set_cons_zero, List.set_cons_succ]
                refine wpAnyH_done (by kernel_rfl) ?_ _
                refine NoPanic.normal ?_
                go_wp2_with fail
                go_meet
                exact ⟨_, _, rfl, ItemsAt.of_own ho68.1 rfl, hS65.1⟩
          · skip
            obtain ⟨gz, W72, hr74, bz76, hb75, hgB2⟩ := op_slice ⟨#[126, 122]⟩ zData 2 W43
            refine step_op_run (hr74 _ _ _ rfl rfl) rfl ?_
            refine hK.out _ _ ⟨(hS48.1.trans (hb75.mono (hS48.1).size)), Blk.below hS48.2 hb75 (Blk.lt hS48.2)⟩ (fun hS73 => ?_)
            clear hK K
            change wpAnyH _ _ _ _ _ _ _ (Act.put _ (some 57) (.slice (some ⟨gz, 0, none⟩) 1 1)) _
            simp only [Act.put, List.setIfInBounds_toArray, List.set_cons_zero, List.set_cons_succ]
            have ho77 := ho49.up hb75
            have hzf := OwnI.far ho49 hgB2
            clear hr74 hb75
            refine wpAnyH_ready (rs := [4]) (by kernel_rfl) (by simp) (AllReadyH.cons rfl (fun K hK => ?_) (AllReadyH.nil))
            · skip
              obtain ⟨A84, d85, W78, hr80, ho82, hg83⟩ := append_kept ho77 b.length c2 (U2.out.up hS73.1) rfl ([⟨⟨#[126, 121]⟩, ky, ⟨#[97, 10, 98, 10]⟩, false⟩] ++ b) rfl (by simp; omega)
              refine step_append_run2 hr80 rfl rfl rfl rfl rfl ?_
              refine hK.out _ _ ⟨(hS2.trans (ho82.2.mono (hS2).size)), Blk.grown hS73.2 hg83 (own_blk_ne (ho77).1 hS73.2 (by decide))⟩ (fun hS79 => ?_)
              clear hK K
              change wpAnyH _ _ _ _ _ _ _ (Act.put _ (some 53) (.slice A84 ([(⟨⟨#[126, 121]⟩, ky, ⟨#[97, 10, 98, 10]⟩, false⟩ : It)] ++ b).length d85)) _
              simp only [Act.put, List.setIfInBounds_toArray, List.set_cons_zero, List.set_cons_succ]
              have bz86 := Blk.grown bz76 hg83 hzf
              clear hr80 hg83
              refine wpAnyH_ready (rs := [9]) (by kernel_rfl) (by simp) (AllReadyH.cons rfl (fun K hK => ?_) (AllReadyH.nil))
              · skip
                obtain ⟨A93, d94, W87, hr89, ho91, hg92⟩ := append_kept ho82 1 1 (one_item bz86) rfl D HDE.out (by omega)
                refine step_append_run2 hr89 rfl rfl rfl rfl rfl ?_
                refine hK.out _ _ ⟨(hS2.trans (ho91.2.mono (hS2).size)), Blk.grown hS79.2 hg92 (own_blk_ne (ho82).1 hS79.2 (by decide))⟩ (fun hS88 => ?_)
                clear hK K
                change wpAnyH _ _ _ _ _ _ _ (Act.put _ (some 58) (.slice A93 D.length d94)) _
                simp only [Act.put, List.setIfInBounds_toArray, List.set_cons_zero, List.set_cons_succ]
                clear hr89 hg92
                refine wpAnyH_take (i := 10) (v := .slice A93 D.length d94) rfl (by kernel_rfl) (by kernel_rfl) (by kernel_rfl) (fun _ _ _ h => h) (Or.inl ⟨by rfl, fun w' hS' => by exact op_assign rfl rfl⟩) hS88 ?_
                change wpAnyH _ _ _ _ _ _ _ (Act.put _ (some 17) (.slice A93 D.length d94)) _
                simp only [Act.put, List.setIfInBounds_toArray, List.set_cons_zero, List.set_cons_succ]
                refine wpAnyH_done (by kernel_rfl) ?_ _
                refine NoPanic.normal ?_
                go_wp2_with fail
                go_meet
                exact ⟨_, _, rfl, ItemsAt.of_own ho91.1 rfl, hS88.1⟩
      · skip
        obtain ⟨gm, W95, hr97, hz99, hb98, hgm⟩ := make_z 90 (by decide) W1
        refine step_op_run (hr97 _ _ rfl) rfl ?_
        refine hK.out _ _ (hS2.trans (hb98.mono (hS2).size)) (fun hS96 => ?_)
        clear hK K
        change wpAnyH _ _ _ _ _ _ _ (Act.put _ (some 54) (.slice (some ⟨gm, 0, none⟩) 90 90)) _
        simp only [Act.put, List.setIfInBounds_toArray, List.set_cons_zero, List.set_cons_succ]
        refine wpAnyH_more (S' := fun W => Below wy.heap.size wy W ∧ Blk W gm 5 (zc 90)) (fun _ h => h.1) ?_
        have hS100 : Below wy.heap.size wy W95 ∧ Blk W95 gm 5 (zc 90) := ⟨hS96, hz99⟩
        have by101 := Blk.below by5 hb98 (Blk.lt by5)
        clear hr97 hb98 hS96
        refine wpAnyH_take (i := 6) (v := .string (zb 90)) rfl (by kernel_rfl) (by kernel_rfl) (by kernel_rfl) (fun _ _ _ h => h) (Or.inl ⟨by rfl, fun w' hS' => by exact conv_z rfl rfl hS'.2⟩) hS100 ?_
        change wpAnyH _ _ _ _ _ _ _ (Act.put _ (some 55) (.string (zb 90))) _
        simp only [Act.put, List.setIfInBounds_toArray, List.set_cons_zero, List.set_cons_succ]
        refine wpAnyH_take (i := 7) (v := .agg #[.string ⟨#[126, 122]⟩, .int .i64 2, .string (zb 90), .bool false]) rfl (by kernel_rfl) (by kernel_rfl) (by kernel_rfl) (fun _ _ _ h => h) (Or.inl ⟨by rfl, fun w' hS' => by exact op_build rfl rfl⟩) hS100 ?_
        change wpAnyH _ _ _ _ _ _ _ (Act.put _ (some 56) (.agg #[.string ⟨#[126, 122]⟩, .int .i64 2, .string (zb 90), .bool false])) _
        simp only [Act.put, List.setIfInBounds_toArray, List.set_cons_zero, List.set_cons_succ]
        refine wpAnyH_ready (rs := [2, 8]) (by kernel_rfl) (by simp) (AllReadyH.cons rfl (fun K hK => ?_) (AllReadyH.cons rfl (fun K hK => ?_) (AllReadyH.nil)))
        · skip
          obtain ⟨A108, d109, W102, hr104, ho106, hg107⟩ := append_kept (OwnI.nil W95) 1 1 (one_item by101) rfl [⟨⟨#[126, 121]⟩, ky, ⟨#[97, 10, 98, 10]⟩, false⟩] rfl (by simp)
          refine step_append_run2 hr104 rfl rfl rfl rfl rfl ?_
          refine hK.out _ _ ⟨(hS100.1.trans (ho106.2.mono (hS100.1).size)), Blk.grown hS100.2 hg107 (own_blk_ne ((OwnI.nil W95)).1 hS100.2 (by decide))⟩ (fun hS103 => ?_)
          clear hK K
          change wpAnyH _ _ _ _ _ _ _ (Act.put _ (some 51) (.slice A108 [(⟨⟨#[126, 121]⟩, ky, ⟨#[97, 10, 98, 10]⟩, false⟩ : It)].length d109)) _
          simp only [Act.put, List.setIfInBounds_toArray, List.set_cons_zero, List.set_cons_succ]
          clear hr104 hg107
          refine wpAnyH_ready (rs := [4, 8]) (by kernel_rfl) (by simp) (AllReadyH.cons rfl (fun K hK => ?_) (AllReadyH.cons rfl (fun K hK => ?_) (AllReadyH.nil)))
          · skip
            obtain ⟨A116, d117, W110, hr112, ho114, hg115⟩ := append_kept ho106 b.length c2 (U2.out.up hS103.1) rfl ([⟨⟨#[126, 121]⟩, ky, ⟨#[97, 10, 98, 10]⟩, false⟩] ++ b) rfl (by simp; omega)
            refine step_append_run2 hr112 rfl rfl rfl rfl rfl ?_
            refine hK.out _ _ ⟨(hS100.1.trans (ho114.2.mono (hS100.1).size)), Blk.grown hS103.2 hg115 (own_blk_ne (ho106).1 hS103.2 (by decide))⟩ (fun hS111 => ?_)
            clear hK K
            change wpAnyH _ _ _ _ _ _ _ (Act.put _ (some 53) (.slice A116 ([(⟨⟨#[126, 121]⟩, ky, ⟨#[97, 10, 98, 10]⟩, false⟩ : It)] ++ b).length d117)) _
            simp only [Act.put, List.setIfInBounds_toArray, List.set_cons_zero, List.set_cons_succ]
            clear hr112 hg115
            refine wpAnyH_ready (rs := [8]) (by kernel_rfl) (by simp) (AllReadyH.cons rfl (fun K hK => ?_) (AllReadyH.nil))
            · skip
              obtain ⟨gz, W118, hr120, bz122, hb121, hgB2⟩ := op_slice ⟨#[126, 122]⟩ zData 2 W110
              refine step_op_run (hr120 _ _ _ rfl rfl) rfl ?_
              refine hK.out _ _ ⟨(hS111.1.trans (hb121.mono (hS111.1).size)), Blk.below hS111.2 hb121 (Blk.lt hS111.2)⟩ (fun hS119 => ?_)
              clear hK K
              change wpAnyH _ _ _ _ _ _ _ (Act.put _ (some 57) (.slice (some ⟨gz, 0, none⟩) 1 1)) _
              simp only [Act.put, List.setIfInBounds_toArray, List.set_cons_zero, List.set_cons_succ]
              have ho123 := ho114.up hb121
              have hzf := OwnI.far ho114 hgB2
              clear hr120 hb121
              refine wpAnyH_ready (rs := [9]) (by kernel_rfl) (by simp) (AllReadyH.cons rfl (fun K hK => ?_) (AllReadyH.nil))
              · skip
                obtain ⟨A130, d131, W124, hr126, ho128, hg129⟩ := append_kept ho123 1 1 (one_item bz122) rfl D HDE.out (by omega)
                refine step_append_run2 hr126 rfl rfl rfl rfl rfl ?_
                refine hK.out _ _ ⟨(hS100.1.trans (ho128.2.mono (hS100.1).size)), Blk.grown hS119.2 hg129 (own_blk_ne (ho123).1 hS119.2 (by decide))⟩ (fun hS125 => ?_)
                clear hK K
                change wpAnyH _ _ _ _ _ _ _ (Act.put _ (some 58) (.slice A130 D.length d131)) _
                simp only [Act.put, List.setIfInBounds_toArray, List.set_cons_zero, List.set_cons_succ]
                clear hr126 hg129
                refine wpAnyH_take (i := 10) (v := .slice A130 D.length d131) rfl (by kernel_rfl) (by kernel_rfl) (by kernel_rfl) (fun _ _ _ h => h) (Or.inl ⟨by rfl, fun w' hS' => by exact op_assign rfl rfl⟩) hS125 ?_
                change wpAnyH _ _ _ _ _ _ _ (Act.put _ (some 17) (.slice A130 D.length d131)) _
                simp only [Act.put, List.setIfInBounds_toArray, List.set_cons_zero, List.set_cons_succ]
                refine wpAnyH_done (by kernel_rfl) ?_ _
                refine NoPanic.normal ?_
                go_wp2_with fail
                go_meet
                exact ⟨_, _, rfl, ItemsAt.of_own ho128.1 rfl, hS125.1⟩
          · skip
            obtain ⟨gz, W132, hr134, bz136, hb135, hgB2⟩ := op_slice ⟨#[126, 122]⟩ zData 2 W102
            refine step_op_run (hr134 _ _ _ rfl rfl) rfl ?_
            refine hK.out _ _ ⟨(hS103.1.trans (hb135.mono (hS103.1).size)), Blk.below hS103.2 hb135 (Blk.lt hS103.2)⟩ (fun hS133 => ?_)
            clear hK K
            change wpAnyH _ _ _ _ _ _ _ (Act.put _ (some 57) (.slice (some ⟨gz, 0, none⟩) 1 1)) _
            simp only [Act.put, List.setIfInBounds_toArray, List.set_cons_zero, List.set_cons_succ]
            have ho137 := ho106.up hb135
            have hzf := OwnI.far ho106 hgB2
            clear hr134 hb135
            refine wpAnyH_ready (rs := [4]) (by kernel_rfl) (by simp) (AllReadyH.cons rfl (fun K hK => ?_) (AllReadyH.nil))
            · skip
              obtain ⟨A144, d145, W138, hr140, ho142, hg143⟩ := append_kept ho137 b.length c2 (U2.out.up hS133.1) rfl ([⟨⟨#[126, 121]⟩, ky, ⟨#[97, 10, 98, 10]⟩, false⟩] ++ b) rfl (by simp; omega)
              refine step_append_run2 hr140 rfl rfl rfl rfl rfl ?_
              refine hK.out _ _ ⟨(hS100.1.trans (ho142.2.mono (hS100.1).size)), Blk.grown hS133.2 hg143 (own_blk_ne (ho137).1 hS133.2 (by decide))⟩ (fun hS139 => ?_)
              clear hK K
              change wpAnyH _ _ _ _ _ _ _ (Act.put _ (some 53) (.slice A144 ([(⟨⟨#[126, 121]⟩, ky, ⟨#[97, 10, 98, 10]⟩, false⟩ : It)] ++ b).length d145)) _
              simp only [Act.put, List.setIfInBounds_toArray, List.set_cons_zero, List.set_cons_succ]
              have bz146 := Blk.grown bz136 hg143 hzf
              clear hr140 hg143
              refine wpAnyH_ready (rs := [9]) (by kernel_rfl) (by simp) (AllReadyH.cons rfl (fun K hK => ?_) (AllReadyH.nil))
              · skip
                obtain ⟨A153, d154, W147, hr149, ho151, hg152⟩ := append_kept ho142 1 1 (one_item bz146) rfl D HDE.out (by omega)
                refine step_append_run2 hr149 rfl rfl rfl rfl rfl ?_
                refine hK.out _ _ ⟨(hS100.1.trans (ho151.2.mono (hS100.1).size)), Blk.grown hS139.2 hg152 (own_blk_ne (ho142).1 hS139.2 (by decide))⟩ (fun hS148 => ?_)
                clear hK K
                change wpAnyH _ _ _ _ _ _ _ (Act.put _ (some 58) (.slice A153 D.length d154)) _
                simp only [Act.put, List.setIfInBounds_toArray, List.set_cons_zero, List.set_cons_succ]
                clear hr149 hg152
                refine wpAnyH_take (i := 10) (v := .slice A153 D.length d154) rfl (by kernel_rfl) (by kernel_rfl) (by kernel_rfl) (fun _ _ _ h => h) (Or.inl ⟨by rfl, fun w' hS' => by exact op_assign rfl rfl⟩) hS148 ?_
                change wpAnyH _ _ _ _ _ _ _ (Act.put _ (some 17) (.slice A153 D.length d154)) _
                simp only [Act.put, List.setIfInBounds_toArray, List.set_cons_zero, List.set_cons_succ]
                refine wpAnyH_done (by kernel_rfl) ?_ _
                refine NoPanic.normal ?_
                go_wp2_with fail
                go_meet
                exact ⟨_, _, rfl, ItemsAt.of_own ho151.1 rfl, hS148.1⟩
        · skip
          obtain ⟨gz, W155, hr157, bz159, hb158, hgB2⟩ := op_slice ⟨#[126, 122]⟩ zData 2 W95
          refine step_op_run (hr157 _ _ _ rfl rfl) rfl ?_
          refine hK.out _ _ ⟨(hS100.1.trans (hb158.mono (hS100.1).size)), Blk.below hS100.2 hb158 (Blk.lt hS100.2)⟩ (fun hS156 => ?_)
          clear hK K
          change wpAnyH _ _ _ _ _ _ _ (Act.put _ (some 57) (.slice (some ⟨gz, 0, none⟩) 1 1)) _
          simp only [Act.put, List.setIfInBounds_toArray, List.set_cons_zero, List.set_cons_succ]
          have by160 := Blk.below by101 hb158 (Blk.lt by101)
          clear hr157 hb158
          refine wpAnyH_ready (rs := [2]) (by kernel_rfl) (by simp) (AllReadyH.cons rfl (fun K hK => ?_) (AllReadyH.nil))
          · skip
            obtain ⟨A167, d168, W161, hr163, ho165, hg166⟩ := append_kept (OwnI.nil W155) 1 1 (one_item by160) rfl [⟨⟨#[126, 121]⟩, ky, ⟨#[97, 10, 98, 10]⟩, false⟩] rfl (by simp)
            refine step_append_run2 hr163 rfl rfl rfl rfl rfl ?_
            refine hK.out _ _ ⟨(hS156.1.trans (ho165.2.mono (hS156.1).size)), Blk.grown hS156.2 hg166 (own_blk_ne ((OwnI.nil W155)).1 hS156.2 (by decide))⟩ (fun hS162 => ?_)
            clear hK K
            change wpAnyH _ _ _ _ _ _ _ (Act.put _ (some 51) (.slice A167 [(⟨⟨#[126, 121]⟩, ky, ⟨#[97, 10, 98, 10]⟩, false⟩ : It)].length d168)) _
            simp only [Act.put, List.setIfInBounds_toArray, List.set_cons_zero, List.set_cons_succ]
            clear hr163 hg166
            refine wpAnyH_ready (rs := [4]) (by kernel_rfl) (by simp) (AllReadyH.cons rfl (fun K hK => ?_) (AllReadyH.nil))
            · skip
              obtain ⟨A175, d176, W169, hr171, ho173, hg174⟩ := append_kept ho165 b.length c2 (U2.out.up hS162.1) rfl ([⟨⟨#[126, 121]⟩, ky, ⟨#[97, 10, 98, 10]⟩, false⟩] ++ b) rfl (by simp; omega)
              refine step_append_run2 hr171 rfl rfl rfl rfl rfl ?_
              refine hK.out _ _ ⟨(hS156.1.trans (ho173.2.mono (hS156.1).size)), Blk.grown hS162.2 hg174 (own_blk_ne (ho165).1 hS162.2 (by decide))⟩ (fun hS170 => ?_)
              clear hK K
              change wpAnyH _ _ _ _ _ _ _ (Act.put _ (some 53) (.slice A175 ([(⟨⟨#[126, 121]⟩, ky, ⟨#[97, 10, 98, 10]⟩, false⟩ : It)] ++ b).length d176)) _
              simp only [Act.put, List.setIfInBounds_toArray, List.set_cons_zero, List.set_cons_succ]
              clear hr171 hg174
              refine wpAnyH_ready (rs := [9]) (by kernel_rfl) (by simp) (AllReadyH.cons rfl (fun K hK => ?_) (AllReadyH.nil))
              · skip
                obtain ⟨A183, d184, W177, hr179, ho181, hg182⟩ := append_kept ho173 1 1 (one_item (Blk.below bz159 ho173.2 (Blk.lt bz159))) rfl D HDE.out (by omega)
                refine step_append_run2 hr179 rfl rfl rfl rfl rfl ?_
                refine hK.out _ _ ⟨(hS156.1.trans (ho181.2.mono (hS156.1).size)), Blk.grown hS170.2 hg182 (own_blk_ne (ho173).1 hS170.2 (by decide))⟩ (fun hS178 => ?_)
                clear hK K
                change wpAnyH _ _ _ _ _ _ _ (Act.put _ (some 58) (.slice A183 D.length d184)) _
                simp only [Act.put, List.setIfInBounds_toArray, List.set_cons_zero, List.set_cons_succ]
                clear hr179 hg182
                refine wpAnyH_take (i := 10) (v := .slice A183 D.length d184) rfl (by kernel_rfl) (by kernel_rfl) (by kernel_rfl) (fun _ _ _ h => h) (Or.inl ⟨by rfl, fun w' hS' => by exact op_assign rfl rfl⟩) hS178 ?_
                change wpAnyH _ _ _ _ _ _ _ (Act.put _ (some 17) (.slice A183 D.length d184)) _
                simp only [Act.put, List.setIfInBounds_toArray, List.set_cons_zero, List.set_cons_succ]
                refine wpAnyH_done (by kernel_rfl) ?_ _
                refine NoPanic.normal ?_
                go_wp2_with fail
                go_meet
                exact ⟨_, _, rfl, ItemsAt.of_own ho181.1 rfl, hS178.1⟩
    · skip
      obtain ⟨gm, W185, hr187, hz189, hb188, hgm⟩ := make_z 90 (by decide) wy.drew
      refine step_op_run (hr187 _ _ rfl) rfl ?_
      refine hK.out _ _ (hS0.trans (hb188.mono (hS0).size)) (fun hS186 => ?_)
      clear hK K
      change wpAnyH _ _ _ _ _ _ _ (Act.put _ (some 54) (.slice (some ⟨gm, 0, none⟩) 90 90)) _
      simp only [Act.put, List.setIfInBounds_toArray, List.set_cons_zero, List.set_cons_succ]
      refine wpAnyH_more (S' := fun W => Below wy.heap.size wy W ∧ Blk W gm 5 (zc 90)) (fun _ h => h.1) ?_
      have hS190 : Below wy.heap.size wy W185 ∧ Blk W185 gm 5 (zc 90) := ⟨hS186, hz189⟩
      clear hr187 hb188 hS186
      refine wpAnyH_take (i := 6) (v := .string (zb 90)) rfl (by kernel_rfl) (by kernel_rfl) (by kernel_rfl) (fun _ _ _ h => h) (Or.inl ⟨by rfl, fun w' hS' => by exact conv_z rfl rfl hS'.2⟩) hS190 ?_
      change wpAnyH _ _ _ _ _ _ _ (Act.put _ (some 55) (.string (zb 90))) _
      simp only [Act.put, List.setIfInBounds_toArray, List.set_cons_zero, List.set_cons_succ]
      refine wpAnyH_take (i := 7) (v := .agg #[.string ⟨#[126, 122]⟩, .int .i64 2, .string (zb 90), .bool false]) rfl (by kernel_rfl) (by kernel_rfl) (by kernel_rfl) (fun _ _ _ h => h) (Or.inl ⟨by rfl, fun w' hS' => by exact op_build rfl rfl⟩) hS190 ?_
      change wpAnyH _ _ _ _ _ _ _ (Act.put _ (some 56) (.agg #[.string ⟨#[126, 122]⟩, .int .i64 2, .string (zb 90), .bool false])) _
      simp only [Act.put, List.setIfInBounds_toArray, List.set_cons_zero, List.set_cons_succ]
      refine wpAnyH_ready (rs := [1, 8]) (by kernel_rfl) (by simp) (AllReadyH.cons rfl (fun K hK => ?_) (AllReadyH.cons rfl (fun K hK => ?_) (AllReadyH.nil)))
      · skip
        obtain ⟨gb, W191, hr193, by195, hb194, hgB1⟩ := op_slice ⟨#[126, 121]⟩ ⟨#[97, 10, 98, 10]⟩ ky W185
        refine step_op_run (hr193 _ _ _ rfl rfl) rfl ?_
        refine hK.out _ _ ⟨(hS190.1.trans (hb194.mono (hS190.1).size)), Blk.below hS190.2 hb194 (Blk.lt hS190.2)⟩ (fun hS192 => ?_)
        clear hK K
        change wpAnyH _ _ _ _ _ _ _ (Act.put _ (some 50) (.slice (some ⟨gb, 0, none⟩) 1 1)) _
        simp only [Act.put, List.setIfInBounds_toArray, List.set_cons_zero, List.set_cons_succ]
        clear hr193 hb194
        refine wpAnyH_ready (rs := [2, 8]) (by kernel_rfl) (by simp) (AllReadyH.cons rfl (fun K hK => ?_) (AllReadyH.cons rfl (fun K hK => ?_) (AllReadyH.nil)))
        · skip
          obtain ⟨A202, d203, W196, hr198, ho200, hg201⟩ := append_kept (OwnI.nil W191) 1 1 (one_item by195) rfl [⟨⟨#[126, 121]⟩, ky, ⟨#[97, 10, 98, 10]⟩, false⟩] rfl (by simp)
          refine step_append_run2 hr198 rfl rfl rfl rfl rfl ?_
          refine hK.out _ _ ⟨(hS192.1.trans (ho200.2.mono (hS192.1).size)), Blk.grown hS192.2 hg201 (own_blk_ne ((OwnI.nil W191)).1 hS192.2 (by decide))⟩ (fun hS197 => ?_)
          clear hK K
          change wpAnyH _ _ _ _ _ _ _ (Act.put _ (some 51) (.slice A202 [(⟨⟨#[126, 121]⟩, ky, ⟨#[97, 10, 98, 10]⟩, false⟩ : It)].length d203)) _
          simp only [Act.put, List.setIfInBounds_toArray, List.set_cons_zero, List.set_cons_succ]
          clear hr198 hg201
          refine wpAnyH_ready (rs := [4, 8]) (by kernel_rfl) (by simp) (AllReadyH.cons rfl (fun K hK => ?_) (AllReadyH.cons rfl (fun K hK => ?_) (AllReadyH.nil)))
          · skip
            obtain ⟨A210, d211, W204, hr206, ho208, hg209⟩ := append_kept ho200 b.length c2 (U2.out.up hS197.1) rfl ([⟨⟨#[126, 121]⟩, ky, ⟨#[97, 10, 98, 10]⟩, false⟩] ++ b) rfl (by simp; omega)
            refine step_append_run2 hr206 rfl rfl rfl rfl rfl ?_
            refine hK.out _ _ ⟨(hS192.1.trans (ho208.2.mono (hS192.1).size)), Blk.grown hS197.2 hg209 (own_blk_ne (ho200).1 hS197.2 (by decide))⟩ (fun hS205 => ?_)
            clear hK K
            change wpAnyH _ _ _ _ _ _ _ (Act.put _ (some 53) (.slice A210 ([(⟨⟨#[126, 121]⟩, ky, ⟨#[97, 10, 98, 10]⟩, false⟩ : It)] ++ b).length d211)) _
            simp only [Act.put, List.setIfInBounds_toArray, List.set_cons_zero, List.set_cons_succ]
            clear hr206 hg209
            refine wpAnyH_ready (rs := [8]) (by kernel_rfl) (by simp) (AllReadyH.cons rfl (fun K hK => ?_) (AllReadyH.nil))
            · skip
              obtain ⟨gz, W212, hr214, bz216, hb215, hgB2⟩ := op_slice ⟨#[126, 122]⟩ zData 2 W204
              refine step_op_run (hr214 _ _ _ rfl rfl) rfl ?_
              refine hK.out _ _ ⟨(hS205.1.trans (hb215.mono (hS205.1).size)), Blk.below hS205.2 hb215 (Blk.lt hS205.2)⟩ (fun hS213 => ?_)
              clear hK K
              change wpAnyH _ _ _ _ _ _ _ (Act.put _ (some 57) (.slice (some ⟨gz, 0, none⟩) 1 1)) _
              simp only [Act.put, List.setIfInBounds_toArray, List.set_cons_zero, List.set_cons_succ]
              have ho217 := ho208.up hb215
              have hzf := OwnI.far ho208 hgB2
              clear hr214 hb215
              refine wpAnyH_ready (rs := [9]) (by kernel_rfl) (by simp) (AllReadyH.cons rfl (fun K hK => ?_) (AllReadyH.nil))
              · skip
                obtain ⟨A224, d225, W218, hr220, ho222, hg223⟩ := append_kept ho217 1 1 (one_item bz216) rfl D HDE.out (by omega)
                refine step_append_run2 hr220 rfl rfl rfl rfl rfl ?_
                refine hK.out _ _ ⟨(hS192.1.trans (ho222.2.mono (hS192.1).size)), Blk.grown hS213.2 hg223 (own_blk_ne (ho217).1 hS213.2 (by decide))⟩ (fun hS219 => ?_)
                clear hK K
                change wpAnyH _ _ _ _ _ _ _ (Act.put _ (some 58) (.slice A224 D.length d225)) _
                simp only [Act.put, List.setIfInBounds_toArray, List.set_cons_zero, List.set_cons_succ]
                clear hr220 hg223
                refine wpAnyH_take (i := 10) (v := .slice A224 D.length d225) rfl (by kernel_rfl) (by kernel_rfl) (by kernel_rfl) (fun _ _ _ h => h) (Or.inl ⟨by rfl, fun w' hS' => by exact op_assign rfl rfl⟩) hS219 ?_
                change wpAnyH _ _ _ _ _ _ _ (Act.put _ (some 17) (.slice A224 D.length d225)) _
                simp only [Act.put, List.setIfInBounds_toArray, List.set_cons_zero, List.set_cons_succ]
                refine wpAnyH_done (by kernel_rfl) ?_ _
                refine NoPanic.normal ?_
                go_wp2_with fail
                go_meet
                exact ⟨_, _, rfl, ItemsAt.of_own ho222.1 rfl, hS219.1⟩
          · skip
            obtain ⟨gz, W226, hr228, bz230, hb229, hgB2⟩ := op_slice ⟨#[126, 122]⟩ zData 2 W196
            refine step_op_run (hr228 _ _ _ rfl rfl) rfl ?_
            refine hK.out _ _ ⟨(hS197.1.trans (hb229.mono (hS197.1).size)), Blk.below hS197.2 hb229 (Blk.lt hS197.2)⟩ (fun hS227 => ?_)
            clear hK K
            change wpAnyH _ _ _ _ _ _ _ (Act.put _ (some 57) (.slice (some ⟨gz, 0, none⟩) 1 1)) _
            simp only [Act.put, List.setIfInBounds_toArray, List.set_cons_zero, List.set_cons_succ]
            have ho231 := ho200.up hb229
            have hzf := OwnI.far ho200 hgB2
            clear hr228 hb229
            refine wpAnyH_ready (rs := [4]) (by kernel_rfl) (by simp) (AllReadyH.cons rfl (fun K hK => ?_) (AllReadyH.nil))
            · skip
              obtain ⟨A238, d239, W232, hr234, ho236, hg237⟩ := append_kept ho231 b.length c2 (U2.out.up hS227.1) rfl ([⟨⟨#[126, 121]⟩, ky, ⟨#[97, 10, 98, 10]⟩, false⟩] ++ b) rfl (by simp; omega)
              refine step_append_run2 hr234 rfl rfl rfl rfl rfl ?_
              refine hK.out _ _ ⟨(hS192.1.trans (ho236.2.mono (hS192.1).size)), Blk.grown hS227.2 hg237 (own_blk_ne (ho231).1 hS227.2 (by decide))⟩ (fun hS233 => ?_)
              clear hK K
              change wpAnyH _ _ _ _ _ _ _ (Act.put _ (some 53) (.slice A238 ([(⟨⟨#[126, 121]⟩, ky, ⟨#[97, 10, 98, 10]⟩, false⟩ : It)] ++ b).length d239)) _
              simp only [Act.put, List.setIfInBounds_toArray, List.set_cons_zero, List.set_cons_succ]
              have bz240 := Blk.grown bz230 hg237 hzf
              clear hr234 hg237
              refine wpAnyH_ready (rs := [9]) (by kernel_rfl) (by simp) (AllReadyH.cons rfl (fun K hK => ?_) (AllReadyH.nil))
              · skip
                obtain ⟨A247, d248, W241, hr243, ho245, hg246⟩ := append_kept ho236 1 1 (one_item bz240) rfl D HDE.out (by omega)
                refine step_append_run2 hr243 rfl rfl rfl rfl rfl ?_
                refine hK.out _ _ ⟨(hS192.1.trans (ho245.2.mono (hS192.1).size)), Blk.grown hS233.2 hg246 (own_blk_ne (ho236).1 hS233.2 (by decide))⟩ (fun hS242 => ?_)
                clear hK K
                change wpAnyH _ _ _ _ _ _ _ (Act.put _ (some 58) (.slice A247 D.length d248)) _
                simp only [Act.put, List.setIfInBounds_toArray, List.set_cons_zero, List.set_cons_succ]
                clear hr243 hg246
                refine wpAnyH_take (i := 10) (v := .slice A247 D.length d248) rfl (by kernel_rfl) (by kernel_rfl) (by kernel_rfl) (fun _ _ _ h => h) (Or.inl ⟨by rfl, fun w' hS' => by exact op_assign rfl rfl⟩) hS242 ?_
                change wpAnyH _ _ _ _ _ _ _ (Act.put _ (some 17) (.slice A247 D.length d248)) _
                simp only [Act.put, List.setIfInBounds_toArray, List.set_cons_zero, List.set_cons_succ]
                refine wpAnyH_done (by kernel_rfl) ?_ _
                refine NoPanic.normal ?_
                go_wp2_with fail
                go_meet
                exact ⟨_, _, rfl, ItemsAt.of_own ho245.1 rfl, hS242.1⟩
        · skip
          obtain ⟨gz, W249, hr251, bz253, hb252, hgB2⟩ := op_slice ⟨#[126, 122]⟩ zData 2 W191
          refine step_op_run (hr251 _ _ _ rfl rfl) rfl ?_
          refine hK.out _ _ ⟨(hS192.1.trans (hb252.mono (hS192.1).size)), Blk.below hS192.2 hb252 (Blk.lt hS192.2)⟩ (fun hS250 => ?_)
          clear hK K
          change wpAnyH _ _ _ _ _ _ _ (Act.put _ (some 57) (.slice (some ⟨gz, 0, none⟩) 1 1)) _
          simp only [Act.put, List.setIfInBounds_toArray, List.set_cons_zero, List.set_cons_succ]
          have by254 := Blk.below by195 hb252 (Blk.lt by195)
          clear hr251 hb252
          refine wpAnyH_ready (rs := [2]) (by kernel_rfl) (by simp) (AllReadyH.cons rfl (fun K hK => ?_) (AllReadyH.nil))
          · skip
            obtain ⟨A261, d262, W255, hr257, ho259, hg260⟩ := append_kept (OwnI.nil W249) 1 1 (one_item by254) rfl [⟨⟨#[126, 121]⟩, ky, ⟨#[97, 10, 98, 10]⟩, false⟩] rfl (by simp)
            refine step_append_run2 hr257 rfl rfl rfl rfl rfl ?_
            refine hK.out _ _ ⟨(hS250.1.trans (ho259.2.mono (hS250.1).size)), Blk.grown hS250.2 hg260 (own_blk_ne ((OwnI.nil W249)).1 hS250.2 (by decide))⟩ (fun hS256 => ?_)
            clear hK K
            change wpAnyH _ _ _ _ _ _ _ (Act.put _ (some 51) (.slice A261 [(⟨⟨#[126, 121]⟩, ky, ⟨#[97, 10, 98, 10]⟩, false⟩ : It)].length d262)) _
            simp only [Act.put, List.setIfInBounds_toArray, List.set_cons_zero, List.set_cons_succ]
            clear hr257 hg260
            refine wpAnyH_ready (rs := [4]) (by kernel_rfl) (by simp) (AllReadyH.cons rfl (fun K hK => ?_) (AllReadyH.nil))
            · skip
              obtain ⟨A269, d270, W263, hr265, ho267, hg268⟩ := append_kept ho259 b.length c2 (U2.out.up hS256.1) rfl ([⟨⟨#[126, 121]⟩, ky, ⟨#[97, 10, 98, 10]⟩, false⟩] ++ b) rfl (by simp; omega)
              refine step_append_run2 hr265 rfl rfl rfl rfl rfl ?_
              refine hK.out _ _ ⟨(hS250.1.trans (ho267.2.mono (hS250.1).size)), Blk.grown hS256.2 hg268 (own_blk_ne (ho259).1 hS256.2 (by decide))⟩ (fun hS264 => ?_)
              clear hK K
              change wpAnyH _ _ _ _ _ _ _ (Act.put _ (some 53) (.slice A269 ([(⟨⟨#[126, 121]⟩, ky, ⟨#[97, 10, 98, 10]⟩, false⟩ : It)] ++ b).length d270)) _
              simp only [Act.put, List.setIfInBounds_toArray, List.set_cons_zero, List.set_cons_succ]
              clear hr265 hg268
              refine wpAnyH_ready (rs := [9]) (by kernel_rfl) (by simp) (AllReadyH.cons rfl (fun K hK => ?_) (AllReadyH.nil))
              · skip
                obtain ⟨A277, d278, W271, hr273, ho275, hg276⟩ := append_kept ho267 1 1 (one_item (Blk.below bz253 ho267.2 (Blk.lt bz253))) rfl D HDE.out (by omega)
                refine step_append_run2 hr273 rfl rfl rfl rfl rfl ?_
                refine hK.out _ _ ⟨(hS250.1.trans (ho275.2.mono (hS250.1).size)), Blk.grown hS264.2 hg276 (own_blk_ne (ho267).1 hS264.2 (by decide))⟩ (fun hS272 => ?_)
                clear hK K
                change wpAnyH _ _ _ _ _ _ _ (Act.put _ (some 58) (.slice A277 D.length d278)) _
                simp only [Act.put, List.setIfInBounds_toArray, List.set_cons_zero, List.set_cons_succ]
                clear hr273 hg276
                refine wpAnyH_take (i := 10) (v := .slice A277 D.length d278) rfl (by kernel_rfl) (by kernel_rfl) (by kernel_rfl) (fun _ _ _ h => h) (Or.inl ⟨by rfl, fun w' hS' => by exact op_assign rfl rfl⟩) hS272 ?_
                change wpAnyH _ _ _ _ _ _ _ (Act.put _ (some 17) (.slice A277 D.length d278)) _
                simp only [Act.put, List.setIfInBounds_toArray, List.set_cons_zero, List.set_cons_succ]
                refine wpAnyH_done (by kernel_rfl) ?_ _
                refine NoPanic.normal ?_
                go_wp2_with fail
                go_meet
                exact ⟨_, _, rfl, ItemsAt.of_own ho275.1 rfl, hS272.1⟩
      · skip
        obtain ⟨gz, W279, hr281, bz283, hb282, hgB2⟩ := op_slice ⟨#[126, 122]⟩ zData 2 W185
        refine step_op_run (hr281 _ _ _ rfl rfl) rfl ?_
        refine hK.out _ _ ⟨(hS190.1.trans (hb282.mono (hS190.1).size)), Blk.below hS190.2 hb282 (Blk.lt hS190.2)⟩ (fun hS280 => ?_)
        clear hK K
        change wpAnyH _ _ _ _ _ _ _ (Act.put _ (some 57) (.slice (some ⟨gz, 0, none⟩) 1 1)) _
        simp only [Act.put, List.setIfInBounds_toArray, List.set_cons_zero, List.set_cons_succ]
        clear hr281 hb282
        refine wpAnyH_ready (rs := [1]) (by kernel_rfl) (by simp) (AllReadyH.cons rfl (fun K hK => ?_) (AllReadyH.nil))
        · skip
          obtain ⟨gb, W284, hr286, by288, hb287, hgB1⟩ := op_slice ⟨#[126, 121]⟩ ⟨#[97, 10, 98, 10]⟩ ky W279
          refine step_op_run (hr286 _ _ _ rfl rfl) rfl ?_
          refine hK.out _ _ ⟨(hS280.1.trans (hb287.mono (hS280.1).size)), Blk.below hS280.2 hb287 (Blk.lt hS280.2)⟩ (fun hS285 => ?_)
          clear hK K
          change wpAnyH _ _ _ _ _ _ _ (Act.put _ (some 50) (.slice (some ⟨gb, 0, none⟩) 1 1)) _
          simp only [Act.put, List.setIfInBounds_toArray, List.set_cons_zero, List.set_cons_succ]
          have bz289 := Blk.below bz283 hb287 (Blk.lt bz283)
          skip
          clear hr286 hb287
          refine wpAnyH_ready (rs := [2]) (by kernel_rfl) (by simp) (AllReadyH.cons rfl (fun K hK => ?_) (AllReadyH.nil))
          · skip
            obtain ⟨A296, d297, W290, hr292, ho294, hg295⟩ := append_kept (OwnI.nil W284) 1 1 (one_item by288) rfl [⟨⟨#[126, 121]⟩, ky, ⟨#[97, 10, 98, 10]⟩, false⟩] rfl (by simp)
            refine step_append_run2 hr292 rfl rfl rfl rfl rfl ?_
            refine hK.out _ _ ⟨(hS285.1.trans (ho294.2.mono (hS285.1).size)), Blk.grown hS285.2 hg295 (own_blk_ne ((OwnI.nil W284)).1 hS285.2 (by decide))⟩ (fun hS291 => ?_)
            clear hK K
            change wpAnyH _ _ _ _ _ _ _ (Act.put _ (some 51) (.slice A296 [(⟨⟨#[126, 121]⟩, ky, ⟨#[97, 10, 98, 10]⟩, false⟩ : It)].length d297)) _
            simp only [Act.put, List.setIfInBounds_toArray, List.set_cons_zero, List.set_cons_succ]
            clear hr292 hg295
            refine wpAnyH_ready (rs := [4]) (by kernel_rfl) (by simp) (AllReadyH.cons rfl (fun K hK => ?_) (AllReadyH.nil))
            · skip
              obtain ⟨A304, d305, W298, hr300, ho302, hg303⟩ := append_kept ho294 b.length c2 (U2.out.up hS291.1) rfl ([⟨⟨#[126, 121]⟩, ky, ⟨#[97, 10, 98, 10]⟩, false⟩] ++ b) rfl (by simp; omega)
              refine step_append_run2 hr300 rfl rfl rfl rfl rfl ?_
              refine hK.out _ _ ⟨(hS285.1.trans (ho302.2.mono (hS285.1).size)), Blk.grown hS291.2 hg303 (own_blk_ne (ho294).1 hS291.2 (by decide))⟩ (fun hS299 => ?_)
              clear hK K
              change wpAnyH _ _ _ _ _ _ _ (Act.put _ (some 53) (.slice A304 ([(⟨⟨#[126, 121]⟩, ky, ⟨#[97, 10, 98, 10]⟩, false⟩ : It)] ++ b).length d305)) _
              simp only [Act.put, List.setIfInBounds_toArray, List.set_cons_zero, List.set_cons_succ]
              clear hr300 hg303
              refine wpAnyH_ready (rs := [9]) (by kernel_rfl) (by simp) (AllReadyH.cons rfl (fun K hK => ?_) (AllReadyH.nil))
              · skip
                obtain ⟨A312, d313, W306, hr308, ho310, hg311⟩ := append_kept ho302 1 1 (one_item (Blk.below bz289 ho302.2 (Blk.lt bz289))) rfl D HDE.out (by omega)
                refine step_append_run2 hr308 rfl rfl rfl rfl rfl ?_
                refine hK.out _ _ ⟨(hS285.1.trans (ho310.2.mono (hS285.1).size)), Blk.grown hS299.2 hg311 (own_blk_ne (ho302).1 hS299.2 (by decide))⟩ (fun hS307 => ?_)
                clear hK K
                change wpAnyH _ _ _ _ _ _ _ (Act.put _ (some 58) (.slice A312 D.length d313)) _
                simp only [Act.put, List.setIfInBounds_toArray, List.set_cons_zero, List.set_cons_succ]
                clear hr308 hg311
                refine wpAnyH_take (i := 10) (v := .slice A312 D.length d313) rfl (by kernel_rfl) (by kernel_rfl) (by kernel_rfl) (fun _ _ _ h => h) (Or.inl ⟨by rfl, fun w' hS' => by exact op_assign rfl rfl⟩) hS307 ?_
                change wpAnyH _ _ _ _ _ _ _ (Act.put _ (some 17) (.slice A312 D.length d313)) _
                simp only [Act.put, List.setIfInBounds_toArray, List.set_cons_zero, List.set_cons_succ]
                refine wpAnyH_done (by kernel_rfl) ?_ _
                refine NoPanic.normal ?_
                go_wp2_with fail
                go_meet
                exact ⟨_, _, rfl, ItemsAt.of_own ho310.1 rfl, hS307.1⟩
  case rest =>
  obtain ⟨A17, c17, rfl, hid, hbw⟩ := hcut
  have V1 := Lib.hid (U1d.out.up hbw)
  have V2 := Lib.hid (U2.out.up hbw)
  have VL := Lib.hid (HLd.out.up hbw)
  have VC := Lib.hid (HIC.out.up hbw)
  have VD := Lib.hid hid
  have VB := Lib.hid (UBd.out.trans (hbw.mono UBd.out.size))
  clear hbw hid U1d U2 HLd HIC UBd HBYy HDE
  go_wp2_with fail
  refine (pairs_told A16 A2 C b C.length b.length c16 c2 t _ VC.out V2.out rfl rfl HFC.out HO2.out.fit).mono ?_
  rintro e w10 ⟨A10, c10, L1, rfl, hP1, hL1, hB10, _⟩
  have hLL : L1 = L := hP1.unique (HP.out.congr (fun p => (HC1.out p).symm))
  subst hLL
  have X1 := Lib.hid (V1.out.up hB10)
  have XC := Lib.hid (VC.out.up hB10)
  have XD := Lib.hid (VD.out.up hB10)
  have X2 := Lib.hid (V2.out.up hB10)
  have XL := Lib.hid (VL.out.up hB10)
  have XB := Lib.hid (VB.out.trans (hB10.mono VB.out.size))
  have HL1 := Lib.hid hL1
  clear hP1 hL1 hB10 V1 VC VD V2 VL VB
  go_wp2_with fail
  refine (same_true A10 A9 L1 L1.length L1.length c10 c9 _ HL1.out XL.out rfl rfl (by omega)).mono ?_
  rintro e w11 ⟨rfl, q1, rfl⟩
  have Y1 := Lib.hid (X1.out.up (below_drewN (Below.refl _ _) q1))
  have YC := Lib.hid (XC.out.up (below_drewN (Below.refl _ _) q1))
  have YD := Lib.hid (XD.out.up (below_drewN (Below.refl _ _) q1))
  have Y2 := Lib.hid (X2.out.up (below_drewN (Below.refl _ _) q1))
  have YL := Lib.hid (XL.out.up (below_drewN (Below.refl _ _) q1))
  have YB := Lib.hid (below_drewN XB.out q1)
  obtain ⟨v1, hv1⟩ : ∃ v1, v1 = w10.drewN q1 := ⟨_, rfl⟩
  rw [← hv1] at Y1 YC YD Y2 YL YB ⊢
  clear hv1 X1 XC XD X2 XL XB HL1
  go_wp2_with fail
  refine (pairs_told A1 A17 a D a.length D.length c1 c17 t _ Y1.out YD.out rfl rfl HO1.out.fit HFD.out).mono ?_
  rintro e w12 ⟨A12, c12, L2, rfl, hP2, hL2, hB12, _⟩
  have hLL : L2 = L1 := hP2.unique (HP.out.congr (fun p => (HD1.out p).symm))
  subst hLL
  have XC := Lib.hid (YC.out.up hB12)
  have XD := Lib.hid (YD.out.up hB12)
  have XL := Lib.hid (YL.out.up hB12)
  have XB := Lib.hid (YB.out.trans (hB12.mono YB.out.size))
  have HL2 := Lib.hid hL2
  clear hP2 hL2 hB12 Y1 YC YD Y2 YL YB
  go_wp2_with fail
  refine (same_true A12 A9 L2 L2.length L2.length c12 c9 _ HL2.out XL.out rfl rfl (by omega)).mono ?_
  rintro e w13 ⟨rfl, q2, rfl⟩
  have YC := Lib.hid (XC.out.up (below_drewN (Below.refl _ _) q2))
  have YD := Lib.hid (XD.out.up (below_drewN (Below.refl _ _) q2))
  have YL := Lib.hid (XL.out.up (below_drewN (Below.refl _ _) q2))
  have YB := Lib.hid (below_drewN XB.out q2)
  obtain ⟨v2, hv2⟩ : ∃ v2, v2 = w12.drewN q2 := ⟨_, rfl⟩
  rw [← hv2] at YC YD YL YB ⊢
  clear hv2 XC XD XL XB HL2
  go_wp2_with fail
  refine (pairs_told A16 A17 C D C.length D.length c16 c17 t _ YC.out YD.out rfl rfl HFC.out HFD.out).mono ?_
  rintro e w14 ⟨A14, c14, L3, rfl, hP3, hL3, hB14, _⟩
  have hLL : L3 = L2 := hP3.unique (HP.out.congr (fun p => (HCD.out p).symm))
  subst hLL
  have XL := Lib.hid (YL.out.up hB14)
  have XB := Lib.hid (YB.out.trans (hB14.mono YB.out.size))
  have HL3 := Lib.hid hL3
  clear hP3 hL3 hB14 YC YD YL YB
  go_wp2_with fail
  refine (same_true A14 A9 L3 L3.length L3.length c14 c9 _ HL3.out XL.out rfl rfl (by omega)).mono ?_
  rintro e w15 ⟨rfl, q3, rfl⟩
  go_wp2_with fail
  go_ret
  exact ⟨rfl, below_drewN XB.out q3⟩

end Go.Proofs.Ytdnckhagknlfhaa
