/-
  collatorlaw16.QueueParts returns true: tasks that are put in two parts are as in one; what is dropped is as many as are gone; once closed, a queue takes none, and gives what it has. Nothing that was there is changed.
-/
import Derived.Test.YtaelenjnjoeheaaLw
namespace Go.Proofs.Ytaelenjnjoeheaa
open Go.RowKit P16

/-- what is put in two parts -/
theorem two_parts {T : List Tk} {k R m l : Nat} (hk : k ≤ T.length) (hm : min k R = m) (hl : min (T.length - k) (R - m) = l) : m + l = min T.length R ∧ T.take m ++ (T.drop k).take l = T.take (min T.length R) := by
  by_cases h : k ≤ R
  · obtain rfl : m = k := by omega
    have e : m + l = min T.length R := by omega
    refine ⟨e, ?_⟩
    rw [← e, List.take_add]
  · obtain rfl : m = R := by omega
    obtain rfl : l = 0 := by omega
    refine ⟨by omega, ?_⟩
    rw [List.take_zero, List.append_nil, show min T.length m = m from by omega]
theorem put_first {R k : Nat} {L : List Tk} (hR : R ≤ 4096) (hk : min L.length R = k) : putQ ⟨(R : Int), false, []⟩ L = (k, ⟨(R : Int), false, L.take k⟩, 0) := by
  have hc : comes ⟨(R : Int), false, []⟩ L.length = k := by unfold comes; simp only [Int.toNat_natCast, List.length_nil]; omega
  rw [put_ok (right_of (by show (0 : Int) ≤ (R : Int); omega) (by show (R : Int) ≤ 4096; omega) (by show ((0 : Nat) : Int) ≤ (R : Int); omega)) rfl, hc, List.nil_append]
theorem put_second {R l : Nat} {T L : List Tk} (hR : R ≤ 4096) (hT : T.length ≤ R) (hk : min L.length (R - T.length) = l) : putQ ⟨(R : Int), false, T⟩ L = (l, ⟨(R : Int), false, T ++ L.take l⟩, 0) := by
  have hc : comes ⟨(R : Int), false, T⟩ L.length = l := by unfold comes; simp only [Int.toNat_natCast]; omega
  rw [put_ok (right_of (by show (0 : Int) ≤ (R : Int); omega) (by show (R : Int) ≤ 4096; omega) (by show (T.length : Int) ≤ (R : Int); omega)) rfl, hc]

set_option maxHeartbeats 32000000 in
set_option maxRecDepth 100000 in
theorem parts_any (A : Option Addr) (L : List Tri) (n c : Nat) (at_ room req : Int) (w : World) (ha : TrisAt w A L) (hn : L.length = n) (hf : FitN L) (h1 : I64 at_) (h2 : I64 room) (h3 : I64 req) :
    Calls Try.prog 5 #[.slice A n c, .int .i64 at_, .int .i64 room, .int .i64 req] w fun e w' => e = .returned (.bool true) ∧ Below w.heap.size w w' := by
  have HA := Lib.hid ha
  have HN := Lib.hid hn
  have HF := Lib.hid hf
  have HI1 := Lib.hid h1
  have HI2 := Lib.hid h2
  have HI3 := Lib.hid h3
  obtain ⟨T, hT⟩ : ∃ T, tksOf L = T := ⟨_, rfl⟩
  have HT := Lib.hid hT
  have HFT : Hid (FitT T) := Lib.hid (by rw [← hT]; exact tks_fit L)
  have HT20 : Hid (T.length ≤ 20) := Lib.hid (by rw [← hT]; exact tks_20 L)
  obtain ⟨rq, hr'⟩ : ∃ r, pickI req 4 = r := ⟨_, rfl⟩
  have HRQ := Lib.hid hr'
  obtain ⟨p1, p2⟩ := pickI_range room 30 (by omega)
  obtain ⟨R, hkp⟩ := Int.eq_ofNat_of_zero_le p1
  have HRM := Lib.hid hkp
  have hR : R < 30 := by omega
  clear ha hn hf h1 h2 h3 hT hr' p1 p2 hkp
  go_enter Try.func5, Try.ntmps5
  go_wp2_with fail
  refine (awake_any _).mono ?_
  rintro e w1 ⟨rfl, hb⟩
  have HA := Lib.hid (HA.out.up hb)
  have HW := Lib.hid hb
  clear hb
  go_wp2_with fail
  refine (tasks_any A L n c _ HA.out HN.out HF.out).mono ?_
  rintro e w2 ⟨At, nt, ct, rfl, hnt, hct, hot⟩
  rw [HT.out] at hnt hot
  have HNT := Lib.hid hnt
  have HCT := Lib.hid hct
  have HTA : Hid (TasksAt w2 At T) := Lib.hid (OwnR.at_ tk_len hot hnt)
  have HW := Lib.hid (below_step HW.out hot.2)
  have hn20 : nt ≤ 20 := by rw [← hnt]; exact HT20.out
  clear hnt hct hot
  obtain ⟨p1, p2⟩ := pickI_range at_ ((nt : Int) + 1) (by omega)
  obtain ⟨k, hk⟩ := Int.eq_ofNat_of_zero_le p1
  have HK := Lib.hid hk
  have hkn : k ≤ nt := by omega
  clear p1 p2 hk
  go_wp2_with fail
  refine (pick16_v at_ ((nt : Int) + 1) k HK.out _ HI1.out (by omega) (by omega)).mono ?_
  rintro e w' ⟨rfl, rfl⟩
  go_wp2_with fail
  refine (pick16_v room 30 R HRM.out _ HI2.out (by omega) (by omega)).mono ?_
  rintro e w' ⟨rfl, rfl⟩
  go_wp2_with fail
  refine (inew_any (R : Int) _ ⟨(R : Int), false, []⟩ 0 (new_ok (by omega) (by omega))).mono ?_
  rintro e w3 ⟨rfl, -, hb⟩
  have HTA := Lib.hid (HTA.out.up hb)
  have HW := Lib.hid (below_step HW.out hb)
  clear hb
  go_upto_region 5 with (fail)
  obtain ⟨gq, v1, hg, hv, hk, hbe⟩ := box_new w3 24 #[.int .i64 (R : Int), .bool false, .slice none 0 0]
  rw [← hv, ← hg]
  have HBQ := Lib.hid hk
  have HTA := Lib.hid (HTA.out.up hbe)
  have HW := Lib.hid (below_step HW.out hbe)
  clear hg hv hk hbe
  obtain ⟨n0, hn0⟩ : ∃ n0, min nt R = n0 := ⟨_, rfl⟩
  obtain ⟨m, hm⟩ : ∃ m, min k R = m := ⟨_, rfl⟩
  obtain ⟨l, hl⟩ : ∃ l, min (nt - k) (R - m) = l := ⟨_, rfl⟩
  have HTP : Hid (m + l = n0 ∧ T.take m ++ (T.drop k).take l = T.take n0) := Lib.hid (by rw [← hn0, ← HNT.out]; exact two_parts (by rw [HNT.out]; exact hkn) hm (by rw [HNT.out]; exact hl))
  have HP1 : Hid (putQ ⟨(R : Int), false, []⟩ T = (n0, ⟨(R : Int), false, T.take n0⟩, 0)) := Lib.hid (put_first (by omega) (by rw [HNT.out]; exact hn0))
  have HP2 : Hid (putQ ⟨(R : Int), false, []⟩ (T.take k) = (m, ⟨(R : Int), false, T.take m⟩, 0)) := Lib.hid (by
    have := put_first (L := T.take k) (R := R) (k := m) (by omega) (by rw [List.length_take, HNT.out]; omega)
    rwa [List.take_take, show min m k = m from by omega] at this)
  have HP3 : Hid (putQ ⟨(R : Int), false, T.take m⟩ (T.drop k) = (l, ⟨(R : Int), false, T.take n0⟩, 0)) := Lib.hid (by
    rw [← HTP.out.2]
    exact put_second (by omega) (by rw [List.length_take, HNT.out]; omega) (by rw [List.length_drop, List.length_take, HNT.out, show min m nt = m from by omega]; exact hl))
  have HNM : Hid ((T.take m).length = m) := Lib.hid (by rw [List.length_take, HNT.out]; omega)
  have HNK : Hid ((T.take k).length = k) := Lib.hid (by rw [List.length_take, HNT.out]; omega)
  have HNN : Hid ((T.take n0).length = n0) := Lib.hid (by rw [List.length_take, HNT.out]; omega)
  have HND : Hid ((T.drop k).length = nt - k) := Lib.hid (by rw [List.length_drop, HNT.out])
  have hn0b : n0 ≤ 20 := by omega
  have hn0R : n0 ≤ R := by omega
  have HMN : Hid (min (nt : Int) (R : Int) = (n0 : Int)) := Lib.hid (by omega)
  have hmk : m ≤ k := by omega
  have HML := Lib.hid HTP.out.1
  clear hm hl hn0
  obtain ⟨y0, y1, y2⟩ := blk3 HBQ.out
  go_wp2_with fail
  refine (iput_any (R : Int) false [] T none At 0 0 nt ct _ n0 (R : Int) false (T.take n0) 0 HP1.out RowAt.nil rfl (Nat.le_refl _) FitT.nil HTA.out HNT.out HCT.out HFT.out).mono ?_
  rintro e w2 ⟨A1, n1, c1, rfl, hn, hc, ha, hb⟩
  have HTA := Lib.hid (HTA.out.up hb)
  have HBQ := Lib.hid (HBQ.out.below hb HBQ.out.lt)
  have HW := Lib.hid (below_step HW.out hb)
  obtain rfl : n1 = n0 := by rw [← hn, HNN.out]
  have HC1 := Lib.hid hc
  have HA1 := Lib.hid ha.at_
  clear hn hc ha hb y0 y1 y2
  go_upto_region 6 with (fail)
  obtain ⟨ga, v3, hg, hv, hk, hbe⟩ := box_new w2 24 #[.int .i64 (R : Int), .bool false, .slice A1 n1 c1]
  rw [← hv, ← hg]
  have HBA := Lib.hid hk
  have HTA := Lib.hid (HTA.out.up hbe)
  have HBQ := Lib.hid (HBQ.out.below hbe HBQ.out.lt)
  have HA1 := Lib.hid (HA1.out.up hbe)
  have HW := Lib.hid (below_step HW.out hbe)
  clear hg hv hk hbe
  have HKC : Hid (k ≤ ct) := Lib.hid (by have := HCT.out; omega)
  have HQ6 : Hid (∀ W, Below v3.heap.size v3 W → Blk W gq 24 #[.int .i64 (R : Int), .bool false, .slice none 0 0]) := Lib.hid fun W hW => HBQ.out.below hW HBQ.out.lt
  go_cut [17, 18, 19] (fun s17 s18 s19 wx => PutCut m (R : Int) false (T.take m) 0 v3 s17 s18 s19 wx)
  case first =>
    refine wp_region_noPanic ?_
    refine wp_region_held_drew (S := fun W => Below v3.heap.size v3 W) (by kernel_rfl) ((Below.refl v3.heap.size v3).drew) (fun hS0 => ?_)
    change wpAnyH _ _ _ _ _ 13 #[false, false, false, false, false, false, false, false, false, false, false, false, false] _ (World.drew _)
    refine wpAnyH_take (i := 0) (v := .agg #[.int .i64 (R : Int), .bool false, .slice none 0 0]) rfl (by kernel_rfl) (by kernel_rfl) (by kernel_rfl) (fun _ _ _ h => h) (Or.inl ⟨by rfl, fun w' hS' => by obtain ⟨y0, y1, y2⟩ := blk3 (HQ6.out w' hS'); go_simp⟩) hS0 ?_
    change wpAnyH _ _ _ _ _ _ _ (Act.put _ (some 60) (.agg #[.int .i64 (R : Int), .bool false, .slice none 0 0])) _
    simp only [Act.put, List.setIfInBounds_toArray, List.set_cons_zero, List.set_cons_succ]
    refine wpAnyH_take (i := 1) (v := .slice At nt ct) rfl (by kernel_rfl) (by kernel_rfl) (by kernel_rfl) (fun _ _ _ h => h) (Or.inl ⟨by rfl, fun w' hS' => by go_simp⟩) hS0 ?_
    change wpAnyH _ _ _ _ _ _ _ (Act.put _ (some 61) (.slice At nt ct)) _
    simp only [Act.put, List.setIfInBounds_toArray, List.set_cons_zero, List.set_cons_succ]
    refine wpAnyH_take (i := 2) (v := .int .i64 (k : Int)) rfl (by kernel_rfl) (by kernel_rfl) (by kernel_rfl) (fun _ _ _ h => h) (Or.inl ⟨by rfl, fun w' hS' => by go_simp⟩) hS0 ?_
    change wpAnyH _ _ _ _ _ _ _ (Act.put _ (some 62) (.int .i64 (k : Int))) _
    simp only [Act.put, List.setIfInBounds_toArray, List.set_cons_zero, List.set_cons_succ]
    refine wpAnyH_take (i := 3) (v := .slice At k ct) rfl (by kernel_rfl) (by kernel_rfl) (by kernel_rfl) (fun _ _ _ h => h) (Or.inl ⟨by rfl, fun w' hS' => by have hct := HCT.out; go_simp; try (intro h; exact absurd h (by omega))⟩) hS0 ?_
    change wpAnyH _ _ _ _ _ _ _ (Act.put _ (some 63) (.slice At k ct)) _
    simp only [Act.put, List.setIfInBounds_toArray, List.set_cons_zero, List.set_cons_succ]
    refine wpAnyH_ready (rs := [4, 9]) (by kernel_rfl) (by simp) (AllReadyH.cons rfl (fun K hK => ?_) (AllReadyH.cons rfl (fun K hK => ?_) (AllReadyH.nil)))
    · skip
      go_simp
      refine (iput_any (R : Int) false [] (T.take k) none At 0 0 k ct _ m (R : Int) false (T.take m) 0 HP2.out RowAt.nil rfl (Nat.le_refl _) FitT.nil ((HTA.out.up hS0).take k) HNK.out HKC.out (HFT.out.take k)).mono ?_
      rintro e W2 ⟨A4, n5, c6, rfl, hn8, hc9, ha7, hb3⟩
      refine hK.out _ _ (hS0.trans (hb3.mono hS0.size)) (fun hS1 => ?_)
      clear hK K
      simp only [List.setIfInBounds_toArray, List.set_cons_zero, List.set_cons_succ]
      refine wpAnyH_take (i := 5) (v := .tuple #[.int .i64 (m : Int), .agg #[.int .i64 (R : Int), .bool false, .slice A4 n5 c6], .int .i64 0]) rfl (by kernel_rfl) (by kernel_rfl) (by kernel_rfl) (fun _ _ _ h => h) (Or.inl ⟨by rfl, fun w' hS' => by go_simp⟩) hS1 ?_
      change wpAnyH _ _ _ _ _ _ _ (Act.put _ (some 59) (.tuple #[.int .i64 (m : Int), .agg #[.int .i64 (R : Int), .bool false, .slice A4 n5 c6], .int .i64 0])) _
      simp only [Act.put, List.setIfInBounds_toArray, List.set_cons_zero, List.set_cons_succ]
      refine wpAnyH_take (i := 6) (v := .int .i64 (m : Int)) rfl (by kernel_rfl) (by kernel_rfl) (by kernel_rfl) (fun _ _ _ h => h) (Or.inl ⟨by rfl, fun w' hS' => by go_simp⟩) hS1 ?_
      change wpAnyH _ _ _ _ _ _ _ (Act.put _ (some 65) (.int .i64 (m : Int))) _
      simp only [Act.put, List.setIfInBounds_toArray, List.set_cons_zero, List.set_cons_succ]
      refine wpAnyH_take (i := 7) (v := .agg #[.int .i64 (R : Int), .bool false, .slice A4 n5 c6]) rfl (by kernel_rfl) (by kernel_rfl) (by kernel_rfl) (fun _ _ _ h => h) (Or.inl ⟨by rfl, fun w' hS' => by go_simp⟩) hS1 ?_
      change wpAnyH _ _ _ _ _ _ _ (Act.put _ (some 66) (.agg #[.int .i64 (R : Int), .bool false, .slice A4 n5 c6])) _
      simp only [Act.put, List.setIfInBounds_toArray, List.set_cons_zero, List.set_cons_succ]
      refine wpAnyH_take (i := 8) (v := .int .i64 0) rfl (by kernel_rfl) (by kernel_rfl) (by kernel_rfl) (fun _ _ _ h => h) (Or.inl ⟨by rfl, fun w' hS' => by go_simp⟩) hS1 ?_
      change wpAnyH _ _ _ _ _ _ _ (Act.put _ (some 67) (.int .i64 0)) _
      simp only [Act.put, List.setIfInBounds_toArray, List.set_cons_zero, List.set_cons_succ]
      refine wpAnyH_ready (rs := [9]) (by kernel_rfl) (by simp) (AllReadyH.cons rfl (fun K hK => ?_) (AllReadyH.nil))
      · skip
        obtain ⟨gz12, W11, hr15, hk14, hb13, hg16⟩ := op_allocQ (W2)
        refine step_op_run (hr15 _ _ rfl) rfl ?_
        refine hK.out _ _ (hS1.trans (hb13.mono hS1.size)) (fun hS10 => ?_)
        clear hK K
        change wpAnyH _ _ _ _ _ _ _ (Act.put _ (some 18) (.pointer (some ⟨gz12, 0, none⟩))) _
        simp only [Act.put, List.setIfInBounds_toArray, List.set_cons_zero, List.set_cons_succ]
        refine wpAnyH_take (i := 10) (v := .int .i64 (m : Int)) rfl (by kernel_rfl) (by kernel_rfl) (by kernel_rfl) (fun _ _ _ h => h) (Or.inl ⟨by rfl, fun w' hS' => by exact op_assign rfl rfl⟩) hS10 ?_
        change wpAnyH _ _ _ _ _ _ _ (Act.put _ (some 17) (.int .i64 (m : Int))) _
        simp only [Act.put, List.setIfInBounds_toArray, List.set_cons_zero, List.set_cons_succ]
        refine wpAnyH_ready (rs := [11]) (by kernel_rfl) (by simp) (AllReadyH.cons rfl (fun K hK => ?_) (AllReadyH.nil))
        · skip
          obtain ⟨W18, hr20, hk19, hgr21⟩ := op_storeQ hk14 (R : Int) false A4 n5 c6
          refine step_op_skip (hr20 _ _ _ _ rfl rfl rfl) rfl ?_
          refine hK.out _ _ (grown_below hS10 hgr21 hS10.size (Nat.le_trans hS1.size hg16)) (fun hS17 => ?_)
          clear hK K
          change wpAnyH _ _ _ _ _ _ _ (Act.put _ none (undef)) _
          simp only [Act.put]
          refine wpAnyH_take (i := 12) (v := .int .i64 0) rfl (by kernel_rfl) (by kernel_rfl) (by kernel_rfl) (fun _ _ _ h => h) (Or.inl ⟨by rfl, fun w' hS' => by exact op_assign rfl rfl⟩) hS17 ?_
          change wpAnyH _ _ _ _ _ _ _ (Act.put _ (some 19) (.int .i64 0)) _
          simp only [Act.put, List.setIfInBounds_toArray, List.set_cons_zero, List.set_cons_succ]
          refine wpAnyH_done (by kernel_rfl) ?_ _
          refine NoPanic.normal ?_
          go_wp2_with fail
          go_meet
          exact ⟨gz12, A4, n5, c6, rfl, rfl, rfl, hk19, hn8, hc9, (ha7.at_.up (grown_below hb13 hgr21 hb13.size hg16)), hS17, (Nat.le_trans hS1.size hg16)⟩
    · skip
      obtain ⟨gz24, W23, hr27, hk26, hb25, hg28⟩ := op_allocQ (v3.drew)
      refine step_op_run (hr27 _ _ rfl) rfl ?_
      refine hK.out _ _ (hS0.trans (hb25.mono hS0.size)) (fun hS22 => ?_)
      clear hK K
      change wpAnyH _ _ _ _ _ _ _ (Act.put _ (some 18) (.pointer (some ⟨gz24, 0, none⟩))) _
      simp only [Act.put, List.setIfInBounds_toArray, List.set_cons_zero, List.set_cons_succ]
      refine wpAnyH_ready (rs := [4]) (by kernel_rfl) (by simp) (AllReadyH.cons rfl (fun K hK => ?_) (AllReadyH.nil))
      · skip
        go_simp
        refine (iput_any (R : Int) false [] (T.take k) none At 0 0 k ct _ m (R : Int) false (T.take m) 0 HP2.out RowAt.nil rfl (Nat.le_refl _) FitT.nil ((HTA.out.up hS22).take k) HNK.out HKC.out (HFT.out.take k)).mono ?_
        rintro e W30 ⟨A32, n33, c34, rfl, hn36, hc37, ha35, hb31⟩
        refine hK.out _ _ (hS22.trans (hb31.mono hS22.size)) (fun hS29 => ?_)
        clear hK K
        simp only [List.setIfInBounds_toArray, List.set_cons_zero, List.set_cons_succ]
        refine wpAnyH_take (i := 5) (v := .tuple #[.int .i64 (m : Int), .agg #[.int .i64 (R : Int), .bool false, .slice A32 n33 c34], .int .i64 0]) rfl (by kernel_rfl) (by kernel_rfl) (by kernel_rfl) (fun _ _ _ h => h) (Or.inl ⟨by rfl, fun w' hS' => by go_simp⟩) hS29 ?_
        change wpAnyH _ _ _ _ _ _ _ (Act.put _ (some 59) (.tuple #[.int .i64 (m : Int), .agg #[.int .i64 (R : Int), .bool false, .slice A32 n33 c34], .int .i64 0])) _
        simp only [Act.put, List.setIfInBounds_toArray, List.set_cons_zero, List.set_cons_succ]
        refine wpAnyH_take (i := 6) (v := .int .i64 (m : Int)) rfl (by kernel_rfl) (by kernel_rfl) (by kernel_rfl) (fun _ _ _ h => h) (Or.inl ⟨by rfl, fun w' hS' => by go_simp⟩) hS29 ?_
        change wpAnyH _ _ _ _ _ _ _ (Act.put _ (some 65) (.int .i64 (m : Int))) _
        simp only [Act.put, List.setIfInBounds_toArray, List.set_cons_zero, List.set_cons_succ]
        refine wpAnyH_take (i := 7) (v := .agg #[.int .i64 (R : Int), .bool false, .slice A32 n33 c34]) rfl (by kernel_rfl) (by kernel_rfl) (by kernel_rfl) (fun _ _ _ h => h) (Or.inl ⟨by rfl, fun w' hS' => by go_simp⟩) hS29 ?_
        change wpAnyH _ _ _ _ _ _ _ (Act.put _ (some 66) (.agg #[.int .i64 (R : Int), .bool false, .slice A32 n33 c34])) _
        simp only [Act.put, List.setIfInBounds_toArray, List.set_cons_zero, List.set_cons_succ]
        refine wpAnyH_take (i := 8) (v := .int .i64 0) rfl (by kernel_rfl) (by kernel_rfl) (by kernel_rfl) (fun _ _ _ h => h) (Or.inl ⟨by rfl, fun w' hS' => by go_simp⟩) hS29 ?_
        change wpAnyH _ _ _ _ _ _ _ (Act.put _ (some 67) (.int .i64 0)) _
        simp only [Act.put, List.setIfInBounds_toArray, List.set_cons_zero, List.set_cons_succ]
        refine wpAnyH_take (i := 10) (v := .int .i64 (m : Int)) rfl (by kernel_rfl) (by kernel_rfl) (by kernel_rfl) (fun _ _ _ h => h) (Or.inl ⟨by rfl, fun w' hS' => by exact op_assign rfl rfl⟩) hS29 ?_
        change wpAnyH _ _ _ _ _ _ _ (Act.put _ (some 17) (.int .i64 (m : Int))) _
        simp only [Act.put, List.setIfInBounds_toArray, List.set_cons_zero, List.set_cons_succ]
        refine wpAnyH_ready (rs := [11]) (by kernel_rfl) (by simp) (AllReadyH.cons rfl (fun K hK => ?_) (AllReadyH.nil))
        · skip
          obtain ⟨W39, hr41, hk40, hgr42⟩ := op_storeQ (hk26.below hb31 hk26.lt) (R : Int) false A32 n33 c34
          refine step_op_skip (hr41 _ _ _ _ rfl rfl rfl) rfl ?_
          refine hK.out _ _ (grown_below hS29 hgr42 hS29.size (Nat.le_trans hS0.size hg28)) (fun hS38 => ?_)
          clear hK K
          change wpAnyH _ _ _ _ _ _ _ (Act.put _ none (undef)) _
          simp only [Act.put]
          refine wpAnyH_take (i := 12) (v := .int .i64 0) rfl (by kernel_rfl) (by kernel_rfl) (by kernel_rfl) (fun _ _ _ h => h) (Or.inl ⟨by rfl, fun w' hS' => by exact op_assign rfl rfl⟩) hS38 ?_
          change wpAnyH _ _ _ _ _ _ _ (Act.put _ (some 19) (.int .i64 0)) _
          simp only [Act.put, List.setIfInBounds_toArray, List.set_cons_zero, List.set_cons_succ]
          refine wpAnyH_done (by kernel_rfl) ?_ _
          refine NoPanic.normal ?_
          go_wp2_with fail
          go_meet
          exact ⟨gz24, A32, n33, c34, rfl, rfl, rfl, hk40, hn36, hc37, (ha35.far hgr42 hk26.lt).at_, hS38, (Nat.le_trans hS0.size hg28)⟩
  case rest =>
  obtain ⟨gb, A2, n2, c2, rfl, rfl, rfl, hk, hn, hc, ha, hb, hge⟩ := hcut
  have HTA := Lib.hid (HTA.out.up hb)
  have HBQ := Lib.hid (HBQ.out.below hb HBQ.out.lt)
  have HA1 := Lib.hid (HA1.out.up hb)
  have HBA := Lib.hid (HBA.out.below hb HBA.out.lt)
  have HW := Lib.hid (below_step HW.out hb)
  obtain ⟨w4, rfl⟩ : ∃ w3, w3 = wc := ⟨_, rfl⟩
  have HB2 := Lib.hid hk
  have HN2 := Lib.hid hn
  have HC2 := Lib.hid hc
  have HA2 := Lib.hid ha
  have HG2 := Lib.hid hge
  clear hk hn hc ha hb hge
  obtain rfl : n2 = m := by rw [← HN2.out, HNM.out]
  clear HQ6
  obtain ⟨Ad, hAd⟩ : ∃ Ad, (if ct = k then At else At.map (·.add (k * 4))) = Ad := ⟨_, rfl⟩
  have HAd := Lib.hid hAd
  have HDA : Hid (TasksAt w4 Ad (T.drop k)) := Lib.hid (by rw [← hAd]; exact HTA.out.drop k ct (by rw [HNT.out]; exact hkn) (by rw [HNT.out]; exact HCT.out))
  clear hAd
  have HDC : Hid (nt - k ≤ ct - k) := Lib.hid (by have := HCT.out; omega)
  have HQ7 : Hid (∀ W, Below w4.heap.size w4 W → Blk W gb 24 #[.int .i64 (R : Int), .bool false, .slice A2 n2 c2]) := Lib.hid fun W hW => HB2.out.below hW HB2.out.lt
  go_upto_region 7 with (fail)
  go_cut [20, 21, 22] (fun s20 s21 s22 wx => PutCut l (R : Int) false (T.take n1) 0 w4 s20 s21 s22 wx)
  case first =>
    refine wp_region_noPanic ?_
    refine wp_region_held_drew (S := fun W => Below w4.heap.size w4 W) (by kernel_rfl) ((Below.refl w4.heap.size w4).drew) (fun hS0 => ?_)
    change wpAnyH _ _ _ _ _ 13 #[false, false, false, false, false, false, false, false, false, false, false, false, false] _ (World.drew _)
    refine wpAnyH_take (i := 0) (v := .agg #[.int .i64 (R : Int), .bool false, .slice A2 n2 c2]) rfl (by kernel_rfl) (by kernel_rfl) (by kernel_rfl) (fun _ _ _ h => h) (Or.inl ⟨by rfl, fun w' hS' => by obtain ⟨y0, y1, y2⟩ := blk3 (HQ7.out w' hS'); go_simp⟩) hS0 ?_
    change wpAnyH _ _ _ _ _ _ _ (Act.put _ (some 69) (.agg #[.int .i64 (R : Int), .bool false, .slice A2 n2 c2])) _
    simp only [Act.put, List.setIfInBounds_toArray, List.set_cons_zero, List.set_cons_succ]
    refine wpAnyH_take (i := 1) (v := .slice At nt ct) rfl (by kernel_rfl) (by kernel_rfl) (by kernel_rfl) (fun _ _ _ h => h) (Or.inl ⟨by rfl, fun w' hS' => by go_simp⟩) hS0 ?_
    change wpAnyH _ _ _ _ _ _ _ (Act.put _ (some 70) (.slice At nt ct)) _
    simp only [Act.put, List.setIfInBounds_toArray, List.set_cons_zero, List.set_cons_succ]
    refine wpAnyH_take (i := 2) (v := .int .i64 (k : Int)) rfl (by kernel_rfl) (by kernel_rfl) (by kernel_rfl) (fun _ _ _ h => h) (Or.inl ⟨by rfl, fun w' hS' => by go_simp⟩) hS0 ?_
    change wpAnyH _ _ _ _ _ _ _ (Act.put _ (some 71) (.int .i64 (k : Int))) _
    simp only [Act.put, List.setIfInBounds_toArray, List.set_cons_zero, List.set_cons_succ]
    refine wpAnyH_take (i := 3) (v := .slice Ad (nt - k) (ct - k)) rfl (by kernel_rfl) (by kernel_rfl) (by kernel_rfl) (fun _ _ _ h => h) (Or.inl ⟨by rfl, fun w' hS' => by exact op_fromk HAd.out rfl rfl rfl rfl hkn HCT.out⟩) hS0 ?_
    change wpAnyH _ _ _ _ _ _ _ (Act.put _ (some 72) (.slice Ad (nt - k) (ct - k))) _
    simp only [Act.put, List.setIfInBounds_toArray, List.set_cons_zero, List.set_cons_succ]
    refine wpAnyH_ready (rs := [4, 9]) (by kernel_rfl) (by simp) (AllReadyH.cons rfl (fun K hK => ?_) (AllReadyH.cons rfl (fun K hK => ?_) (AllReadyH.nil)))
    · skip
      go_simp
      refine (iput_any (R : Int) false (T.take n2) (T.drop k) A2 Ad n2 c2 (nt - k) (ct - k) _ l (R : Int) false (T.take n1) 0 HP3.out (HA2.out.up hS0) HNM.out HC2.out (HFT.out.take n2) (HDA.out.up hS0) HND.out HDC.out (HFT.out.drop k)).mono ?_
      rintro e W2 ⟨A4, n5, c6, rfl, hn8, hc9, ha7, hb3⟩
      refine hK.out _ _ (hS0.trans (hb3.mono hS0.size)) (fun hS1 => ?_)
      clear hK K
      simp only [List.setIfInBounds_toArray, List.set_cons_zero, List.set_cons_succ]
      refine wpAnyH_take (i := 5) (v := .tuple #[.int .i64 (l : Int), .agg #[.int .i64 (R : Int), .bool false, .slice A4 n5 c6], .int .i64 0]) rfl (by kernel_rfl) (by kernel_rfl) (by kernel_rfl) (fun _ _ _ h => h) (Or.inl ⟨by rfl, fun w' hS' => by go_simp⟩) hS1 ?_
      change wpAnyH _ _ _ _ _ _ _ (Act.put _ (some 68) (.tuple #[.int .i64 (l : Int), .agg #[.int .i64 (R : Int), .bool false, .slice A4 n5 c6], .int .i64 0])) _
      simp only [Act.put, List.setIfInBounds_toArray, List.set_cons_zero, List.set_cons_succ]
      refine wpAnyH_take (i := 6) (v := .int .i64 (l : Int)) rfl (by kernel_rfl) (by kernel_rfl) (by kernel_rfl) (fun _ _ _ h => h) (Or.inl ⟨by rfl, fun w' hS' => by go_simp⟩) hS1 ?_
      change wpAnyH _ _ _ _ _ _ _ (Act.put _ (some 74) (.int .i64 (l : Int))) _
      simp only [Act.put, List.setIfInBounds_toArray, List.set_cons_zero, List.set_cons_succ]
      refine wpAnyH_take (i := 7) (v := .agg #[.int .i64 (R : Int), .bool false, .slice A4 n5 c6]) rfl (by kernel_rfl) (by kernel_rfl) (by kernel_rfl) (fun _ _ _ h => h) (Or.inl ⟨by rfl, fun w' hS' => by go_simp⟩) hS1 ?_
      change wpAnyH _ _ _ _ _ _ _ (Act.put _ (some 75) (.agg #[.int .i64 (R : Int), .bool false, .slice A4 n5 c6])) _
      simp only [Act.put, List.setIfInBounds_toArray, List.set_cons_zero, List.set_cons_succ]
      refine wpAnyH_take (i := 8) (v := .int .i64 0) rfl (by kernel_rfl) (by kernel_rfl) (by kernel_rfl) (fun _ _ _ h => h) (Or.inl ⟨by rfl, fun w' hS' => by go_simp⟩) hS1 ?_
      change wpAnyH _ _ _ _ _ _ _ (Act.put _ (some 76) (.int .i64 0)) _
      simp only [Act.put, List.setIfInBounds_toArray, List.set_cons_zero, List.set_cons_succ]
      refine wpAnyH_ready (rs := [9]) (by kernel_rfl) (by simp) (AllReadyH.cons rfl (fun K hK => ?_) (AllReadyH.nil))
      · skip
        obtain ⟨gz12, W11, hr15, hk14, hb13, hg16⟩ := op_allocQ (W2)
        refine step_op_run (hr15 _ _ rfl) rfl ?_
        refine hK.out _ _ (hS1.trans (hb13.mono hS1.size)) (fun hS10 => ?_)
        clear hK K
        change wpAnyH _ _ _ _ _ _ _ (Act.put _ (some 21) (.pointer (some ⟨gz12, 0, none⟩))) _
        simp only [Act.put, List.setIfInBounds_toArray, List.set_cons_zero, List.set_cons_succ]
        refine wpAnyH_take (i := 10) (v := .int .i64 (l : Int)) rfl (by kernel_rfl) (by kernel_rfl) (by kernel_rfl) (fun _ _ _ h => h) (Or.inl ⟨by rfl, fun w' hS' => by exact op_assign rfl rfl⟩) hS10 ?_
        change wpAnyH _ _ _ _ _ _ _ (Act.put _ (some 20) (.int .i64 (l : Int))) _
        simp only [Act.put, List.setIfInBounds_toArray, List.set_cons_zero, List.set_cons_succ]
        refine wpAnyH_ready (rs := [11]) (by kernel_rfl) (by simp) (AllReadyH.cons rfl (fun K hK => ?_) (AllReadyH.nil))
        · skip
          obtain ⟨W18, hr20, hk19, hgr21⟩ := op_storeQ hk14 (R : Int) false A4 n5 c6
          refine step_op_skip (hr20 _ _ _ _ rfl rfl rfl) rfl ?_
          refine hK.out _ _ (grown_below hS10 hgr21 hS10.size (Nat.le_trans hS1.size hg16)) (fun hS17 => ?_)
          clear hK K
          change wpAnyH _ _ _ _ _ _ _ (Act.put _ none (undef)) _
          simp only [Act.put]
          refine wpAnyH_take (i := 12) (v := .int .i64 0) rfl (by kernel_rfl) (by kernel_rfl) (by kernel_rfl) (fun _ _ _ h => h) (Or.inl ⟨by rfl, fun w' hS' => by exact op_assign rfl rfl⟩) hS17 ?_
          change wpAnyH _ _ _ _ _ _ _ (Act.put _ (some 22) (.int .i64 0)) _
          simp only [Act.put, List.setIfInBounds_toArray, List.set_cons_zero, List.set_cons_succ]
          refine wpAnyH_done (by kernel_rfl) ?_ _
          refine NoPanic.normal ?_
          go_wp2_with fail
          go_meet
          exact ⟨gz12, A4, n5, c6, rfl, rfl, rfl, hk19, hn8, hc9, (ha7.at_.up (grown_below hb13 hgr21 hb13.size hg16)), hS17, (Nat.le_trans hS1.size hg16)⟩
    · skip
      obtain ⟨gz24, W23, hr27, hk26, hb25, hg28⟩ := op_allocQ (w4.drew)
      refine step_op_run (hr27 _ _ rfl) rfl ?_
      refine hK.out _ _ (hS0.trans (hb25.mono hS0.size)) (fun hS22 => ?_)
      clear hK K
      change wpAnyH _ _ _ _ _ _ _ (Act.put _ (some 21) (.pointer (some ⟨gz24, 0, none⟩))) _
      simp only [Act.put, List.setIfInBounds_toArray, List.set_cons_zero, List.set_cons_succ]
      refine wpAnyH_ready (rs := [4]) (by kernel_rfl) (by simp) (AllReadyH.cons rfl (fun K hK => ?_) (AllReadyH.nil))
      · skip
        go_simp
        refine (iput_any (R : Int) false (T.take n2) (T.drop k) A2 Ad n2 c2 (nt - k) (ct - k) _ l (R : Int) false (T.take n1) 0 HP3.out (HA2.out.up hS22) HNM.out HC2.out (HFT.out.take n2) (HDA.out.up hS22) HND.out HDC.out (HFT.out.drop k)).mono ?_
        rintro e W30 ⟨A32, n33, c34, rfl, hn36, hc37, ha35, hb31⟩
        refine hK.out _ _ (hS22.trans (hb31.mono hS22.size)) (fun hS29 => ?_)
        clear hK K
        simp only [List.setIfInBounds_toArray, List.set_cons_zero, List.set_cons_succ]
        refine wpAnyH_take (i := 5) (v := .tuple #[.int .i64 (l : Int), .agg #[.int .i64 (R : Int), .bool false, .slice A32 n33 c34], .int .i64 0]) rfl (by kernel_rfl) (by kernel_rfl) (by kernel_rfl) (fun _ _ _ h => h) (Or.inl ⟨by rfl, fun w' hS' => by go_simp⟩) hS29 ?_
        change wpAnyH _ _ _ _ _ _ _ (Act.put _ (some 68) (.tuple #[.int .i64 (l : Int), .agg #[.int .i64 (R : Int), .bool false, .slice A32 n33 c34], .int .i64 0])) _
        simp only [Act.put, List.setIfInBounds_toArray, List.set_cons_zero, List.set_cons_succ]
        refine wpAnyH_take (i := 6) (v := .int .i64 (l : Int)) rfl (by kernel_rfl) (by kernel_rfl) (by kernel_rfl) (fun _ _ _ h => h) (Or.inl ⟨by rfl, fun w' hS' => by go_simp⟩) hS29 ?_
        change wpAnyH _ _ _ _ _ _ _ (Act.put _ (some 74) (.int .i64 (l : Int))) _
        simp only [Act.put, List.setIfInBounds_toArray, List.set_cons_zero, List.set_cons_succ]
        refine wpAnyH_take (i := 7) (v := .agg #[.int .i64 (R : Int), .bool false, .slice A32 n33 c34]) rfl (by kernel_rfl) (by kernel_rfl) (by kernel_rfl) (fun _ _ _ h => h) (Or.inl ⟨by rfl, fun w' hS' => by go_simp⟩) hS29 ?_
        change wpAnyH _ _ _ _ _ _ _ (Act.put _ (some 75) (.agg #[.int .i64 (R : Int), .bool false, .slice A32 n33 c34])) _
        simp only [Act.put, List.setIfInBounds_toArray, List.set_cons_zero, List.set_cons_succ]
        refine wpAnyH_take (i := 8) (v := .int .i64 0) rfl (by kernel_rfl) (by kernel_rfl) (by kernel_rfl) (fun _ _ _ h => h) (Or.inl ⟨by rfl, fun w' hS' => by go_simp⟩) hS29 ?_
        change wpAnyH _ _ _ _ _ _ _ (Act.put _ (some 76) (.int .i64 0)) _
        simp only [Act.put, List.setIfInBounds_toArray, List.set_cons_zero, List.set_cons_succ]
        refine wpAnyH_take (i := 10) (v := .int .i64 (l : Int)) rfl (by kernel_rfl) (by kernel_rfl) (by kernel_rfl) (fun _ _ _ h => h) (Or.inl ⟨by rfl, fun w' hS' => by exact op_assign rfl rfl⟩) hS29 ?_
        change wpAnyH _ _ _ _ _ _ _ (Act.put _ (some 20) (.int .i64 (l : Int))) _
        simp only [Act.put, List.setIfInBounds_toArray, List.set_cons_zero, List.set_cons_succ]
        refine wpAnyH_ready (rs := [11]) (by kernel_rfl) (by simp) (AllReadyH.cons rfl (fun K hK => ?_) (AllReadyH.nil))
        · skip
          obtain ⟨W39, hr41, hk40, hgr42⟩ := op_storeQ (hk26.below hb31 hk26.lt) (R : Int) false A32 n33 c34
          refine step_op_skip (hr41 _ _ _ _ rfl rfl rfl) rfl ?_
          refine hK.out _ _ (grown_below hS29 hgr42 hS29.size (Nat.le_trans hS0.size hg28)) (fun hS38 => ?_)
          clear hK K
          change wpAnyH _ _ _ _ _ _ _ (Act.put _ none (undef)) _
          simp only [Act.put]
          refine wpAnyH_take (i := 12) (v := .int .i64 0) rfl (by kernel_rfl) (by kernel_rfl) (by kernel_rfl) (fun _ _ _ h => h) (Or.inl ⟨by rfl, fun w' hS' => by exact op_assign rfl rfl⟩) hS38 ?_
          change wpAnyH _ _ _ _ _ _ _ (Act.put _ (some 22) (.int .i64 0)) _
          simp only [Act.put, List.setIfInBounds_toArray, List.set_cons_zero, List.set_cons_succ]
          refine wpAnyH_done (by kernel_rfl) ?_ _
          refine NoPanic.normal ?_
          go_wp2_with fail
          go_meet
          exact ⟨gz24, A32, n33, c34, rfl, rfl, rfl, hk40, hn36, hc37, (ha35.far hgr42 hk26.lt).at_, hS38, (Nat.le_trans hS0.size hg28)⟩
  case rest =>
  obtain ⟨gc, A3, n3, c3, rfl, rfl, rfl, hk, hn, hc, ha, hb, hge⟩ := hcut
  have HTA := Lib.hid (HTA.out.up hb)
  have HBQ := Lib.hid (HBQ.out.below hb HBQ.out.lt)
  have HA1 := Lib.hid (HA1.out.up hb)
  have HBA := Lib.hid (HBA.out.below hb HBA.out.lt)
  have HB2 := Lib.hid (HB2.out.below hb HB2.out.lt)
  have HA2 := Lib.hid (HA2.out.up hb)
  have HW := Lib.hid (below_step HW.out hb)
  obtain ⟨w5, rfl⟩ : ∃ w3, w3 = wc := ⟨_, rfl⟩
  have HB3 := Lib.hid hk
  have HN3 := Lib.hid hn
  have HC3 := Lib.hid hc
  have HA3 := Lib.hid ha
  have HG3 := Lib.hid hge
  clear hk hn hc ha hb hge
  obtain rfl : n3 = n1 := by rw [← HN3.out, HNN.out]
  clear HQ7 HDA
  go_upto_region 8 with (fail)
  obtain ⟨y0, y1, y2⟩ := blk3 HBA.out
  obtain ⟨z0, z1, z2⟩ := blk3 HB3.out
  have HMN2 : Hid (((n3 : Int) != min (nt : Int) (R : Int)) = false) := Lib.hid (by rw [HMN.out]; simp)
  have tmn := HMN2.out
  have hl20 : l ≤ 20 := by have := HML.out; omega
  have tml : (n2 : Int) + (l : Int) = (n3 : Int) := by have := HML.out; omega
  go_wp2_with fail
  refine (pick16_v room 30 R HRM.out _ HI2.out (by omega) (by omega)).mono ?_
  rintro e w' ⟨rfl, rfl⟩
  go_wp2_with fail
  refine (rsame_any (R : Int) (R : Int) false false A1 A3 (T.take n3) (T.take n3) n3 n3 c1 c3 true (decide_eq_true rfl) _ HA1.out HA3.out HNN.out HNN.out (by omega) (by omega)).mono ?_
  rintro e w6 ⟨rfl, hb⟩
  have HTA := Lib.hid (HTA.out.up hb)
  have HBQ := Lib.hid (HBQ.out.below hb HBQ.out.lt)
  have HA1 := Lib.hid (HA1.out.up hb)
  have HBA := Lib.hid (HBA.out.below hb HBA.out.lt)
  have HB2 := Lib.hid (HB2.out.below hb HB2.out.lt)
  have HA2 := Lib.hid (HA2.out.up hb)
  have HB3 := Lib.hid (HB3.out.below hb HB3.out.lt)
  have HA3 := Lib.hid (HA3.out.up hb)
  have HW := Lib.hid (below_step HW.out hb)
  clear hb tmn tml y0 y1 y2 z0 z1 z2
  clear HB3 HA3 HBQ HB2 HA2
  obtain ⟨y0, y1, y2⟩ := blk3 HBA.out
  have HFN : Hid (FitT (T.take n3)) := Lib.hid (HFT.out.take n3)
  have HCL : Hid (closeQ ⟨(R : Int), false, T.take n3⟩ = (⟨(R : Int), true, T.take n3⟩, 0)) := Lib.hid (close_ok (right_of (by show (0 : Int) ≤ (R : Int); omega) (by show (R : Int) ≤ 4096; omega) (by show ((T.take n3).length : Int) ≤ (R : Int); rw [HNN.out]; omega)))
  go_wp2_with fail
  refine (iclose_any (R : Int) false (T.take n3) A1 n3 c1 _ (R : Int) true (T.take n3) 0 HCL.out HA1.out HNN.out HFN.out).mono ?_
  rintro e w7 ⟨A4, n4, c4, rfl, hn, hc, ha, hb⟩
  have HTA := Lib.hid (HTA.out.up hb)
  have HA1 := Lib.hid (HA1.out.up hb)
  have HBA := Lib.hid (HBA.out.below hb HBA.out.lt)
  have HW := Lib.hid (below_step HW.out hb)
  obtain rfl : n4 = n3 := by rw [← hn, HNN.out]
  have HC4 := Lib.hid hc
  have HA4 := Lib.hid ha.at_
  clear hn hc ha hb y0 y1 y2
  clear HBA HA1
  go_upto_region 11 with (fail)
  obtain ⟨gd, v8, hg, hv, hk, hbe⟩ := box_new w7 24 #[.int .i64 (R : Int), .bool true, .slice A4 n4 c4]
  rw [← hv, ← hg]
  have HBD := Lib.hid hk
  have HTA := Lib.hid (HTA.out.up hbe)
  have HA4 := Lib.hid (HA4.out.up hbe)
  have HW := Lib.hid (below_step HW.out hbe)
  clear hg hv hk hbe
  obtain ⟨D, hD⟩ : ∃ D, others (T.take n4) rq = D := ⟨_, rfl⟩
  obtain ⟨dl, hdl⟩ : ∃ dl, D.length = dl := ⟨_, rfl⟩
  have hdn : dl ≤ n4 := by have := others_len (T.take n4) rq; rw [hD, hdl, HNN.out] at this; exact this
  obtain ⟨gn, hgn⟩ : ∃ gn, n4 - dl = gn := ⟨_, rfl⟩
  have hgd : gn + dl = n4 := by omega
  have HDL := Lib.hid hdl
  have HDM : Hid (∀ x ∈ D, x.req ≠ rq) := Lib.hid (by rw [← hD]; exact fun x hx => others_ne hx)
  have HFD : Hid (FitT D) := Lib.hid (by rw [← hD]; exact HFN.out.others rq)
  have HDR : Hid (dropQ ⟨(R : Int), true, T.take n4⟩ rq = (gn, ⟨(R : Int), true, D⟩, 0)) := Lib.hid (by
    rw [drop_ok (right_of (by show (0 : Int) ≤ (R : Int); omega) (by show (R : Int) ≤ 4096; omega) (by show ((T.take n4).length : Int) ≤ (R : Int); rw [HNN.out]; omega))]
    simp only [hD, HNN.out, hdl, hgn])
  have HGD := Lib.hid hgd
  clear hD hdl hgn hgd
  have HWV := HW
  have HQ11 : Hid (∀ W, Below v8.heap.size v8 W → Blk W gd 24 #[.int .i64 (R : Int), .bool true, .slice A4 n4 c4]) := Lib.hid fun W hW => HBD.out.below hW HBD.out.lt
  go_cut [25, 26, 27] (fun s25 s26 s27 wx => PutCut gn (R : Int) true (D) 0 v8 s25 s26 s27 wx)
  case first =>
    refine wp_region_noPanic ?_
    refine wp_region_held_drew (S := fun W => Below v8.heap.size v8 W) (by kernel_rfl) ((Below.refl v8.heap.size v8).drew) (fun hS0 => ?_)
    change wpAnyH _ _ _ _ _ 12 #[false, false, false, false, false, false, false, false, false, false, false, false] _ (World.drew _)
    refine wpAnyH_take (i := 0) (v := .agg #[.int .i64 (R : Int), .bool true, .slice A4 n4 c4]) rfl (by kernel_rfl) (by kernel_rfl) (by kernel_rfl) (fun _ _ _ h => h) (Or.inl ⟨by rfl, fun w' hS' => by obtain ⟨y0, y1, y2⟩ := blk3 (HQ11.out w' hS'); go_simp⟩) hS0 ?_
    change wpAnyH _ _ _ _ _ _ _ (Act.put _ (some 129) (.agg #[.int .i64 (R : Int), .bool true, .slice A4 n4 c4])) _
    simp only [Act.put, List.setIfInBounds_toArray, List.set_cons_zero, List.set_cons_succ]
    refine wpAnyH_take (i := 1) (v := .int .i64 req) rfl (by kernel_rfl) (by kernel_rfl) (by kernel_rfl) (fun _ _ _ h => h) (Or.inl ⟨by rfl, fun w' hS' => by go_simp⟩) hS0 ?_
    change wpAnyH _ _ _ _ _ _ _ (Act.put _ (some 130) (.int .i64 req)) _
    simp only [Act.put, List.setIfInBounds_toArray, List.set_cons_zero, List.set_cons_succ]
    refine wpAnyH_ready (rs := [2, 8]) (by kernel_rfl) (by simp) (AllReadyH.cons rfl (fun K hK => ?_) (AllReadyH.cons rfl (fun K hK => ?_) (AllReadyH.nil)))
    · skip
      go_simp
      refine (pick16_v req 4 rq HRQ.out _ HI3.out (by omega) (by omega)).mono ?_
      rintro e W ⟨rfl, rfl⟩
      refine hK.out _ _ hS0 (fun hS1 => ?_)
      clear hK K
      simp only [List.setIfInBounds_toArray, List.set_cons_zero, List.set_cons_succ]
      refine wpAnyH_ready (rs := [3, 8]) (by kernel_rfl) (by simp) (AllReadyH.cons rfl (fun K hK => ?_) (AllReadyH.cons rfl (fun K hK => ?_) (AllReadyH.nil)))
      · skip
        go_simp
        refine (idrop_any (R : Int) true (T.take n4) A4 n4 c4 rq _ gn (R : Int) true D 0 HDR.out (HA4.out.up hS1) HNN.out HC4.out HFN.out).mono ?_
        rintro e W3 ⟨A5, n6, c7, rfl, hn9, hc10, ha8, hb4⟩
        refine hK.out _ _ (hS1.trans (hb4.mono hS1.size)) (fun hS2 => ?_)
        clear hK K
        simp only [List.setIfInBounds_toArray, List.set_cons_zero, List.set_cons_succ]
        refine wpAnyH_take (i := 4) (v := .tuple #[.int .i64 (gn : Int), .agg #[.int .i64 (R : Int), .bool true, .slice A5 n6 c7], .int .i64 0]) rfl (by kernel_rfl) (by kernel_rfl) (by kernel_rfl) (fun _ _ _ h => h) (Or.inl ⟨by rfl, fun w' hS' => by go_simp⟩) hS2 ?_
        change wpAnyH _ _ _ _ _ _ _ (Act.put _ (some 128) (.tuple #[.int .i64 (gn : Int), .agg #[.int .i64 (R : Int), .bool true, .slice A5 n6 c7], .int .i64 0])) _
        simp only [Act.put, List.setIfInBounds_toArray, List.set_cons_zero, List.set_cons_succ]
        refine wpAnyH_take (i := 5) (v := .int .i64 (gn : Int)) rfl (by kernel_rfl) (by kernel_rfl) (by kernel_rfl) (fun _ _ _ h => h) (Or.inl ⟨by rfl, fun w' hS' => by go_simp⟩) hS2 ?_
        change wpAnyH _ _ _ _ _ _ _ (Act.put _ (some 133) (.int .i64 (gn : Int))) _
        simp only [Act.put, List.setIfInBounds_toArray, List.set_cons_zero, List.set_cons_succ]
        refine wpAnyH_take (i := 6) (v := .agg #[.int .i64 (R : Int), .bool true, .slice A5 n6 c7]) rfl (by kernel_rfl) (by kernel_rfl) (by kernel_rfl) (fun _ _ _ h => h) (Or.inl ⟨by rfl, fun w' hS' => by go_simp⟩) hS2 ?_
        change wpAnyH _ _ _ _ _ _ _ (Act.put _ (some 134) (.agg #[.int .i64 (R : Int), .bool true, .slice A5 n6 c7])) _
        simp only [Act.put, List.setIfInBounds_toArray, List.set_cons_zero, List.set_cons_succ]
        refine wpAnyH_take (i := 7) (v := .int .i64 0) rfl (by kernel_rfl) (by kernel_rfl) (by kernel_rfl) (fun _ _ _ h => h) (Or.inl ⟨by rfl, fun w' hS' => by go_simp⟩) hS2 ?_
        change wpAnyH _ _ _ _ _ _ _ (Act.put _ (some 135) (.int .i64 0)) _
        simp only [Act.put, List.setIfInBounds_toArray, List.set_cons_zero, List.set_cons_succ]
        refine wpAnyH_ready (rs := [8]) (by kernel_rfl) (by simp) (AllReadyH.cons rfl (fun K hK => ?_) (AllReadyH.nil))
        · skip
          obtain ⟨gz13, W12, hr16, hk15, hb14, hg17⟩ := op_allocQ (W3)
          refine step_op_run (hr16 _ _ rfl) rfl ?_
          refine hK.out _ _ (hS2.trans (hb14.mono hS2.size)) (fun hS11 => ?_)
          clear hK K
          change wpAnyH _ _ _ _ _ _ _ (Act.put _ (some 26) (.pointer (some ⟨gz13, 0, none⟩))) _
          simp only [Act.put, List.setIfInBounds_toArray, List.set_cons_zero, List.set_cons_succ]
          refine wpAnyH_take (i := 9) (v := .int .i64 (gn : Int)) rfl (by kernel_rfl) (by kernel_rfl) (by kernel_rfl) (fun _ _ _ h => h) (Or.inl ⟨by rfl, fun w' hS' => by exact op_assign rfl rfl⟩) hS11 ?_
          change wpAnyH _ _ _ _ _ _ _ (Act.put _ (some 25) (.int .i64 (gn : Int))) _
          simp only [Act.put, List.setIfInBounds_toArray, List.set_cons_zero, List.set_cons_succ]
          refine wpAnyH_ready (rs := [10]) (by kernel_rfl) (by simp) (AllReadyH.cons rfl (fun K hK => ?_) (AllReadyH.nil))
          · skip
            obtain ⟨W19, hr21, hk20, hgr22⟩ := op_storeQ hk15 (R : Int) true A5 n6 c7
            refine step_op_skip (hr21 _ _ _ _ rfl rfl rfl) rfl ?_
            refine hK.out _ _ (grown_below hS11 hgr22 hS11.size (Nat.le_trans hS2.size hg17)) (fun hS18 => ?_)
            clear hK K
            change wpAnyH _ _ _ _ _ _ _ (Act.put _ none (undef)) _
            simp only [Act.put]
            refine wpAnyH_take (i := 11) (v := .int .i64 0) rfl (by kernel_rfl) (by kernel_rfl) (by kernel_rfl) (fun _ _ _ h => h) (Or.inl ⟨by rfl, fun w' hS' => by exact op_assign rfl rfl⟩) hS18 ?_
            change wpAnyH _ _ _ _ _ _ _ (Act.put _ (some 27) (.int .i64 0)) _
            simp only [Act.put, List.setIfInBounds_toArray, List.set_cons_zero, List.set_cons_succ]
            refine wpAnyH_done (by kernel_rfl) ?_ _
            refine NoPanic.normal ?_
            go_wp2_with fail
            go_meet
            exact ⟨gz13, A5, n6, c7, rfl, rfl, rfl, hk20, hn9, hc10, (ha8.at_.up (grown_below hb14 hgr22 hb14.size hg17)), hS18, (Nat.le_trans hS2.size hg17)⟩
      · skip
        obtain ⟨gz25, W24, hr28, hk27, hb26, hg29⟩ := op_allocQ (v8.drew)
        refine step_op_run (hr28 _ _ rfl) rfl ?_
        refine hK.out _ _ (hS1.trans (hb26.mono hS1.size)) (fun hS23 => ?_)
        clear hK K
        change wpAnyH _ _ _ _ _ _ _ (Act.put _ (some 26) (.pointer (some ⟨gz25, 0, none⟩))) _
        simp only [Act.put, List.setIfInBounds_toArray, List.set_cons_zero, List.set_cons_succ]
        refine wpAnyH_ready (rs := [3]) (by kernel_rfl) (by simp) (AllReadyH.cons rfl (fun K hK => ?_) (AllReadyH.nil))
        · skip
          go_simp
          refine (idrop_any (R : Int) true (T.take n4) A4 n4 c4 rq _ gn (R : Int) true D 0 HDR.out (HA4.out.up hS23) HNN.out HC4.out HFN.out).mono ?_
          rintro e W31 ⟨A33, n34, c35, rfl, hn37, hc38, ha36, hb32⟩
          refine hK.out _ _ (hS23.trans (hb32.mono hS23.size)) (fun hS30 => ?_)
          clear hK K
          simp only [List.setIfInBounds_toArray, List.set_cons_zero, List.set_cons_succ]
          refine wpAnyH_take (i := 4) (v := .tuple #[.int .i64 (gn : Int), .agg #[.int .i64 (R : Int), .bool true, .slice A33 n34 c35], .int .i64 0]) rfl (by kernel_rfl) (by kernel_rfl) (by kernel_rfl) (fun _ _ _ h => h) (Or.inl ⟨by rfl, fun w' hS' => by go_simp⟩) hS30 ?_
          change wpAnyH _ _ _ _ _ _ _ (Act.put _ (some 128) (.tuple #[.int .i64 (gn : Int), .agg #[.int .i64 (R : Int), .bool true, .slice A33 n34 c35], .int .i64 0])) _
          simp only [Act.put, List.setIfInBounds_toArray, List.set_cons_zero, List.set_cons_succ]
          refine wpAnyH_take (i := 5) (v := .int .i64 (gn : Int)) rfl (by kernel_rfl) (by kernel_rfl) (by kernel_rfl) (fun _ _ _ h => h) (Or.inl ⟨by rfl, fun w' hS' => by go_simp⟩) hS30 ?_
          change wpAnyH _ _ _ _ _ _ _ (Act.put _ (some 133) (.int .i64 (gn : Int))) _
          simp only [Act.put, List.setIfInBounds_toArray, List.set_cons_zero, List.set_cons_succ]
          refine wpAnyH_take (i := 6) (v := .agg #[.int .i64 (R : Int), .bool true, .slice A33 n34 c35]) rfl (by kernel_rfl) (by kernel_rfl) (by kernel_rfl) (fun _ _ _ h => h) (Or.inl ⟨by rfl, fun w' hS' => by go_simp⟩) hS30 ?_
          change wpAnyH _ _ _ _ _ _ _ (Act.put _ (some 134) (.agg #[.int .i64 (R : Int), .bool true, .slice A33 n34 c35])) _
          simp only [Act.put, List.setIfInBounds_toArray, List.set_cons_zero, List.set_cons_succ]
          refine wpAnyH_take (i := 7) (v := .int .i64 0) rfl (by kernel_rfl) (by kernel_rfl) (by kernel_rfl) (fun _ _ _ h => h) (Or.inl ⟨by rfl, fun w' hS' => by go_simp⟩) hS30 ?_
          change wpAnyH _ _ _ _ _ _ _ (Act.put _ (some 135) (.int .i64 0)) _
          simp only [Act.put, List.setIfInBounds_toArray, List.set_cons_zero, List.set_cons_succ]
          refine wpAnyH_take (i := 9) (v := .int .i64 (gn : Int)) rfl (by kernel_rfl) (by kernel_rfl) (by kernel_rfl) (fun _ _ _ h => h) (Or.inl ⟨by rfl, fun w' hS' => by exact op_assign rfl rfl⟩) hS30 ?_
          change wpAnyH _ _ _ _ _ _ _ (Act.put _ (some 25) (.int .i64 (gn : Int))) _
          simp only [Act.put, List.setIfInBounds_toArray, List.set_cons_zero, List.set_cons_succ]
          refine wpAnyH_ready (rs := [10]) (by kernel_rfl) (by simp) (AllReadyH.cons rfl (fun K hK => ?_) (AllReadyH.nil))
          · skip
            obtain ⟨W40, hr42, hk41, hgr43⟩ := op_storeQ (hk27.below hb32 hk27.lt) (R : Int) true A33 n34 c35
            refine step_op_skip (hr42 _ _ _ _ rfl rfl rfl) rfl ?_
            refine hK.out _ _ (grown_below hS30 hgr43 hS30.size (Nat.le_trans hS1.size hg29)) (fun hS39 => ?_)
            clear hK K
            change wpAnyH _ _ _ _ _ _ _ (Act.put _ none (undef)) _
            simp only [Act.put]
            refine wpAnyH_take (i := 11) (v := .int .i64 0) rfl (by kernel_rfl) (by kernel_rfl) (by kernel_rfl) (fun _ _ _ h => h) (Or.inl ⟨by rfl, fun w' hS' => by exact op_assign rfl rfl⟩) hS39 ?_
            change wpAnyH _ _ _ _ _ _ _ (Act.put _ (some 27) (.int .i64 0)) _
            simp only [Act.put, List.setIfInBounds_toArray, List.set_cons_zero, List.set_cons_succ]
            refine wpAnyH_done (by kernel_rfl) ?_ _
            refine NoPanic.normal ?_
            go_wp2_with fail
            go_meet
            exact ⟨gz25, A33, n34, c35, rfl, rfl, rfl, hk41, hn37, hc38, (ha36.far hgr43 hk27.lt).at_, hS39, (Nat.le_trans hS1.size hg29)⟩
    · skip
      obtain ⟨gz46, W45, hr49, hk48, hb47, hg50⟩ := op_allocQ (v8.drew)
      refine step_op_run (hr49 _ _ rfl) rfl ?_
      refine hK.out _ _ (hS0.trans (hb47.mono hS0.size)) (fun hS44 => ?_)
      clear hK K
      change wpAnyH _ _ _ _ _ _ _ (Act.put _ (some 26) (.pointer (some ⟨gz46, 0, none⟩))) _
      simp only [Act.put, List.setIfInBounds_toArray, List.set_cons_zero, List.set_cons_succ]
      refine wpAnyH_ready (rs := [2]) (by kernel_rfl) (by simp) (AllReadyH.cons rfl (fun K hK => ?_) (AllReadyH.nil))
      · skip
        go_simp
        refine (pick16_v req 4 rq HRQ.out _ HI3.out (by omega) (by omega)).mono ?_
        rintro e W ⟨rfl, rfl⟩
        refine hK.out _ _ hS44 (fun hS51 => ?_)
        clear hK K
        simp only [List.setIfInBounds_toArray, List.set_cons_zero, List.set_cons_succ]
        refine wpAnyH_ready (rs := [3]) (by kernel_rfl) (by simp) (AllReadyH.cons rfl (fun K hK => ?_) (AllReadyH.nil))
        · skip
          go_simp
          refine (idrop_any (R : Int) true (T.take n4) A4 n4 c4 rq _ gn (R : Int) true D 0 HDR.out (HA4.out.up hS51) HNN.out HC4.out HFN.out).mono ?_
          rintro e W53 ⟨A55, n56, c57, rfl, hn59, hc60, ha58, hb54⟩
          refine hK.out _ _ (hS51.trans (hb54.mono hS51.size)) (fun hS52 => ?_)
          clear hK K
          simp only [List.setIfInBounds_toArray, List.set_cons_zero, List.set_cons_succ]
          refine wpAnyH_take (i := 4) (v := .tuple #[.int .i64 (gn : Int), .agg #[.int .i64 (R : Int), .bool true, .slice A55 n56 c57], .int .i64 0]) rfl (by kernel_rfl) (by kernel_rfl) (by kernel_rfl) (fun _ _ _ h => h) (Or.inl ⟨by rfl, fun w' hS' => by go_simp⟩) hS52 ?_
          change wpAnyH _ _ _ _ _ _ _ (Act.put _ (some 128) (.tuple #[.int .i64 (gn : Int), .agg #[.int .i64 (R : Int), .bool true, .slice A55 n56 c57], .int .i64 0])) _
          simp only [Act.put, List.setIfInBounds_toArray, List.set_cons_zero, List.set_cons_succ]
          refine wpAnyH_take (i := 5) (v := .int .i64 (gn : Int)) rfl (by kernel_rfl) (by kernel_rfl) (by kernel_rfl) (fun _ _ _ h => h) (Or.inl ⟨by rfl, fun w' hS' => by go_simp⟩) hS52 ?_
          change wpAnyH _ _ _ _ _ _ _ (Act.put _ (some 133) (.int .i64 (gn : Int))) _
          simp only [Act.put, List.setIfInBounds_toArray, List.set_cons_zero, List.set_cons_succ]
          refine wpAnyH_take (i := 6) (v := .agg #[.int .i64 (R : Int), .bool true, .slice A55 n56 c57]) rfl (by kernel_rfl) (by kernel_rfl) (by kernel_rfl) (fun _ _ _ h => h) (Or.inl ⟨by rfl, fun w' hS' => by go_simp⟩) hS52 ?_
          change wpAnyH _ _ _ _ _ _ _ (Act.put _ (some 134) (.agg #[.int .i64 (R : Int), .bool true, .slice A55 n56 c57])) _
          simp only [Act.put, List.setIfInBounds_toArray, List.set_cons_zero, List.set_cons_succ]
          refine wpAnyH_take (i := 7) (v := .int .i64 0) rfl (by kernel_rfl) (by kernel_rfl) (by kernel_rfl) (fun _ _ _ h => h) (Or.inl ⟨by rfl, fun w' hS' => by go_simp⟩) hS52 ?_
          change wpAnyH _ _ _ _ _ _ _ (Act.put _ (some 135) (.int .i64 0)) _
          simp only [Act.put, List.setIfInBounds_toArray, List.set_cons_zero, List.set_cons_succ]
          refine wpAnyH_take (i := 9) (v := .int .i64 (gn : Int)) rfl (by kernel_rfl) (by kernel_rfl) (by kernel_rfl) (fun _ _ _ h => h) (Or.inl ⟨by rfl, fun w' hS' => by exact op_assign rfl rfl⟩) hS52 ?_
          change wpAnyH _ _ _ _ _ _ _ (Act.put _ (some 25) (.int .i64 (gn : Int))) _
          simp only [Act.put, List.setIfInBounds_toArray, List.set_cons_zero, List.set_cons_succ]
          refine wpAnyH_ready (rs := [10]) (by kernel_rfl) (by simp) (AllReadyH.cons rfl (fun K hK => ?_) (AllReadyH.nil))
          · skip
            obtain ⟨W62, hr64, hk63, hgr65⟩ := op_storeQ (hk48.below hb54 hk48.lt) (R : Int) true A55 n56 c57
            refine step_op_skip (hr64 _ _ _ _ rfl rfl rfl) rfl ?_
            refine hK.out _ _ (grown_below hS52 hgr65 hS52.size (Nat.le_trans hS0.size hg50)) (fun hS61 => ?_)
            clear hK K
            change wpAnyH _ _ _ _ _ _ _ (Act.put _ none (undef)) _
            simp only [Act.put]
            refine wpAnyH_take (i := 11) (v := .int .i64 0) rfl (by kernel_rfl) (by kernel_rfl) (by kernel_rfl) (fun _ _ _ h => h) (Or.inl ⟨by rfl, fun w' hS' => by exact op_assign rfl rfl⟩) hS61 ?_
            change wpAnyH _ _ _ _ _ _ _ (Act.put _ (some 27) (.int .i64 0)) _
            simp only [Act.put, List.setIfInBounds_toArray, List.set_cons_zero, List.set_cons_succ]
            refine wpAnyH_done (by kernel_rfl) ?_ _
            refine NoPanic.normal ?_
            go_wp2_with fail
            go_meet
            exact ⟨gz46, A55, n56, c57, rfl, rfl, rfl, hk63, hn59, hc60, (ha58.far hgr65 hk48.lt).at_, hS61, (Nat.le_trans hS0.size hg50)⟩
  case rest =>
  obtain ⟨gx, A5, n5, c5, rfl, rfl, rfl, hk, hn, hc, ha, hb, hge⟩ := hcut
  have HTA := Lib.hid (HTA.out.up hb)
  have HA4 := Lib.hid (HA4.out.up hb)
  have HBD := Lib.hid (HBD.out.below hb HBD.out.lt)
  have HW := Lib.hid (below_step HW.out hb)
  obtain ⟨w9, rfl⟩ : ∃ w3, w3 = wc := ⟨_, rfl⟩
  have HV5 := Lib.hid hb
  have HB5 := Lib.hid hk
  have HN5 := Lib.hid hn
  have HC5 := Lib.hid hc
  have HA5 := Lib.hid ha
  have HG5 := Lib.hid hge
  clear hk hn hc ha hb hge
  obtain rfl : n5 = dl := by rw [← HN5.out, HDL.out]
  clear HQ11
  clear HBD HA4
  go_upto_region 12 with (fail)
  obtain ⟨y0, y1, y2⟩ := blk3 HB5.out
  have HPC : Hid (putQ ⟨(R : Int), true, D⟩ T = (0, ⟨0, false, []⟩, 13)) := Lib.hid (put_closed (right_of (by show (0 : Int) ≤ (R : Int); omega) (by show (R : Int) ≤ 4096; omega) (by show (D.length : Int) ≤ (R : Int); rw [HDL.out]; omega)) rfl)
  go_wp2_with fail
  refine (iput_any (R : Int) true D T A5 At n5 c5 nt ct _ 0 0 false [] 13 HPC.out HA5.out HDL.out HC5.out HFD.out HTA.out HNT.out HCT.out HFT.out).mono ?_
  rintro e w10 ⟨A6, n6, c6, rfl, -, -, -, hb⟩
  have HTA := Lib.hid (HTA.out.up hb)
  have HB5 := Lib.hid (HB5.out.below hb HB5.out.lt)
  have HA5 := Lib.hid (HA5.out.up hb)
  have HV5 := Lib.hid (below_step HV5.out hb)
  have HW := Lib.hid (below_step HW.out hb)
  clear hb y0 y1 y2
  clear HTA
  go_upto_region 13 with (fail)
  obtain ⟨g6, v11, hg, hv, hk, hbe⟩ := box_new w10 24 #[.int .i64 0, .bool false, .slice A6 n6 c6]
  rw [← hv, ← hg]
  have HB6 := Lib.hid hk
  have HB5 := Lib.hid (HB5.out.below hbe HB5.out.lt)
  have HA5 := Lib.hid (HA5.out.up hbe)
  have HV5 := Lib.hid (below_step HV5.out hbe)
  have HW := Lib.hid (below_step HW.out hbe)
  clear hg hv hk hbe
  clear HB6
  obtain ⟨y0, y1, y2⟩ := blk3 HB5.out
  have hg20 : gn ≤ 20 := by have := HGD.out; omega
  have hd20 : n5 ≤ 20 := by have := HGD.out; omega
  have tgd : (gn : Int) + (n5 : Int) = (n4 : Int) := by have := HGD.out; omega
  go_wp2_with fail
  go_loopw [31] (fun i wr => ∃ (l n6 c6 : Nat) (A6 : Option Addr), l ≤ n5 ∧ i = .int .i64 l ∧ Hid (Blk wr gx 24 #[.int .i64 (R : Int), .bool true, .slice A6 n6 c6]) ∧ Hid (TasksAt wr A6 (D.drop l)) ∧ Hid ((D.drop l).length = n6) ∧ Hid (n6 ≤ c6) ∧ Hid (Below v8.heap.size v8 wr)) (fun i _ => 30 - (intOf i).toNat)
  case atStart => exact ⟨0, n5, c5, A5, Nat.zero_le _, rfl, HB5, by rw [List.drop_zero]; exact HA5, Lib.hid (by rw [List.drop_zero]; exact HDL.out), HC5, HV5⟩
  case round =>
    clear HB5 HA5 HC5 tgd y0 y1 y2
    obtain ⟨l, n6, c6, A6, hl, rfl, HX, HXA, HXN, HXC, HXV⟩ := hrel
    obtain ⟨v1, rfl⟩ : ∃ w3, w3 = wr := ⟨_, rfl⟩
    obtain ⟨y0, y1, y2⟩ := blk3 HX.out
    have hnl : n6 + l = n5 := by have := HXN.out; rw [List.length_drop, HDL.out] at this; omega
    by_cases g1 : l < n5
    · have t1 : decide ((l : Int) < 30) = true := decide_eq_true (by omega)
      have t2 : decide ((0 : Int) < (n6 : Int)) = true := decide_eq_true (by omega)
      have t3 : decide (0 < n6) = true := decide_eq_true (by omega)
      obtain ⟨x, hx⟩ : ∃ x, D[l]? = some x := ⟨_, List.getElem?_eq_getElem (by rw [HDL.out]; omega)⟩
      have HNE : Hid (x.req ≠ rq) := Lib.hid (HDM.out x (List.mem_of_getElem? hx))
      have HTK : Hid (takeQ ⟨(R : Int), true, D.drop l⟩ = (x, ⟨(R : Int), true, D.drop (l + 1)⟩, 0)) := Lib.hid (take_step hx (by omega) (by omega) (by rw [HDL.out]; omega))
      have HFI : Hid ((D.drop l)[0]? = some x) := Lib.hid (by rw [drop_cons hx]; rfl)
      have HLT : Hid (gx < v1.heap.size) := Lib.hid HX.out.lt
      obtain ⟨a, rfl, hax⟩ := first_cells HXA.out HFI.out
      have HAX := Lib.hid hax
      clear hx hax
      go_wp2_with fail
      refine (itake_any (R : Int) true (D.drop l) (some a) n6 c6 _ x (R : Int) true (D.drop (l + 1)) 0 HTK.out HXA.out HXN.out HXC.out (HFD.out.drop l)).mono ?_
      rintro e v2 ⟨A7, n7, c7, rfl, hn, hc, ha, hb⟩
      have HN7 := Lib.hid hn
      have HC7 := Lib.hid hc
      have HA7 := Lib.hid ha
      have HAX : Hid (∀ W, Below v2.heap.size v2 W → W.cell? a = some (.int .i64 x.req) ∧ W.cell? ⟨a.block, a.off + 1, none⟩ = some (.int .i64 x.slot) ∧ W.cell? ⟨a.block, a.off + 2, none⟩ = some (.string x.left) ∧ W.cell? ⟨a.block, a.off + 3, none⟩ = some (.string x.right)) := Lib.hid fun W hW => HAX.out W (below_step hb hW)
      have HX := Lib.hid (HX.out.below hb HX.out.lt)
      have HXV := Lib.hid (below_step HXV.out hb)
      clear hn hc ha hb y0 y1 y2 t1 t2 t3 HXA
      go_upto_region 19 with (fail)
      obtain ⟨gz, gn', v3, hg1, hg2, hv, hk1, hk2, hbe, -⟩ := box_two v2 39 #[.int .i64 x.req, .int .i64 x.slot, .string x.left, .string x.right] 24 #[.int .i64 (R : Int), .bool true, .slice A7 n7 c7]
      rw [← hv, ← hg2, ← hg1]
      have HZ := Lib.hid hk1
      have HNX := Lib.hid hk2
      have HA7 := Lib.hid (HA7.out.up hbe)
      have HX := Lib.hid (HX.out.below hbe HX.out.lt)
      have HXV := Lib.hid (below_step HXV.out hbe)
      have H1 : Hid (∀ W, Below v3.heap.size v3 W → Blk W gz 39 #[.int .i64 x.req, .int .i64 x.slot, .string x.left, .string x.right]) := Lib.hid fun W hW => HZ.out.below hW HZ.out.lt
      have H2 : Hid (∀ W, Below v3.heap.size v3 W → Blk W gx 24 #[.int .i64 (R : Int), .bool true, .slice (some a) n6 c6]) := Lib.hid fun W hW => HX.out.below hW HX.out.lt
      have H3 : Hid (∀ W, Below v3.heap.size v3 W → Blk W gn' 24 #[.int .i64 (R : Int), .bool true, .slice A7 n7 c7]) := Lib.hid fun W hW => HNX.out.below hW HNX.out.lt
      have HAX : Hid (∀ W, Below v3.heap.size v3 W → W.cell? a = some (.int .i64 x.req) ∧ W.cell? ⟨a.block, a.off + 1, none⟩ = some (.int .i64 x.slot) ∧ W.cell? ⟨a.block, a.off + 2, none⟩ = some (.string x.left) ∧ W.cell? ⟨a.block, a.off + 3, none⟩ = some (.string x.right)) := Lib.hid fun W hW => HAX.out W (below_step hbe hW)
      clear hg1 hg2 hv hk1 hk2 hbe
      have hn7 : n7 + 1 = n6 := by have h1 := HN7.out; rw [List.length_drop, HDL.out] at h1; omega
      have HWR : Hid (IntKind.i64.wrap ((n6 : Int) - 1) = ((n7 : Nat) : Int)) := Lib.hid (by rw [IntWalk.i64_in _ (by omega)]; omega)
      have HQN : Hid ((x.req == rq) = false) := Lib.hid (by rw [beq_eq_false_iff_ne]; exact HNE.out)
      refine wp_region_noPanic ?_
      refine wp_region_held_drew (S := fun W => Below v3.heap.size v3 W) (by kernel_rfl) ((Below.refl v3.heap.size v3).drew) (fun hS0 => ?_)
      change wpAnyH _ _ _ _ _ 27 #[false, false, false, false, false, false, false, false, false, false, false, false, false, false, false, false, false, false, false, false, false, false, false, false, false, false, false] _ (World.drew _)
      refine wpAnyH_take (i := 0) (v := .int .i64 0) rfl (by kernel_rfl) (by kernel_rfl) (by kernel_rfl) (fun _ _ _ h => h) (Or.inl ⟨by rfl, fun w' hS' => by go_simp⟩) hS0 ?_
      change wpAnyH _ _ _ _ _ _ _ (Act.put _ (some 178) (.int .i64 0)) _
      simp only [Act.put, List.setIfInBounds_toArray, List.set_cons_zero, List.set_cons_succ]
      refine wpAnyH_take (i := 1) (v := .bool false) rfl (by kernel_rfl) (by kernel_rfl) (by kernel_rfl) (fun _ _ _ h => h) (Or.inl ⟨by rfl, fun w' hS' => by go_simp⟩) hS0 ?_
      change wpAnyH _ _ _ _ _ _ _ (Act.put _ (some 179) (.bool false)) _
      simp only [Act.put, List.setIfInBounds_toArray, List.set_cons_zero, List.set_cons_succ]
      refine wpAnyH_take (i := 2) (v := .bool false) rfl (by kernel_rfl) (by kernel_rfl) (by kernel_rfl) (fun _ _ _ h => h) (Or.inl ⟨by rfl, fun w' hS' => by go_simp⟩) hS0 ?_
      change wpAnyH _ _ _ _ _ _ _ (Act.put _ (some 180) (.bool false)) _
      simp only [Act.put, List.setIfInBounds_toArray, List.set_cons_zero, List.set_cons_succ]
      refine wpAnyH_take (i := 3) (v := .pointer (some ⟨gz, 0, none⟩)) rfl (by kernel_rfl) (by kernel_rfl) (by kernel_rfl) (fun _ _ _ h => h) (Or.inl ⟨by rfl, fun w' hS' => by go_simp⟩) hS0 ?_
      change wpAnyH _ _ _ _ _ _ _ (Act.put _ (some 181) (.pointer (some ⟨gz, 0, none⟩))) _
      simp only [Act.put, List.setIfInBounds_toArray, List.set_cons_zero, List.set_cons_succ]
      refine wpAnyH_take (i := 4) (v := .int .i64 x.req) rfl (by kernel_rfl) (by kernel_rfl) (by kernel_rfl) (fun _ _ _ h => h) (Or.inl ⟨by rfl, fun w' hS' => by obtain ⟨c0, c1, c2, c3⟩ := blk4 (H1.out w' hS'); go_simp⟩) hS0 ?_
      change wpAnyH _ _ _ _ _ _ _ (Act.put _ (some 182) (.int .i64 x.req)) _
      simp only [Act.put, List.setIfInBounds_toArray, List.set_cons_zero, List.set_cons_succ]
      refine wpAnyH_take (i := 5) (v := .int .i64 req) rfl (by kernel_rfl) (by kernel_rfl) (by kernel_rfl) (fun _ _ _ h => h) (Or.inl ⟨by rfl, fun w' hS' => by go_simp⟩) hS0 ?_
      change wpAnyH _ _ _ _ _ _ _ (Act.put _ (some 183) (.int .i64 req)) _
      simp only [Act.put, List.setIfInBounds_toArray, List.set_cons_zero, List.set_cons_succ]
      refine wpAnyH_ready (rs := [6]) (by kernel_rfl) (by simp) (AllReadyH.cons rfl (fun K hK => ?_) (AllReadyH.nil))
      · skip
        go_simp
        refine (pick16_v req 4 rq HRQ.out _ HI3.out (by omega) (by omega)).mono ?_
        rintro e W ⟨rfl, rfl⟩
        refine hK.out _ _ hS0 (fun hS1 => ?_)
        clear hK K
        simp only [List.setIfInBounds_toArray, List.set_cons_zero, List.set_cons_succ]
        refine wpAnyH_take (i := 7) (v := .bool false) rfl (by kernel_rfl) (by kernel_rfl) (by kernel_rfl) (fun _ _ _ h => h) (Or.inl ⟨by rfl, fun w' hS' => by have hqn := HQN.out; go_simp⟩) hS1 ?_
        change wpAnyH _ _ _ _ _ _ _ (Act.put _ (some 185) (.bool false)) _
        simp only [Act.put, List.setIfInBounds_toArray, List.set_cons_zero, List.set_cons_succ]
        refine wpAnyH_take (i := 8) (v := .bool false) rfl (by kernel_rfl) (by kernel_rfl) (by kernel_rfl) (fun _ _ _ h => h) (Or.inl ⟨by rfl, fun w' hS' => by go_simp⟩) hS1 ?_
        change wpAnyH _ _ _ _ _ _ _ (Act.put _ (some 186) (.bool false)) _
        simp only [Act.put, List.setIfInBounds_toArray, List.set_cons_zero, List.set_cons_succ]
        refine wpAnyH_take (i := 9) (v := .bool false) rfl (by kernel_rfl) (by kernel_rfl) (by kernel_rfl) (fun _ _ _ h => h) (Or.inl ⟨by rfl, fun w' hS' => by go_simp⟩) hS1 ?_
        change wpAnyH _ _ _ _ _ _ _ (Act.put _ (some 187) (.bool false)) _
        simp only [Act.put, List.setIfInBounds_toArray, List.set_cons_zero, List.set_cons_succ]
        refine wpAnyH_take (i := 10) (v := .agg #[.int .i64 x.req, .int .i64 x.slot, .string x.left, .string x.right]) rfl (by kernel_rfl) (by kernel_rfl) (by kernel_rfl) (fun _ _ _ h => h) (Or.inl ⟨by rfl, fun w' hS' => by obtain ⟨c0, c1, c2, c3⟩ := blk4 (H1.out w' hS'); go_simp⟩) hS1 ?_
        change wpAnyH _ _ _ _ _ _ _ (Act.put _ (some 188) (.agg #[.int .i64 x.req, .int .i64 x.slot, .string x.left, .string x.right])) _
        simp only [Act.put, List.setIfInBounds_toArray, List.set_cons_zero, List.set_cons_succ]
        refine wpAnyH_take (i := 11) (v := .pointer (some ⟨gx, 2, none⟩)) rfl (by kernel_rfl) (by kernel_rfl) (by kernel_rfl) (fun _ _ _ h => h) (Or.inl ⟨by rfl, fun w' hS' => by go_simp⟩) hS1 ?_
        change wpAnyH _ _ _ _ _ _ _ (Act.put _ (some 189) (.pointer (some ⟨gx, 2, none⟩))) _
        simp only [Act.put, List.setIfInBounds_toArray, List.set_cons_zero, List.set_cons_succ]
        refine wpAnyH_take (i := 12) (v := .slice (some a) n6 c6) rfl (by kernel_rfl) (by kernel_rfl) (by kernel_rfl) (fun _ _ _ h => h) (Or.inl ⟨by rfl, fun w' hS' => by obtain ⟨c0, c1, c2⟩ := blk3 (H2.out w' hS'); go_simp⟩) hS1 ?_
        change wpAnyH _ _ _ _ _ _ _ (Act.put _ (some 190) (.slice (some a) n6 c6)) _
        simp only [Act.put, List.setIfInBounds_toArray, List.set_cons_zero, List.set_cons_succ]
        refine wpAnyH_take (i := 13) (v := .pointer (some a)) rfl (by kernel_rfl) (by kernel_rfl) (by kernel_rfl) (fun _ _ _ h => h) (Or.inl ⟨by rfl, fun w' hS' => by go_simp; intro h; exact absurd h (by omega)⟩) hS1 ?_
        change wpAnyH _ _ _ _ _ _ _ (Act.put _ (some 191) (.pointer (some a))) _
        simp only [Act.put, List.setIfInBounds_toArray, List.set_cons_zero, List.set_cons_succ]
        refine wpAnyH_take (i := 14) (v := .agg #[.int .i64 x.req, .int .i64 x.slot, .string x.left, .string x.right]) rfl (by kernel_rfl) (by kernel_rfl) (by kernel_rfl) (fun _ _ _ h => h) (Or.inl ⟨by rfl, fun w' hS' => by obtain ⟨c0, c1, c2, c3⟩ := HAX.out w' hS'; go_simp⟩) hS1 ?_
        change wpAnyH _ _ _ _ _ _ _ (Act.put _ (some 192) (.agg #[.int .i64 x.req, .int .i64 x.slot, .string x.left, .string x.right])) _
        simp only [Act.put, List.setIfInBounds_toArray, List.set_cons_zero, List.set_cons_succ]
        refine wpAnyH_take (i := 15) (v := .bool false) rfl (by kernel_rfl) (by kernel_rfl) (by kernel_rfl) (fun _ _ _ h => h) (Or.inl ⟨by rfl, fun w' hS' => by go_simp⟩) hS1 ?_
        change wpAnyH _ _ _ _ _ _ _ (Act.put _ (some 193) (.bool false)) _
        simp only [Act.put, List.setIfInBounds_toArray, List.set_cons_zero, List.set_cons_succ]
        refine wpAnyH_take (i := 16) (v := .bool false) rfl (by kernel_rfl) (by kernel_rfl) (by kernel_rfl) (fun _ _ _ h => h) (Or.inl ⟨by rfl, fun w' hS' => by go_simp⟩) hS1 ?_
        change wpAnyH _ _ _ _ _ _ _ (Act.put _ (some 194) (.bool false)) _
        simp only [Act.put, List.setIfInBounds_toArray, List.set_cons_zero, List.set_cons_succ]
        refine wpAnyH_take (i := 17) (v := .bool false) rfl (by kernel_rfl) (by kernel_rfl) (by kernel_rfl) (fun _ _ _ h => h) (Or.inl ⟨by rfl, fun w' hS' => by go_simp⟩) hS1 ?_
        change wpAnyH _ _ _ _ _ _ _ (Act.put _ (some 195) (.bool false)) _
        simp only [Act.put, List.setIfInBounds_toArray, List.set_cons_zero, List.set_cons_succ]
        refine wpAnyH_take (i := 18) (v := (.pointer (some ⟨gn', 2, none⟩))) rfl (by kernel_rfl) (by kernel_rfl) (by kernel_rfl) (fun _ _ _ h => h) (Or.inl ⟨by rfl, fun w' hS' => by go_simp⟩) hS1 ?_
        change wpAnyH _ _ _ _ _ _ _ (Act.put _ (some 196) ((.pointer (some ⟨gn', 2, none⟩)))) _
        simp only [Act.put, List.setIfInBounds_toArray, List.set_cons_zero, List.set_cons_succ]
        refine wpAnyH_take (i := 19) (v := .slice A7 n7 c7) rfl (by kernel_rfl) (by kernel_rfl) (by kernel_rfl) (fun _ _ _ h => h) (Or.inl ⟨by rfl, fun w' hS' => by obtain ⟨c0, c1, c2⟩ := blk3 (H3.out w' hS'); go_simp⟩) hS1 ?_
        change wpAnyH _ _ _ _ _ _ _ (Act.put _ (some 197) (.slice A7 n7 c7)) _
        simp only [Act.put, List.setIfInBounds_toArray, List.set_cons_zero, List.set_cons_succ]
        refine wpAnyH_take (i := 20) (v := .int .i64 (n7 : Int)) rfl (by kernel_rfl) (by kernel_rfl) (by kernel_rfl) (fun _ _ _ h => h) (Or.inl ⟨by rfl, fun w' hS' => by go_simp⟩) hS1 ?_
        change wpAnyH _ _ _ _ _ _ _ (Act.put _ (some 198) (.int .i64 (n7 : Int))) _
        simp only [Act.put, List.setIfInBounds_toArray, List.set_cons_zero, List.set_cons_succ]
        refine wpAnyH_take (i := 21) (v := .pointer (some ⟨gx, 2, none⟩)) rfl (by kernel_rfl) (by kernel_rfl) (by kernel_rfl) (fun _ _ _ h => h) (Or.inl ⟨by rfl, fun w' hS' => by go_simp⟩) hS1 ?_
        change wpAnyH _ _ _ _ _ _ _ (Act.put _ (some 199) (.pointer (some ⟨gx, 2, none⟩))) _
        simp only [Act.put, List.setIfInBounds_toArray, List.set_cons_zero, List.set_cons_succ]
        refine wpAnyH_take (i := 22) (v := .slice (some a) n6 c6) rfl (by kernel_rfl) (by kernel_rfl) (by kernel_rfl) (fun _ _ _ h => h) (Or.inl ⟨by rfl, fun w' hS' => by obtain ⟨c0, c1, c2⟩ := blk3 (H2.out w' hS'); go_simp⟩) hS1 ?_
        change wpAnyH _ _ _ _ _ _ _ (Act.put _ (some 200) (.slice (some a) n6 c6)) _
        simp only [Act.put, List.setIfInBounds_toArray, List.set_cons_zero, List.set_cons_succ]
        refine wpAnyH_take (i := 23) (v := .int .i64 (n6 : Int)) rfl (by kernel_rfl) (by kernel_rfl) (by kernel_rfl) (fun _ _ _ h => h) (Or.inl ⟨by rfl, fun w' hS' => by go_simp⟩) hS1 ?_
        change wpAnyH _ _ _ _ _ _ _ (Act.put _ (some 201) (.int .i64 (n6 : Int))) _
        simp only [Act.put, List.setIfInBounds_toArray, List.set_cons_zero, List.set_cons_succ]
        refine wpAnyH_take (i := 24) (v := .int .i64 ((n7 : Nat) : Int)) rfl (by kernel_rfl) (by kernel_rfl) (by kernel_rfl) (fun _ _ _ h => h) (Or.inl ⟨by rfl, fun w' hS' => by have hwr := HWR.out; go_simp; try exact hwr⟩) hS1 ?_
        change wpAnyH _ _ _ _ _ _ _ (Act.put _ (some 202) (.int .i64 ((n7 : Nat) : Int))) _
        simp only [Act.put, List.setIfInBounds_toArray, List.set_cons_zero, List.set_cons_succ]
        refine wpAnyH_take (i := 25) (v := .bool false) rfl (by kernel_rfl) (by kernel_rfl) (by kernel_rfl) (fun _ _ _ h => h) (Or.inl ⟨by rfl, fun w' hS' => by go_simp⟩) hS1 ?_
        change wpAnyH _ _ _ _ _ _ _ (Act.put _ (some 203) (.bool false)) _
        simp only [Act.put, List.setIfInBounds_toArray, List.set_cons_zero, List.set_cons_succ]
        refine wpAnyH_take (i := 26) (v := .bool false) rfl (by kernel_rfl) (by kernel_rfl) (by kernel_rfl) (fun _ _ _ h => h) (Or.inl ⟨by rfl, fun w' hS' => by go_simp⟩) hS1 ?_
        change wpAnyH _ _ _ _ _ _ _ (Act.put _ (some 204) (.bool false)) _
        simp only [Act.put, List.setIfInBounds_toArray, List.set_cons_zero, List.set_cons_succ]
        refine wpAnyH_done (by kernel_rfl) ?_ _
        refine NoPanic.normal ?_
        obtain ⟨v4, hv4⟩ : ∃ W, W = v3.drew := ⟨_, rfl⟩
        have hb4 : Below v3.heap.size v3 v4 := by rw [hv4]; exact (Below.refl _ _).drew
        rw [← hv4]
        clear hv4
        have HX := Lib.hid (H2.out _ hb4)
        have HNX := Lib.hid (H3.out _ hb4)
        have HA7 := Lib.hid (HA7.out.up hb4)
        have HXV := Lib.hid (below_step HXV.out hb4)
        clear hb4
        obtain ⟨y0, y1, y2⟩ := blk3 HX.out
        obtain ⟨z0, z1, z2⟩ := blk3 HNX.out
        have q0 := Blk.frozen HX.out 0
        have q1 := Blk.frozen HX.out 1
        have q2 := Blk.frozen HX.out 2
        go_wp2_with fail
        go_roundw
        case rel => exact ⟨l + 1, n7, c7, A7, by omega, by go_num, Lib.hid (HX.out.set3 _ _ _), Lib.hid (HA7.out.far (grown3 _ _ _ _ _) HLT.out).at_, HN7, HC7, Lib.hid (grown_below HXV.out (grown3 _ _ _ _ _) HXV.out.size HG5.out)⟩
        case measure => simp [intOf]; omega
    · obtain rfl : l = n5 := by omega
      obtain rfl : n6 = 0 := by omega
      have t1 : decide ((l : Int) < 30) = true := decide_eq_true (by omega)
      have t2 : decide ((0 : Int) < ((0 : Nat) : Int)) = false := decide_eq_false (by omega)
      have t3 : decide ((0 : Int) < 0) = false := decide_eq_false (by omega)
      have HD0 : Hid (D.drop l = []) := Lib.hid (List.eq_nil_of_length_eq_zero HXN.out)
      have HTN : Hid (takeQ ⟨(R : Int), true, []⟩ = (zeroT, ⟨0, false, []⟩, 10)) := Lib.hid (take_none (right_of (by show (0 : Int) ≤ (R : Int); omega) (by show (R : Int) ≤ 4096; omega) (by show ((0 : Nat) : Int) ≤ (R : Int); omega)))
      go_wp2_with fail
      refine (itake_any (R : Int) true [] A6 0 c6 _ zeroT 0 false [] 10 HTN.out RowAt.nil rfl (Nat.zero_le _) FitT.nil).mono ?_
      rintro e v2 ⟨A7, n7, c7, rfl, -, -, -, hb⟩
      have HX := Lib.hid (HX.out.below hb HX.out.lt)
      have HXV := Lib.hid (below_step HXV.out hb)
      clear hb y0 y1 y2 t1 t2 t3
      go_upto_region 23 with (fail)
      obtain ⟨gz, gn', v3, hg1, hg2, hv, -, -, hbe, -⟩ := box_two v2 39 #[.int .i64 zeroT.req, .int .i64 zeroT.slot, .string zeroT.left, .string zeroT.right] 24 #[.int .i64 0, .bool false, .slice A7 n7 c7]
      rw [← hv, ← hg2, ← hg1]
      have HX := Lib.hid (HX.out.below hbe HX.out.lt)
      have HXV := Lib.hid (below_step HXV.out hbe)
      clear hg1 hg2 hv hbe
      obtain ⟨y0, y1, y2⟩ := blk3 HX.out
      go_wp2_with fail
      go_ret
      exact ⟨rfl, below_step HWV.out HXV.out⟩

end Go.Proofs.Ytaelenjnjoeheaa
