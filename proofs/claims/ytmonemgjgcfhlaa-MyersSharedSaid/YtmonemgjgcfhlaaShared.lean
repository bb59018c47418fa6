/-
  collatorlaw05.MyersShared: whatever the raw numbers, it returns true; nothing that was there is changed.
-/
import Derived.Test.YtmonemgjgcfhlaaSteps
namespace Go.Proofs.Ytmonemgjgcfhlaa
open Go.RowKit

theorem grp_len : ∀ (ss : List (Pm.Stp ByteArray)) (es : List Edt), (grp es ss).length ≤ es.length + ss.length
  | [], es => by simp [grp]
  | s :: ss, es => by
    rw [grp_cons]
    have h := grp_len ss (stepE es s.1 s.2)
    have h1 : (stepE es s.1 s.2).length ≤ es.length + 1 := by
      rcases List.eq_nil_or_concat es with rfl | ⟨es0, e, rfl⟩
      · simp [stepE]
      · rw [List.concat_eq_append]
        by_cases h : e.op = s.1
        · rw [← h, stepE_same]; simp
        · rw [stepE_new _ _ _ (by simp [h])]; simp
    simp only [List.length_cons]
    omega
theorem way_ops_ahead (p a b q : List ByteArray) : opsL (grp [] (Pm.way (p ++ a ++ q) (p ++ b ++ q))) = List.replicate p.length 1 ++ (Pm.way (a ++ q) (b ++ q)).map (·.1) := by
  rw [opsL_way, List.append_assoc, List.append_assoc, Pm.way_ahead, List.map_append, List.map_replicate]
theorem ed_both (p a b q : List ByteArray) : Pm.ed (p ++ a ++ q) (p ++ b ++ q) = Pm.ed a b := by
  rw [List.append_assoc, List.append_assoc, Pm.ed_ahead, Pm.ed_behind]

set_option maxHeartbeats 4000000 in
set_option maxRecDepth 100000 in
theorem shared_walk (A B C D : Option Addr) (xs ys zs ts : List Int) (pa pb pc pd : Nat) (w : World) (ha : Ints w w.heap.size A xs) (hb : Ints w w.heap.size B ys) (hc : Ints w w.heap.size C zs) (hd : Ints w w.heap.size D ts)
    (h1 : xs.length ≤ 140737488355328) (h2 : ys.length ≤ 140737488355328) (h3 : zs.length ≤ 140737488355328) (h4 : ts.length ≤ 140737488355328)
    (hx : ∀ z ∈ xs, -9223372036854775808 ≤ z ∧ z ≤ 9223372036854775807) (hy : ∀ z ∈ ys, -9223372036854775808 ≤ z ∧ z ≤ 9223372036854775807) (hz : ∀ z ∈ zs, -9223372036854775808 ≤ z ∧ z ≤ 9223372036854775807) (ht : ∀ z ∈ ts, -9223372036854775808 ≤ z ∧ z ≤ 9223372036854775807) :
    Calls Try.prog 5 #[.slice A xs.length pa, .slice B ys.length pb, .slice C zs.length pc, .slice D ts.length pd] w fun e w' => e = .returned (.bool true) ∧ Below w.heap.size w w' := by
  have HX := Lib.hid hx
  have HY := Lib.hid hy
  have HZ := Lib.hid hz
  have HT := Lib.hid ht
  clear hx hy hz ht
  go_enter Try.func5, Try.ntmps5
  go_wp2_with fail
  refine (awake_any _).mono ?_
  rintro e w1 ⟨rfl, hb1⟩
  go_wp2_with fail
  refine (lines_at 20 20 rfl (by omega) (by omega) _ xs _ _ (up_of' ha hb1) h1 HX.out).mono ?_
  rintro e wa ⟨Aa, ca, rfl, hoa, hca, hbn⟩
  replace hb1 := hb1.trans (hbn.mono hb1.size)
  clear hbn
  go_wp2_with fail
  refine (lines_at 20 20 rfl (by omega) (by omega) _ ys _ _ (up_of' hb hb1) h2 HY.out).mono ?_
  rintro e wb ⟨Ab, cb, rfl, hob, hcb, hbn⟩
  replace hb1 := hb1.trans (hbn.mono hb1.size)
  replace hoa := hoa.up2 hbn
  clear hbn
  go_wp2_with fail
  refine (lines_at 9 9 rfl (by omega) (by omega) _ zs _ _ (up_of' hc hb1) h3 HZ.out).mono ?_
  rintro e wp ⟨Ap, cp, rfl, hop, hcp, hbn⟩
  replace hb1 := hb1.trans (hbn.mono hb1.size)
  replace hoa := hoa.up2 hbn
  replace hob := hob.up2 hbn
  clear hbn
  go_wp2_with fail
  refine (lines_at 9 9 rfl (by omega) (by omega) _ ts _ _ (up_of' hd hb1) h4 HT.out).mono ?_
  rintro e wq ⟨Aq, cq, rfl, hoq, hcq, hbn⟩
  replace hb1 := hb1.trans (hbn.mono hb1.size)
  replace hoa := hoa.up2 hbn
  replace hob := hob.up2 hbn
  replace hop := hop.up2 hbn
  clear hbn
  have hla := lines_len 20 xs
  have HFa := Lib.hid (lines_fit (m := 20) xs)
  have HGa := Lib.hid (lines_fit' (m := 20) xs)
  have hlb := lines_len 20 ys
  have HFb := Lib.hid (lines_fit (m := 20) ys)
  have HGb := Lib.hid (lines_fit' (m := 20) ys)
  have hlp := lines_len 9 zs
  have HFp := Lib.hid (lines_fit (m := 9) zs)
  have HGp := Lib.hid (lines_fit' (m := 9) zs)
  have hlq := lines_len 9 ts
  have HFq := Lib.hid (lines_fit (m := 9) ts)
  have HGq := Lib.hid (lines_fit' (m := 9) ts)
  generalize linesL 20 xs = a at *
  generalize linesL 20 ys = b at *
  generalize linesL 9 zs = p at *
  generalize linesL 9 ts = q at *
  clear ha hb hc hd HX HY HZ HT
  obtain ⟨X, hX⟩ : ∃ X, X = p ++ a ++ q := ⟨_, rfl⟩
  obtain ⟨X1, hX1⟩ : ∃ X1, X1 = p ++ a := ⟨_, rfl⟩
  have hXl : X.length = p.length + a.length + q.length := by rw [hX, List.length_append, List.length_append]
  have hX1l : X1.length ≤ 40 := by rw [hX1, List.length_append]; omega
  obtain ⟨AX1, cX1, wX1, hr1, hq1⟩ := append_own (Own.nil wq) p.length cp hop rfl p rfl (by omega)
  obtain ⟨AX2, cX2, wX2, hr2, hq2⟩ := append_own hq1 a.length ca (hoa.below hq1.2) rfl X1 hX1 (by omega)
  obtain ⟨AX3, cX3, wX3, hr3, hq3⟩ := append_own hq2 q.length cq (hoq.below hq2.2) rfl X (by rw [hX, hX1]) (by omega)
  have HRX1 := Lib.hid hr1
  have HRX2 := Lib.hid hr2
  have HRX3 := Lib.hid hr3
  have HX := Lib.hid hX
  have HXL := Lib.hid hXl
  have hXb : X.length ≤ 38 := by omega
  have hbn := hq3.2
  replace hoa := hoa.up2 hbn
  replace hob := hob.up2 hbn
  replace hop := hop.up2 hbn
  replace hoq := hoq.up2 hbn
  replace hb1 := hb1.trans (hbn.mono hb1.size)
  have hoX := hq3.strs
  have hFX : ∀ s ∈ X, s.size ≤ maxLen := fun s hs => by
    rw [hX] at hs
    rcases List.mem_append.1 hs with h | h
    · rcases List.mem_append.1 h with h | h
      · exact HFp.out s h
      · exact HFa.out s h
    · exact HFq.out s h
  have hGX : ∀ s ∈ X, s.size ≤ 140737488355328 := fun s hs => by
    rw [hX] at hs
    rcases List.mem_append.1 hs with h | h
    · rcases List.mem_append.1 h with h | h
      · exact HGp.out s h
      · exact HGa.out s h
    · exact HGq.out s h
  have HFX := Lib.hid hFX
  have HGX := Lib.hid hGX
  clear hr1 hr2 hr3 hq1 hq2 hq3 hbn hX hX1 hX1l hXl hFX hGX
  obtain ⟨Y, hY⟩ : ∃ Y, Y = p ++ b ++ q := ⟨_, rfl⟩
  obtain ⟨Y1, hY1⟩ : ∃ Y1, Y1 = p ++ b := ⟨_, rfl⟩
  have hYl : Y.length = p.length + b.length + q.length := by rw [hY, List.length_append, List.length_append]
  have hY1l : Y1.length ≤ 40 := by rw [hY1, List.length_append]; omega
  obtain ⟨AY1, cY1, wY1, hr1, hq1⟩ := append_own (Own.nil wX3) p.length cp hop rfl p rfl (by omega)
  obtain ⟨AY2, cY2, wY2, hr2, hq2⟩ := append_own hq1 b.length cb (hob.below hq1.2) rfl Y1 hY1 (by omega)
  obtain ⟨AY3, cY3, wY3, hr3, hq3⟩ := append_own hq2 q.length cq (hoq.below hq2.2) rfl Y (by rw [hY, hY1]) (by omega)
  have HRY1 := Lib.hid hr1
  have HRY2 := Lib.hid hr2
  have HRY3 := Lib.hid hr3
  have HY := Lib.hid hY
  have HYL := Lib.hid hYl
  have hYb : Y.length ≤ 38 := by omega
  have hbn := hq3.2
  replace hoa := hoa.up2 hbn
  replace hob := hob.up2 hbn
  replace hop := hop.up2 hbn
  replace hoq := hoq.up2 hbn
  replace hoX := hoX.up2 hbn
  replace hb1 := hb1.trans (hbn.mono hb1.size)
  have hoY := hq3.strs
  have hFY : ∀ s ∈ Y, s.size ≤ maxLen := fun s hs => by
    rw [hY] at hs
    rcases List.mem_append.1 hs with h | h
    · rcases List.mem_append.1 h with h | h
      · exact HFp.out s h
      · exact HFb.out s h
    · exact HFq.out s h
  have hGY : ∀ s ∈ Y, s.size ≤ 140737488355328 := fun s hs => by
    rw [hY] at hs
    rcases List.mem_append.1 hs with h | h
    · rcases List.mem_append.1 h with h | h
      · exact HGp.out s h
      · exact HGb.out s h
    · exact HGq.out s h
  have HFY := Lib.hid hFY
  have HGY := Lib.hid hGY
  clear hr1 hr2 hr3 hq1 hq2 hq3 hbn hY hY1 hY1l hYl hFY hGY
  obtain ⟨n, hn⟩ : ∃ n, n = Pm.ed a b := ⟨_, rfl⟩
  have hnt : n ≤ a.length + b.length := by rw [hn]; exact Pm.ed_top a b
  have HN := Lib.hid hn
  have HNX : Hid (Pm.ed X Y = n) := Lib.hid (by rw [HX.out, HY.out, hn]; exact ed_both p a b q)
  obtain ⟨m, hm⟩ : ∃ m : Int, m = ((a.length : Int) + b.length - (n : Nat)) / 2 := ⟨_, rfl⟩
  have hm0 : 0 ≤ m := by omega
  have hm1 : m ≤ 40 := by omega
  have HM := Lib.hid hm
  have HMX : Hid (((X.length : Int) + Y.length - (n : Nat)) / 2 = m + (p.length : Int) + (q.length : Int)) := Lib.hid (by rw [HXL.out, HYL.out, hm]; omega)
  clear hn hm
  obtain ⟨es, hes⟩ : ∃ es, es = grp [] (Pm.way a b) := ⟨_, rfl⟩
  obtain ⟨fs, hfs⟩ : ∃ fs, fs = grp [] (Pm.way X Y) := ⟨_, rfl⟩
  have hesl : es.length ≤ 200 := by
    rw [hes]
    have h1 := grp_len (Pm.way a b) []
    have h2 := Pm.way_len _ a b (Nat.le_refl _)
    simp only [List.length_nil] at h1
    omega
  have hfsl : fs.length ≤ 200 := by
    rw [hfs]
    have h1 := grp_len (Pm.way X Y) []
    have h2 := Pm.way_len _ X Y (Nat.le_refl _)
    simp only [List.length_nil] at h1
    omega
  obtain ⟨S, hS⟩ : ∃ S, S = opsL es := ⟨_, rfl⟩
  obtain ⟨T, hT⟩ : ∃ T, T = opsL fs := ⟨_, rfl⟩
  have hSl : S.length ≤ 40 := by rw [hS, hes]; have := opsL_len a b; omega
  have hTl : T.length ≤ 76 := by rw [hT, hfs]; have := opsL_len X Y; omega
  have hTe : T = List.replicate p.length 1 ++ (Pm.way (a ++ q) (b ++ q)).map (·.1) := by rw [hT, hfs, HX.out, HY.out]; exact way_ops_ahead p a b q
  have hpT : p.length ≤ T.length := by rw [hTe, List.length_append, List.length_replicate]; omega
  have hp1 : ∀ (k : Nat) (h : k < T.length), k < p.length → T[k] = 1 := fun k h hk => by
    subst hTe
    rw [List.getElem_append_left (by simpa using hk), List.getElem_replicate]
  have hq0 : q = [] → T.length = S.length + p.length ∧ ∀ (i : Nat) (h : i < S.length) (h' : p.length + i < T.length), T[p.length + i] = S[i] := fun e => by
    have hTS : T = List.replicate p.length 1 ++ S := by rw [hTe, e, List.append_nil, List.append_nil, hS, hes, opsL_way]
    clear hTe hp1 hpT
    subst hTS
    refine ⟨by simp; omega, fun i h h' => ?_⟩
    rw [List.getElem_append_right (by simp)]
    simp
  have HP1 := Lib.hid hp1
  have HQ0 := Lib.hid hq0
  have HES := Lib.hid hes.symm
  have HFS := Lib.hid hfs.symm
  have HS := Lib.hid hS
  have HTT := Lib.hid hT
  have dT : decide (T.length < p.length) = false := by simp; omega
  clear hes hfs hS hT hTe hp1 hq0
  go_wp2_with (first
    | (at_builtin; refine wpList_append_run (o := ⟨some 30, _, _, _, _, _⟩) rfl rfl (by simp [Region.wanted]) rfl rfl HRX1.out ?_)
    | (at_builtin; refine wpList_append_run (o := ⟨some 32, _, _, _, _, _⟩) rfl rfl (by simp [Region.wanted]) rfl rfl HRX2.out ?_)
    | (at_builtin; refine wpList_append_run (o := ⟨some 34, _, _, _, _, _⟩) rfl rfl (by simp [Region.wanted]) rfl rfl HRX3.out ?_)
    | (at_builtin; refine wpList_append_run (o := ⟨some 36, _, _, _, _, _⟩) rfl rfl (by simp [Region.wanted]) rfl rfl HRY1.out ?_)
    | (at_builtin; refine wpList_append_run (o := ⟨some 38, _, _, _, _, _⟩) rfl rfl (by simp [Region.wanted]) rfl rfl HRY2.out ?_)
    | (at_builtin; refine wpList_append_run (o := ⟨some 40, _, _, _, _, _⟩) rfl rfl (by simp [Region.wanted]) rfl rfl HRY3.out ?_))
  refine (diff_at Aa Ab a b a.length b.length ca cb es.length es _ hoa hob rfl rfl (by omega) HFa.out HGb.out HES.out rfl).mono ?_
  rintro e v1 ⟨D1, k1, rfl, hE1, hbn⟩
  replace hoa := hoa.up2 hbn
  replace hob := hob.up2 hbn
  replace hop := hop.up2 hbn
  replace hoq := hoq.up2 hbn
  replace hoX := hoX.up2 hbn
  replace hoY := hoY.up2 hbn
  replace hb1 := hb1.trans (hbn.mono hb1.size)
  clear hbn
  go_wp2_with fail
  refine (steps_any D1 es es.length k1 _ hE1 rfl (by omega) (by rw [← HS.out]; omega)).mono ?_
  rw [← HS.out]
  rintro e v2 ⟨S1, j1, rfl, hoS, hbn⟩
  replace hoa := hoa.up2 hbn
  replace hob := hob.up2 hbn
  replace hop := hop.up2 hbn
  replace hoq := hoq.up2 hbn
  replace hoX := hoX.up2 hbn
  replace hoY := hoY.up2 hbn
  replace hb1 := hb1.trans (hbn.mono hb1.size)
  clear hbn hE1
  go_wp2_with fail
  refine (diff_at AX3 AY3 X Y X.length Y.length cX3 cY3 fs.length fs _ hoX hoY rfl rfl (by omega) HFX.out HGY.out HFS.out rfl).mono ?_
  rintro e v3 ⟨D2, k2, rfl, hE2, hbn⟩
  replace hoa := hoa.up2 hbn
  replace hob := hob.up2 hbn
  replace hop := hop.up2 hbn
  replace hoq := hoq.up2 hbn
  replace hoX := hoX.up2 hbn
  replace hoY := hoY.up2 hbn
  replace hoS := up_of' hoS hbn
  replace hb1 := hb1.trans (hbn.mono hb1.size)
  clear hbn
  go_wp2_with fail
  refine (steps_any D2 fs fs.length k2 _ hE2 rfl (by omega) (by rw [← HTT.out]; omega)).mono ?_
  rw [← HTT.out]
  rintro e v4 ⟨T1, j2, rfl, hoT, hbn⟩
  replace hoa := hoa.up2 hbn
  replace hob := hob.up2 hbn
  replace hop := hop.up2 hbn
  replace hoq := hoq.up2 hbn
  replace hoX := hoX.up2 hbn
  replace hoY := hoY.up2 hbn
  replace hoS := up_of' hoS hbn
  replace hb1 := hb1.trans (hbn.mono hb1.size)
  clear hbn hE2
  go_wp2_with fail
  refine (cost_at' AX3 AY3 X Y X.length Y.length cX3 cY3 (n : Int) _ hoX hoY rfl rfl (by omega) HFX.out HFY.out (by rw [HNX.out])).mono ?_
  rintro e v5 ⟨rfl, hbn⟩
  replace hoa := hoa.up2 hbn
  replace hob := hob.up2 hbn
  replace hop := hop.up2 hbn
  replace hoq := hoq.up2 hbn
  replace hoX := hoX.up2 hbn
  replace hoY := hoY.up2 hbn
  replace hoS := up_of' hoS hbn
  replace hoT := up_of' hoT hbn
  replace hb1 := hb1.trans (hbn.mono hb1.size)
  clear hbn
  go_wp2_with fail
  refine (cost_at' Aa Ab a b a.length b.length ca cb (n : Int) _ hoa hob rfl rfl (by omega) HFa.out HFb.out (by rw [HN.out])).mono ?_
  rintro e v6 ⟨rfl, hbn⟩
  replace hoa := hoa.up2 hbn
  replace hob := hob.up2 hbn
  replace hop := hop.up2 hbn
  replace hoq := hoq.up2 hbn
  replace hoX := hoX.up2 hbn
  replace hoY := hoY.up2 hbn
  replace hoS := up_of' hoS hbn
  replace hoT := up_of' hoT hbn
  replace hb1 := hb1.trans (hbn.mono hb1.size)
  clear hbn
  go_wp2_with fail
  refine (common_at' AX3 AY3 X Y X.length Y.length cX3 cY3 (m + (p.length : Int) + (q.length : Int)) _ hoX hoY rfl rfl (by omega) HFX.out HFY.out (by rw [HNX.out, HMX.out])).mono ?_
  rintro e v7 ⟨rfl, hbn⟩
  replace hoa := hoa.up2 hbn
  replace hob := hob.up2 hbn
  replace hop := hop.up2 hbn
  replace hoq := hoq.up2 hbn
  replace hoX := hoX.up2 hbn
  replace hoY := hoY.up2 hbn
  replace hoS := up_of' hoS hbn
  replace hoT := up_of' hoT hbn
  replace hb1 := hb1.trans (hbn.mono hb1.size)
  clear hbn
  go_wp2_with fail
  refine (common_at' Aa Ab a b a.length b.length ca cb m _ hoa hob rfl rfl (by omega) HFa.out HFb.out (by rw [← HN.out, HM.out])).mono ?_
  rintro e v8 ⟨rfl, hbn⟩
  replace hoa := hoa.up2 hbn
  replace hob := hob.up2 hbn
  replace hop := hop.up2 hbn
  replace hoq := hoq.up2 hbn
  replace hoX := hoX.up2 hbn
  replace hoY := hoY.up2 hbn
  replace hoS := up_of' hoS hbn
  replace hoT := up_of' hoT hbn
  replace hb1 := hb1.trans (hbn.mono hb1.size)
  clear hbn hoa hob hop hoq hoX hoY
  go_wp2_with fail
  go_loop [18] (fun i => ∃ k : Nat, k ≤ p.length ∧ i = .int .i64 k) (fun i => p.length - (intOf i).toNat)
  case atStart => exact ⟨0, Nat.zero_le _, rfl⟩
  case round =>
    obtain ⟨k, hk, rfl⟩ := hrel
    by_cases g1 : k < p.length
    · have g2 : k < T.length := by omega
      obtain ⟨ad, rfl, _, hca⟩ := hoT.at_ g2
      rw [HP1.out k g2 g1] at hca
      go_wp2_with fail
      go_round
      case rel => exact ⟨k + 1, by omega, by go_num⟩
      case measure => simp [intOf]; omega
    · by_cases g3 : q = []
      · obtain ⟨hTS, hat⟩ := HQ0.out g3
        have HAT := Lib.hid hat
        have dq : decide (0 < q.length) = false := by rw [g3]; rfl
        have iq : ¬ (0 : Int) < (q.length : Int) := by rw [g3]; simp
        have e1 : (((T.length : Int) != (S.length : Int) + (p.length : Int)) : Bool) = false := by rw [bne_eq_false_iff_eq]; omega
        have e2 : (((T.length : Int) == (S.length : Int) + (p.length : Int)) : Bool) = true := by rw [beq_iff_eq]; omega
        have hTS' : S.length + p.length ≤ T.length := by omega
        have hTS2 : T.length ≤ S.length + p.length := by omega
        clear hat g3 hTS
        go_wp2_with fail
        go_loopw [19] (fun i wr => ∃ l : Nat, l ≤ S.length ∧ i = .int .i64 l ∧ Drew v8 wr) (fun i _ => S.length - (intOf i).toNat)
        case atStart => exact ⟨0, Nat.zero_le _, rfl, Drew.refl _⟩
        case round =>
          obtain ⟨l, hl, rfl, nd, rfl⟩ := hrel
          by_cases g4 : l < S.length
          · obtain ⟨sa, rfl, _, hcs0⟩ := hoS.at_ g4
            have g5 : p.length + l < T.length := by omega
            obtain ⟨ta0, rfl, _, hct0⟩ := hoT.at_ g5
            rw [HAT.out l g4 g5] at hct0
            obtain ⟨z, hz⟩ : ∃ z, z = S[l] := ⟨_, rfl⟩
            rw [← hz] at hcs0 hct0
            clear hz
            have f1 : (0 : Int) ≤ (p.length : Int) + (l : Int) := by omega
            have f2 : (p.length : Int) + (l : Int) < (T.length : Int) := by omega
            have f3 : ((p.length : Int) + (l : Int)).toNat = p.length + l := by omega
            have f4 : IntKind.i64.wrap ((p.length : Int) + (l : Int)) = (p.length : Int) + (l : Int) := IntWalk.i64_in _ (by omega)
            go_wp2_with fail
            go_quiet (fail)
            go_wp2_with fail
            go_roundw
            case rel => exact ⟨l + 1, by omega, by go_num, nd + nq, by simp⟩
            case measure => simp [intOf]; omega
          · go_wp2_with fail
            go_ret
            exact ⟨rfl, hb1.trans ((below_drewN (Below.refl _ _) _).mono hb1.size)⟩
      · have dq : decide (0 < q.length) = true := decide_eq_true (List.length_pos_iff.2 g3)
        have iq : (0 : Int) < (q.length : Int) := by have := List.length_pos_iff.2 g3; omega
        clear g3
        go_wp2_with fail
        go_ret
        exact ⟨rfl, hb1⟩

end Go.Proofs.Ytmonemgjgcfhlaa
