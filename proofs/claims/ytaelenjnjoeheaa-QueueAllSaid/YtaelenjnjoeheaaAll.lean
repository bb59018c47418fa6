/-
  collatorlaw16.QueueAll returns true: what is put, and not dropped, is what is taken, in all, in order. Nothing that was there is changed.
-/
import Derived.Test.YtaelenjnjoeheaaLw
namespace Go.Proofs.Ytaelenjnjoeheaa
open Go.RowKit P16

theorem others_step {T : List Tk} {k j : Nat} {x : Tk} (h : T[j]? = some x) (hk : k ≤ j) (r : Int) : others ((T.take (j + 1)).drop k) r = if x.req = r then others ((T.take j).drop k) r else others ((T.take j).drop k) r ++ [x] := by
  have hj := (List.getElem?_eq_some_iff.1 h).1
  rw [take_snoc h, List.drop_append_of_le_length (by rw [List.length_take]; omega), others_snoc]
def lastT : Tk := ⟨9, 9, ⟨#[]⟩, ⟨#[]⟩⟩

set_option maxHeartbeats 16000000 in
set_option maxRecDepth 100000 in
theorem all_any (A : Option Addr) (L : List Tri) (n c : Nat) (req ahead : Int) (w : World) (ha : TrisAt w A L) (hn : L.length = n) (hf : FitN L) (hr : I64 req) (hh : I64 ahead) :
    Calls Try.prog 6 #[.slice A n c, .int .i64 req, .int .i64 ahead] w fun e w' => e = .returned (.bool true) ∧ Below w.heap.size w w' := by
  have HA := Lib.hid ha
  have HN := Lib.hid hn
  have HF := Lib.hid hf
  have HRE := Lib.hid hr
  have HAH := Lib.hid hh
  obtain ⟨T, hT⟩ : ∃ T, tksOf L = T := ⟨_, rfl⟩
  have HT := Lib.hid hT
  have HFT : Hid (FitT T) := Lib.hid (by rw [← hT]; exact tks_fit L)
  have hT20 : T.length ≤ 20 := by rw [← hT]; exact tks_20 L
  have HT20 := Lib.hid hT20
  obtain ⟨r, hr'⟩ : ∃ r, pickI req 4 = r := ⟨_, rfl⟩
  have HR := Lib.hid hr'
  obtain ⟨p1, p2⟩ := pickI_range ahead 5 (by omega)
  obtain ⟨kp, hkp⟩ := Int.eq_ofNat_of_zero_le p1
  have HKP := Lib.hid hkp
  clear ha hn hf hr hh hT hT20 hr' p1 p2 hkp
  go_enter Try.func6, Try.ntmps6
  go_wp2_with fail
  refine (awake_any _).mono ?_
  rintro e w1 ⟨rfl, hb⟩
  have HA := Lib.hid (HA.out.up hb)
  have HW := Lib.hid hb
  clear hb
  go_wp2_with fail
  refine (tasks_any A L n c _ HA.out HN.out HF.out).mono ?_
  rintro e w2 ⟨At, nt, ct, rfl, hnt, hct, hot⟩
  rw [HT.out] at hnt hot
  have HNT := Lib.hid hnt
  have HCT := Lib.hid hct
  have HTA : Hid (TasksAt w2 At T) := Lib.hid (OwnR.at_ tk_len hot hnt)
  have HW := Lib.hid (below_step HW.out hot.2)
  have hn20 : nt ≤ 20 := by rw [← hnt]; exact HT20.out
  clear hnt hct hot
  go_wp2_with fail
  refine (pick16_v req 4 r HR.out _ HRE.out (by omega) (by omega)).mono ?_
  rintro e w' ⟨rfl, rfl⟩
  go_wp2_with fail
  refine (inew_any ((nt : Int) + 1) _ ⟨(nt : Int) + 1, false, []⟩ 0 (new_ok (by omega) (by omega))).mono ?_
  rintro e w3 ⟨rfl, -, hb⟩
  have HTA := Lib.hid (HTA.out.up hb)
  have HW := Lib.hid (below_step HW.out hb)
  clear hb
  go_upto_region 5 with (fail)
  obtain ⟨gq, w4, hg, hw, hk, hbe⟩ := box_new w3 24 #[.int .i64 ((nt : Int) + 1), .bool false, .slice none 0 0]
  rw [← hw, ← hg]
  have HGQ : Hid (w3.heap.size ≤ gq) := Lib.hid (by omega)
  have HBQ := Lib.hid hk
  have HW3 := Lib.hid hbe
  clear hg hw hk hbe
  obtain ⟨y0, y1, y2⟩ := blk3 HBQ.out
  have HPU : Hid (putQ ⟨(nt : Int) + 1, false, []⟩ T = (nt, ⟨(nt : Int) + 1, false, T⟩, 0)) := Lib.hid (by
    have hc : comes ⟨(nt : Int) + 1, false, []⟩ T.length = nt := by unfold comes; rw [HNT.out]; simp only [List.length_nil]; omega
    rw [put_ok (right_of (by show (0 : Int) ≤ (nt : Int) + 1; omega) (by show (nt : Int) + 1 ≤ 4096; omega) (by show ((0 : Nat) : Int) ≤ (nt : Int) + 1; omega)) rfl, hc, List.nil_append, List.take_of_length_le (by rw [HNT.out]; omega)])
  have HLT : Hid (gq < w4.heap.size) := Lib.hid HBQ.out.lt
  go_wp2_with fail
  refine (iput_any ((nt : Int) + 1) false [] T none At 0 0 nt ct _ nt ((nt : Int) + 1) false T 0 HPU.out RowAt.nil rfl (Nat.le_refl _) FitT.nil (HTA.out.up HW3.out) HNT.out HCT.out HFT.out).mono ?_
  rintro e w5 ⟨A5, n5, c5, rfl, hn5, hc5, ha5, hb5⟩
  obtain rfl : n5 = nt := by rw [← hn5, HNT.out]
  have HBQ := Lib.hid (HBQ.out.below hb5 HBQ.out.lt)
  have HW3 := Lib.hid (below_step HW3.out hb5)
  clear y0 y1 y2 hn5
  obtain ⟨y0, y1, y2⟩ := blk3 HBQ.out
  have q0 := Blk.frozen HBQ.out 0
  have q1 := Blk.frozen HBQ.out 1
  have q2 := Blk.frozen HBQ.out 2
  go_upto_region 6 with (fail)
  obtain ⟨w6, hw6, hk6, hg6⟩ := box_set HBQ.out (.int .i64 ((n5 : Int) + 1)) (.bool false) (.slice A5 n5 c5)
  rw [← hw6]
  have HBQ := Lib.hid hk6
  have HQA : Hid (TasksAt w6 A5 (T.drop 0)) := Lib.hid (ha5.far hg6 HLT.out).at_
  have HC5 := Lib.hid hc5
  have HW3 := Lib.hid (grown_below HW3.out hg6 HW3.out.size HGQ.out)
  clear y0 y1 y2 q0 q1 q2 hw6 hk6 hg6 ha5 hb5 hc5
  go_wp2_with fail
  refine (pick16_v ahead 5 kp HKP.out _ HAH.out (by omega) (by omega)).mono ?_
  rintro e w' ⟨rfl, rfl⟩
  obtain ⟨k, hk⟩ : ∃ k, min kp n5 = k := ⟨_, rfl⟩
  have HMIN : Hid (min (kp : Int) (n5 : Int) = (k : Int)) := Lib.hid (by omega)
  have hkn : k ≤ n5 := by omega
  clear hk
  go_upto_region 10 with (fail)
  rw [HMIN.out]
  have HG0 : Hid (OwnT w3 w6 (.slice none 0 0) (T.take 0)) := Lib.hid (OwnR.nil' HW3.out)
  go_wp2_with fail
  go_loopw [14, 16] (fun v i wr => ∃ (j n6 c6 cg : Nat) (A6 Ag : Option Addr), j ≤ k ∧ i = .int .i64 j ∧ v = .slice Ag j cg ∧ Hid (OwnT w3 wr (.slice Ag j cg) (T.take j)) ∧ Hid (Blk wr gq 24 #[.int .i64 ((n5 : Int) + 1), .bool false, .slice A6 n6 c6]) ∧ Hid (TasksAt wr A6 (T.drop j)) ∧ Hid ((T.drop j).length = n6) ∧ Hid (n6 ≤ c6)) (fun _ i _ => k - (intOf i).toNat)
  case atStart => exact ⟨0, n5, c5, 0, A5, none, Nat.zero_le _, rfl, rfl, HG0, HBQ, HQA, Lib.hid (by rw [List.drop_zero]; exact HNT.out), HC5⟩
  case round =>
    obtain ⟨j, n6, c6, cg, A6, Ag, hjk, rfl, rfl, HG, HQ, HQA, HQN, HQC⟩ := hrel
    obtain ⟨v1, rfl⟩ : ∃ w3, w3 = wr := ⟨_, rfl⟩
    obtain ⟨y0, y1, y2⟩ := blk3 HQ.out
    by_cases g1 : j < k
    · have t1 : decide ((j : Int) < (k : Int)) = true := decide_eq_true (by omega)
      obtain ⟨x, hx⟩ : ∃ x, T[j]? = some x := ⟨_, List.getElem?_eq_getElem (by rw [HNT.out]; omega)⟩
      have HX := Lib.hid hx
      have HTK : Hid (takeQ ⟨(n5 : Int) + 1, false, T.drop j⟩ = (x, ⟨(n5 : Int) + 1, false, T.drop (j + 1)⟩, 0)) := Lib.hid (take_step hx (by omega) (by omega) (by rw [HNT.out]; omega))
      have HLT : Hid (gq < v1.heap.size) := Lib.hid HQ.out.lt
      clear hx
      go_wp2_with fail
      refine (itake_any ((n5 : Int) + 1) false (T.drop j) A6 n6 c6 _ x ((n5 : Int) + 1) false (T.drop (j + 1)) 0 HTK.out HQA.out HQN.out HQC.out (HFT.out.drop j)).mono ?_
      rintro e v2 ⟨A7, n7, c7, rfl, hn7, hc7, ha7, hb7⟩
      have HN7 := Lib.hid hn7
      have HC7 := Lib.hid hc7
      have HA7 := Lib.hid ha7
      have HOL : Hid (∀ g, (Value.slice Ag j cg).ownBlock = some g → g < v1.heap.size) := Lib.hid HG.out.own_lt
      have HG := Lib.hid (HG.out.up hb7)
      have HQ := Lib.hid (HQ.out.below hb7 HQ.out.lt)
      clear y0 y1 y2 hn7 hc7 ha7 hb7
      go_upto_region 14 with (fail)
      obtain ⟨gx, gn, v3, hg1, hg2, hv, hk1, hk2, hbe, -⟩ := box_two v2 39 #[.int .i64 x.req, .int .i64 x.slot, .string x.left, .string x.right] 24 #[.int .i64 ((n5 : Int) + 1), .bool false, .slice A7 n7 c7]
      rw [← hv, ← hg2, ← hg1]
      have HKX := Lib.hid hk1
      have HKN := Lib.hid hk2
      have HG := Lib.hid (HG.out.up hbe)
      have HQ := Lib.hid (HQ.out.below hbe HQ.out.lt)
      have HA7 := Lib.hid (HA7.out.up hbe)
      clear hg1 hg2 hv hk1 hk2 hbe
      obtain ⟨x0, x1, x2, x3⟩ := blk4 HKX.out
      obtain ⟨A8, c8, v4, hr8, ho8, hg8⟩ := push_task HG.out x (j + 1) (by rw [List.length_take, HNT.out]; omega) (by omega)
      have HR8 := Lib.hid hr8
      have HO8 : Hid (OwnT w3 v4 (.slice A8 (j + 1) c8) (T.take (j + 1))) := Lib.hid (by rw [take_snoc HX.out]; exact ho8)
      have HA8 := Lib.hid (HA7.out.grown hg8 HOL.out)
      have HQ8 := Lib.hid (HQ.out.grown hg8 (HG.out.ne HQ.out (by decide)))
      have HN8 := Lib.hid (HKN.out.grown hg8 (HG.out.ne HKN.out (by decide)))
      clear hr8 ho8 hg8
      obtain ⟨z0, z1, z2⟩ := blk3 HN8.out
      obtain ⟨u0, u1, u2⟩ := blk3 HQ8.out
      have q0 := Blk.frozen HQ8.out 0
      have q1 := Blk.frozen HQ8.out 1
      have q2 := Blk.frozen HQ8.out 2
      go_wp2_with (at_builtin; refine wpList_append_run rfl rfl (by simp [Region.wanted]) rfl rfl HR8.out ?_; clear HR8)
      go_roundw
      case rel => exact ⟨j + 1, n7, c7, c8, A7, A8, by omega, by go_num, rfl, Lib.hid (HO8.out.far (grown3 _ _ _ _ _) HQ8.out (by decide) HGQ.out), Lib.hid (HQ8.out.set3 _ _ _), Lib.hid (HA8.out.far (grown3 _ _ _ _ _) HLT.out).at_, HN7, HC7⟩
      case measure => simp [intOf]; omega
    · obtain rfl : j = k := by omega
      have t1 : decide ((j : Int) < (j : Int)) = false := decide_eq_false (by omega)
      obtain ⟨D, hD⟩ : ∃ D, others (T.drop j) r = D := ⟨_, rfl⟩
      obtain ⟨m, hm⟩ : ∃ m, D.length = m := ⟨_, rfl⟩
      have hmn : m ≤ n6 := by rw [← hm, ← hD, ← HQN.out]; exact others_len _ _
      have hn6 : j + n6 = n5 := by have := HQN.out; rw [List.length_drop, HNT.out] at this; omega
      obtain ⟨gn, hgn⟩ : ∃ gn, n6 - m = gn := ⟨_, rfl⟩
      have HD := Lib.hid hD
      have HM := Lib.hid hm
      have HN6 := Lib.hid hn6
      have hgm : m + gn = n6 := by omega
      have HGM := Lib.hid hgm
      have HDR : Hid (dropQ ⟨(n5 : Int) + 1, false, T.drop j⟩ r = (gn, ⟨(n5 : Int) + 1, false, D⟩, 0)) := Lib.hid (by
        rw [drop_ok (right_of (by show (0 : Int) ≤ (n5 : Int) + 1; omega) (by show (n5 : Int) + 1 ≤ 4096; omega) (by show ((T.drop j).length : Int) ≤ (n5 : Int) + 1; rw [HQN.out]; omega))]
        simp only [HD.out, HQN.out, HM.out, hgn])
      have HFD : Hid (FitT D) := Lib.hid (by rw [← hD]; exact (HFT.out.drop j).others r)
      have HLT : Hid (gq < v1.heap.size) := Lib.hid HQ.out.lt
      clear hD hm hgn
      go_wp2_with fail
      refine (idrop_any ((n5 : Int) + 1) false (T.drop j) A6 n6 c6 r _ gn ((n5 : Int) + 1) false D 0 HDR.out HQA.out HQN.out HQC.out (HFT.out.drop j)).mono ?_
      rintro e v2 ⟨A7, n7, c7, rfl, hn7, hc7, ha7, hb7⟩
      obtain rfl : n7 = m := by rw [← hn7, HM.out]
      have HG := Lib.hid (HG.out.up hb7)
      have HQ := Lib.hid (HQ.out.below hb7 HQ.out.lt)
      clear y0 y1 y2 hn7
      obtain ⟨y0, y1, y2⟩ := blk3 HQ.out
      have q0 := Blk.frozen HQ.out 0
      have q1 := Blk.frozen HQ.out 1
      have q2 := Blk.frozen HQ.out 2
      go_upto_region 19 with (fail)
      obtain ⟨v3, hv3, hk3, hg3⟩ := box_set HQ.out (.int .i64 ((n5 : Int) + 1)) (.bool false) (.slice A7 n7 c7)
      rw [← hv3]
      have HG := Lib.hid (HG.out.far hg3 HQ.out (by decide) HGQ.out)
      have HQ := Lib.hid hk3
      have HQD : Hid (TasksAt v3 A7 D) := Lib.hid (ha7.far hg3 HLT.out).at_
      have HC7 := Lib.hid hc7
      clear y0 y1 y2 q0 q1 q2 hv3 hk3 hg3 ha7 hb7 hc7 HQA HQN HQC
      go_upto_region 20 with (fail)
      obtain ⟨gl, v4, hg, hw, hk, hbe⟩ := box_new v3 39 #[.int .i64 9, .int .i64 9, .string ⟨#[]⟩, .string ⟨#[]⟩]
      rw [← hw, ← hg]
      have HGL : Hid (w3.heap.size ≤ gl) := Lib.hid (by have := HG.out.2.size; omega)
      have HLO : Hid (∀ g, (Value.slice Ag j cg).ownBlock = some g → g ≠ gl) := Lib.hid (fun g e => by have := HG.out.own_lt g e; omega)
      have HBL := Lib.hid hk
      have HG := Lib.hid (HG.out.up hbe)
      have HQ := Lib.hid (HQ.out.below hbe HQ.out.lt)
      have HQD := Lib.hid (HQD.out.up hbe)
      clear hg hw hk hbe
      obtain ⟨y0, y1, y2⟩ := blk3 HQ.out
      obtain ⟨x0, x1, x2, x3⟩ := blk4 HBL.out
      go_wp2_with fail
      obtain ⟨go, v5, hg, hw, hk, hbe⟩ := box_new v4 39 #[.int .i64 9, .int .i64 9, .string ⟨#[]⟩, .string ⟨#[]⟩]
      rw [← hw, ← hg]
      have HLR : Hid (TasksAt v5 (some ⟨go, 0, none⟩) [lastT]) := Lib.hid (RowAt.of_blk (L := [lastT]) tk_len (by simpa [Tk.cells, lastT] using hk))
      have HG := Lib.hid (HG.out.up hbe)
      have HQ := Lib.hid (HQ.out.below hbe HQ.out.lt)
      have HBL := Lib.hid (HBL.out.below hbe HBL.out.lt)
      have HQD := Lib.hid (HQD.out.up hbe)
      have HLT : Hid (gq < v5.heap.size) := Lib.hid HQ.out.lt
      have HLB : Hid (gl < v5.heap.size) := Lib.hid HBL.out.lt
      clear hg hw hk hbe y0 y1 y2 x0 x1 x2 x3
      have HPL : Hid (putQ ⟨(n5 : Int) + 1, false, D⟩ [lastT] = (1, ⟨(n5 : Int) + 1, false, D ++ [lastT]⟩, 0)) := Lib.hid (by
        have hc : comes ⟨(n5 : Int) + 1, false, D⟩ [lastT].length = 1 := by unfold comes; simp only [HM.out, List.length_singleton]; omega
        rw [put_ok (right_of (by show (0 : Int) ≤ (n5 : Int) + 1; omega) (by show (n5 : Int) + 1 ≤ 4096; omega) (by show (D.length : Int) ≤ (n5 : Int) + 1; rw [HM.out]; omega)) rfl, hc]
        rfl)
      have HFL : Hid (FitT [lastT]) := Lib.hid (fun x hx => by rw [List.mem_singleton.1 hx]; exact ⟨by decide, by decide⟩)
      refine (iput_any ((n5 : Int) + 1) false D [lastT] A7 (some ⟨go, 0, none⟩) n7 c7 1 1 _ 1 ((n5 : Int) + 1) false (D ++ [lastT]) 0 HPL.out HQD.out HM.out HC7.out HFD.out HLR.out rfl (Nat.le_refl _) HFL.out).mono ?_
      rintro e v6 ⟨A8, n8, c8, rfl, hn8, hc8, ha8, hb8⟩
      obtain rfl : n8 = n7 + 1 := by rw [← hn8, List.length_append, HM.out]; rfl
      have HG := Lib.hid (HG.out.up hb8)
      have HQ := Lib.hid (HQ.out.below hb8 HQ.out.lt)
      have HBL := Lib.hid (HBL.out.below hb8 HBL.out.lt)
      clear hn8
      obtain ⟨y0, y1, y2⟩ := blk3 HQ.out
      have q0 := Blk.frozen HQ.out 0
      have q1 := Blk.frozen HQ.out 1
      have q2 := Blk.frozen HQ.out 2
      go_upto_region 21 with (fail)
      obtain ⟨v7, hv7, hk7, hg7⟩ := box_set HQ.out (.int .i64 ((n5 : Int) + 1)) (.bool false) (.slice A8 (n7 + 1) c8)
      rw [← hv7]
      have HG := Lib.hid (HG.out.far hg7 HQ.out (by decide) HGQ.out)
      have HBL := Lib.hid (HBL.out.grown hg7 (fun e => by injection e with e; exact blk_ne HBL.out HQ.out (by decide) e))
      have HQ := Lib.hid hk7
      obtain ⟨E, hE⟩ : ∃ E, D ++ [lastT] = E := ⟨_, rfl⟩
      have HE := Lib.hid hE
      have HEL : Hid (E.length = n7 + 1) := Lib.hid (by rw [← hE, List.length_append, HM.out]; rfl)
      have HFE : Hid (FitT E) := Lib.hid (by rw [← hE]; exact HFD.out.append HFL.out)
      have HQE : Hid (TasksAt v7 A8 (E.drop 0)) := Lib.hid (by rw [← hE]; exact (ha8.far hg7 HLT.out).at_)
      have HC8 := Lib.hid hc8
      have HG : Hid (OwnT w3 v7 (.slice Ag (j + 0) cg) (T.take j ++ E.take 0)) := Lib.hid (by rw [List.take_zero, List.append_nil]; exact HG.out)
      clear y0 y1 y2 q0 q1 q2 hv7 hk7 hg7 ha8 hb8 hc8 HQD HLR hE
      clear g1 t1
      go_wp2_with fail
      go_loopw [14, 25] (fun v i wr => ∃ (l n6 c6 cg m6 : Nat) (A6 Ag : Option Addr), l ≤ n7 + 1 ∧ i = .int .i64 l ∧ m6 = j + l ∧ v = .slice Ag m6 cg ∧ Hid (OwnT w3 wr (.slice Ag m6 cg) (T.take j ++ E.take l)) ∧ Hid (Blk wr gq 24 #[.int .i64 ((n5 : Int) + 1), .bool false, .slice A6 n6 c6]) ∧ Hid (TasksAt wr A6 (E.drop l)) ∧ Hid ((E.drop l).length = n6) ∧ Hid (n6 ≤ c6) ∧ Hid (Blk wr gl 39 #[.int .i64 9, .int .i64 9, .string ⟨#[]⟩, .string ⟨#[]⟩]) ∧ Hid (∀ g, (Value.slice Ag m6 cg).ownBlock = some g → g ≠ gl)) (fun _ i _ => 30 - (intOf i).toNat)
      case atStart => exact ⟨0, n7 + 1, c8, cg, j, A8, Ag, Nat.zero_le _, rfl, rfl, rfl, HG, HQ, HQE, Lib.hid (by rw [List.drop_zero]; exact HEL.out), HC8, HBL, HLO⟩
      case round =>
        clear HQ HQE HC8 HBL HLO HG
        obtain ⟨l, n6', c6, cg, m6, A6, Ag, hl, rfl, hm6, rfl, HG, HQ, HQA, HQN, HQC, HBL, HLO⟩ := hrel
        obtain ⟨v8, rfl⟩ : ∃ w3, w3 = wr := ⟨_, rfl⟩
        obtain ⟨y0, y1, y2⟩ := blk3 HQ.out
        have hnl : n6' + l = n7 + 1 := by have := HQN.out; rw [List.length_drop, HEL.out] at this; omega
        have HM6 := Lib.hid hm6
        clear hm6
        by_cases g1 : l < n7 + 1
        · have t1 : decide ((l : Int) < 30) = true := decide_eq_true (by omega)
          have t2 : decide ((0 : Int) < (n6' : Int)) = true := decide_eq_true (by omega)
          have t3 : decide (0 < n6') = true := decide_eq_true (by omega)
          have t4 : decide ((n6' : Int) > 0) = true := decide_eq_true (by omega)
          obtain ⟨x, hx⟩ : ∃ x, E[l]? = some x := ⟨_, List.getElem?_eq_getElem (by rw [HEL.out]; omega)⟩
          have HX := Lib.hid hx
          have HTK : Hid (takeQ ⟨(n5 : Int) + 1, false, E.drop l⟩ = (x, ⟨(n5 : Int) + 1, false, E.drop (l + 1)⟩, 0)) := Lib.hid (take_step hx (by omega) (by omega) (by rw [HEL.out]; omega))
          have HLT : Hid (gq < v8.heap.size) := Lib.hid HQ.out.lt
          have HLB : Hid (gl < v8.heap.size) := Lib.hid HBL.out.lt
          clear hx
          go_wp2_with fail
          refine (itake_any ((n5 : Int) + 1) false (E.drop l) A6 n6' c6 _ x ((n5 : Int) + 1) false (E.drop (l + 1)) 0 HTK.out HQA.out HQN.out HQC.out (HFE.out.drop l)).mono ?_
          rintro e v9 ⟨A7, n8, c7, rfl, hn7, hc7, ha7, hb7⟩
          have HN7 := Lib.hid hn7
          have HC7 := Lib.hid hc7
          have HA7 := Lib.hid ha7
          have HOL : Hid (∀ g, (Value.slice Ag m6 cg).ownBlock = some g → g < v8.heap.size) := Lib.hid HG.out.own_lt
          have HG := Lib.hid (HG.out.up hb7)
          have HQ := Lib.hid (HQ.out.below hb7 HQ.out.lt)
          have HBL := Lib.hid (HBL.out.below hb7 HBL.out.lt)
          have HLB2 : Hid (gl < v9.heap.size) := Lib.hid HBL.out.lt
          clear y0 y1 y2 hn7 hc7 ha7 hb7
          go_upto_region 25 with (fail)
          obtain ⟨gx, gn', v10, hg1, hg2, hv, hk1, hk2, hbe, -⟩ := box_two v9 39 #[.int .i64 x.req, .int .i64 x.slot, .string x.left, .string x.right] 24 #[.int .i64 ((n5 : Int) + 1), .bool false, .slice A7 n8 c7]
          rw [← hv, ← hg2, ← hg1]
          have HKX := Lib.hid hk1
          have HKN := Lib.hid hk2
          have HG := Lib.hid (HG.out.up hbe)
          have HQ := Lib.hid (HQ.out.below hbe HQ.out.lt)
          have HBL := Lib.hid (HBL.out.below hbe HBL.out.lt)
          have HA7 := Lib.hid (HA7.out.up hbe)
          have HLB3 : Hid (gl < v10.heap.size) := Lib.hid HBL.out.lt
          clear hg1 hg2 hv hk1 hk2 hbe
          obtain ⟨x0, x1, x2, x3⟩ := blk4 HKX.out
          obtain ⟨A9, c9, v11, hr8, ho8, hg8, hw8⟩ := push_task2 HG.out x (m6 + 1) (by rw [List.length_append, List.length_take, List.length_take, HNT.out, HEL.out, HM6.out]; omega) (by have := HM6.out; omega)
          have HR8 := Lib.hid hr8
          have HO8 : Hid (OwnT w3 v11 (.slice A9 (m6 + 1) c9) (T.take j ++ E.take (l + 1))) := Lib.hid (by rw [take_snoc HX.out, ← List.append_assoc]; exact ho8)
          have HA8 := Lib.hid (HA7.out.grown hg8 HOL.out)
          have HQ8 := Lib.hid (HQ.out.grown hg8 (HG.out.ne HQ.out (by decide)))
          have HN8 := Lib.hid (HKN.out.grown hg8 (HG.out.ne HKN.out (by decide)))
          have HBL8 := Lib.hid (HBL.out.grown hg8 (fun e => HLO.out _ e.symm rfl))
          have HLO8 : Hid (∀ g, (Value.slice A9 (m6 + 1) c9).ownBlock = some g → g ≠ gl) := Lib.hid (fun g e => by
            rcases hw8 g e with h | h
            · exact HLO.out g h
            · have := HLB3.out; omega)
          clear hr8 ho8 hg8 hw8
          obtain ⟨z0, z1, z2⟩ := blk3 HN8.out
          obtain ⟨u0, u1, u2⟩ := blk3 HQ8.out
          have q0 := Blk.frozen HQ8.out 0
          have q1 := Blk.frozen HQ8.out 1
          have q2 := Blk.frozen HQ8.out 2
          go_wp2_with (at_builtin; refine wpList_append_run rfl rfl (by simp [Region.wanted]) rfl rfl HR8.out ?_; clear HR8)
          go_roundw
          case rel => exact ⟨l + 1, n8, c7, c9, m6 + 1, A7, A9, by omega, by go_num, by have := HM6.out; omega, rfl, Lib.hid (HO8.out.far (grown3 _ _ _ _ _) HQ8.out (by decide) HGQ.out), Lib.hid (HQ8.out.set3 _ _ _), Lib.hid (HA8.out.far (grown3 _ _ _ _ _) HLT.out).at_, HN7, HC7, Lib.hid (HBL8.out.grown (grown3 _ _ _ _ _) (fun e => by injection e with e; exact blk_ne HBL8.out HQ8.out (by decide) e)), HLO8⟩
          case measure => simp [intOf]; omega
        · obtain rfl : l = n7 + 1 := by omega
          obtain rfl : n6' = 0 := by omega
          have t2 : decide ((0 : Int) < ((0 : Nat) : Int)) = false := decide_eq_false (by omega)
          have t3 : decide ((0 : Int) < 0) = false := decide_eq_false (by omega)
          have t1 : decide (((n7 + 1 : Nat) : Int) < 30) = true := decide_eq_true (by omega)
          have t4 : decide (((n7 : Nat) : Int) + 1 < 30) = true := decide_eq_true (by omega)
          have hEl : E.take (n7 + 1) = E := List.take_of_length_le (by rw [HEL.out]; omega)
          have HGA : Hid (TasksAt v8 Ag (T.take j ++ E)) := Lib.hid (by have := OwnR.at_ (m := m6) tk_len HG.out (by rw [List.length_append, List.length_take, List.length_take, HNT.out, HEL.out, HM6.out]; omega); rwa [hEl] at this)
          clear hEl
          have HGN : Hid ((T.take j ++ E).length = m6) := Lib.hid (by rw [List.length_append, List.length_take, HNT.out, HEL.out, HM6.out]; omega)
          have HTA8 := Lib.hid (HTA.out.up HG.out.2)
          have HWE := Lib.hid (below_step HW.out HG.out.2)
          obtain ⟨A10, c10, v12, hr10, ho10, _⟩ := append_tasks (OwnR.nil v8) j ct (HTA8.out.take j) (by rw [List.length_take, HNT.out]; omega) (T.take j) rfl (by rw [List.length_take, HNT.out]; omega)
          rw [show (T.take j).length = j from by rw [List.length_take, HNT.out]; omega] at hr10 ho10
          have HR10 := Lib.hid hr10
          have HO10 : Hid (OwnT v8 v12 (.slice A10 j c10) (T.take j ++ others ((T.take j).drop j) r)) := Lib.hid (by rw [List.drop_eq_nil_of_le (by rw [List.length_take]; omega)]; simpa [others] using ho10)
          have hjct : ¬ (ct : Int) < (j : Int) := by have := HCT.out; omega
          have hjct2 : (j : Int) ≤ (ct : Int) := by have := HCT.out; omega
          clear hr10 ho10
          go_wp2_with (at_builtin; refine wpList_append_run rfl rfl (by simp [Region.wanted]) rfl rfl HR10.out ?_; clear HR10)
          clear y0 y1 y2 t1 t2 t3 t4 g1 hjct hjct2
          go_loopw [29, 30] (fun v i wr => ∃ (l m9 cw : Nat) (Aw : Option Addr), j ≤ l ∧ l ≤ n5 ∧ i = .int .i64 l ∧ v = .slice Aw m9 cw ∧ Hid (OwnT v8 wr (.slice Aw m9 cw) (T.take j ++ others ((T.take l).drop j) r)) ∧ Hid ((T.take j ++ others ((T.take l).drop j) r).length = m9)) (fun _ i _ => n5 - (intOf i).toNat)
          case atStart => exact ⟨j, j, c10, A10, Nat.le_refl _, by omega, rfl, rfl, HO10, Lib.hid (by rw [List.drop_eq_nil_of_le (by rw [List.length_take]; omega)]; simp [others, HNT.out]; omega)⟩
          case round =>
            obtain ⟨l, m9, cw, Aw, hl1, hl2, rfl, rfl, HOW, HLW⟩ := hrel
            obtain ⟨v13, rfl⟩ : ∃ w3, w3 = wr := ⟨_, rfl⟩
            have hm9 : m9 ≤ 40 := by
              have h1 := others_len ((T.take l).drop j) r
              have h2 := HLW.out
              rw [List.length_append, List.length_take, HNT.out] at h2
              rw [List.length_drop, List.length_take, HNT.out] at h1
              omega
            by_cases g1 : l < n5
            · have t1 : decide ((l : Int) < (n5 : Int)) = true := decide_eq_true (by omega)
              obtain ⟨x, hx⟩ : ∃ x, T[l]? = some x := ⟨_, List.getElem?_eq_getElem (by rw [HNT.out]; omega)⟩
              have HX := Lib.hid hx
              have HOT := Lib.hid (others_step hx hl1 r)
              obtain ⟨a, rfl, hal, c0, c1, c2, c3⟩ := tasks_fields (HTA8.out.up HOW.out.2) hx
              clear hx
              by_cases g2 : x.req = r
              · have t0 : (x.req != r) = false := by simp [g2]
                have HEQ : Hid (others ((T.take (l + 1)).drop j) r = others ((T.take l).drop j) r) := Lib.hid (by rw [HOT.out, if_pos g2])
                clear g2
                go_wp2_with fail
                go_roundw
                case rel => exact ⟨l + 1, m9, cw, Aw, by omega, by omega, by go_num, rfl, Lib.hid (by rw [HEQ.out]; exact HOW.out), Lib.hid (by rw [HEQ.out]; exact HLW.out)⟩
                case measure => simp [intOf]; omega
              · have t0 : (x.req != r) = true := by simp [g2]
                have HEQ : Hid (others ((T.take (l + 1)).drop j) r = others ((T.take l).drop j) r ++ [x]) := Lib.hid (by rw [HOT.out, if_neg g2])
                obtain ⟨A11, c11, v14, hr11, ho11, _⟩ := push_task HOW.out x (m9 + 1) (by rw [HLW.out]) (by omega)
                have HR11 := Lib.hid hr11
                have HO11 : Hid (OwnT v8 v14 (.slice A11 (m9 + 1) c11) (T.take j ++ others ((T.take (l + 1)).drop j) r)) := Lib.hid (by rw [HEQ.out, ← List.append_assoc]; exact ho11)
                have HL11 : Hid ((T.take j ++ others ((T.take (l + 1)).drop j) r).length = m9 + 1) := Lib.hid (by rw [HEQ.out, ← List.append_assoc, List.length_append, HLW.out]; rfl)
                clear g2 hr11 ho11
                go_wp2_with (at_builtin; refine wpList_append_run rfl rfl (by simp [Region.wanted]) rfl rfl HR11.out ?_; clear HR11)
                go_roundw
                case rel => exact ⟨l + 1, m9 + 1, c11, A11, by omega, by omega, by go_num, rfl, HO11, HL11⟩
                case measure => simp [intOf]; omega
            · obtain rfl : l = n5 := by omega
              have t1 : decide ((l : Int) < (l : Int)) = false := decide_eq_false (by omega)
              have hTl : T.take l = T := List.take_of_length_le (by rw [HNT.out]; omega)
              have HOW : Hid (OwnT v8 v13 (.slice Aw m9 cw) (T.take j ++ D)) := Lib.hid (by have := HOW.out; rwa [hTl, HD.out] at this)
              have HLW : Hid ((T.take j ++ D).length = m9) := Lib.hid (by have := HLW.out; rwa [hTl, HD.out] at this)
              have HMG : Hid (m9 + gn = l) := Lib.hid (by have := HLW.out; rw [List.length_append, List.length_take, HNT.out, HM.out] at this; have := HGM.out; have := HN6.out; omega)
              obtain ⟨x0, x1, x2, x3⟩ := blk4 (HBL.out.below HOW.out.2 HBL.out.lt)
              obtain ⟨A12, c12, v14, hr12, ho12, _⟩ := push_task HOW.out lastT (m9 + 1) (by rw [HLW.out]) (by omega)
              have HR12 := Lib.hid hr12
              have HO12 := Lib.hid ho12
              have HGA14 := Lib.hid (HGA.out.up ho12.2)
              have hgn := HMG.out
              have t5 : ((gn : Int) == (l : Int) + 1 - (m9 : Int) - 1) = true := by simp; omega
              have HEQ : Hid (decide (T.take j ++ E = (T.take j ++ D) ++ [lastT]) = true) := Lib.hid (decide_eq_true (by rw [← HE.out, List.append_assoc]))
              have HLL : Hid (((T.take j ++ D) ++ [lastT]).length = m9 + 1) := Lib.hid (by rw [List.length_append, HLW.out]; rfl)
              have HM6L : Hid (m6 ≤ 140737488355328) := Lib.hid (by have := HM6.out; omega)
              clear hr12 ho12 hTl
              go_wp2_with (at_builtin; refine wpList_append_run rfl rfl (by first | rfl | simp [Region.wanted]) rfl rfl HR12.out ?_; clear HR12)
              refine (rtasks_any Ag A12 (T.take j ++ E) ((T.take j ++ D) ++ [lastT]) m6 (m9 + 1) cg c12 true HEQ.out _ HGA14.out (OwnR.at_ (m := m9 + 1) tk_len HO12.out HLL.out) HGN.out HLL.out HM6L.out (by omega)).mono ?_
              rintro e v15 ⟨rfl, hq⟩
              have hb15 := hq.below
              go_wp2_with fail
              go_ret
              exact ⟨rfl, below_step HWE.out (below_step HO12.out.2 hb15)⟩

end Go.Proofs.Ytaelenjnjoeheaa
