/-
  collatorlaw15.FlightMany returns true: of many who begin with the same texts the first one finds out, and all others are told, in the order in which they came. Nothing that was there is changed.
-/
import Derived.Test.YtllkegonhghkcaaMnp
namespace Go.Proofs.Ytllkegonhghkcaa
open Go.RowKit P15

set_option maxHeartbeats 8000000 in
set_option maxRecDepth 100000 in
theorem many_any (many k0 k1 gone : Int) (w : World) (hm : I64 many) (hk0 : I64 k0) (hk1 : I64 k1) (hg : I64 gone) :
    Calls Try.prog 6 #[.int .i64 many, .agg #[.int .i64 k0, .int .i64 k1], .int .i64 gone] w fun e w' => e = .returned (.bool true) ∧ Below w.heap.size w w' := by
  have HM := Lib.hid hm
  have HK0 := Lib.hid hk0
  have HK1 := Lib.hid hk1
  have HG := Lib.hid hg
  obtain ⟨pr1, pr2⟩ := pickI_range many 9 (by omega)
  obtain ⟨pn, hpn⟩ := Int.eq_ofNat_of_zero_le pr1
  have hpn2 : pn ≤ 8 := by omega
  have HPN := Lib.hid hpn
  obtain ⟨n, hn⟩ : ∃ n, n = pn + 2 := ⟨_, rfl⟩
  have HN := Lib.hid hn
  have hn1 : 2 ≤ n := by omega
  have hn2 : n ≤ 10 := by omega
  obtain ⟨q1, q2⟩ := pickI_range gone ((n : Int) - 1) (by omega)
  obtain ⟨q, hq⟩ : ∃ q, pickI gone ((n : Int) - 1) = q := ⟨_, rfl⟩
  have HQ := Lib.hid hq
  rw [hq] at q1 q2
  obtain ⟨g, hgq⟩ : ∃ g, g = 1 + q := ⟨_, rfl⟩
  have HGQ := Lib.hid hgq
  have g1 : 1 ≤ g := by omega
  have g2 : g < (n : Int) := by omega
  obtain ⟨l, hl⟩ : ∃ l, textOf k0 = l := ⟨_, rfl⟩
  obtain ⟨r, hr⟩ : ∃ r, textOf k1 = r := ⟨_, rfl⟩
  have hls : l.size ≤ 2 := by rw [← hl]; exact textOf_size _
  have hrs : r.size ≤ 2 := by rw [← hr]; exact textOf_size _
  have HL := Lib.hid hl
  have HR := Lib.hid hr
  clear hm hk0 hk1 hg hpn hn hq hgq hl hr pr1 pr2
  go_enter Try.func6, Try.ntmps6
  go_upto_region 1 with (fail)
  obtain ⟨gk, w1, hgk, hw1, hbk, hbe1⟩ := box_new w 24 #[.int .i64 k0, .int .i64 k1]
  rw [← hw1, ← hgk]
  have HBK := Lib.hid hbk
  have HW := Lib.hid hbe1
  clear hgk hw1 hbk hbe1
  go_wp2_with fail
  refine (awake_any _).mono ?_
  rintro e w2 ⟨rfl, hb⟩
  have HBK := Lib.hid (Blk.below HBK.out hb HBK.out.lt)
  have HW := Lib.hid (below_step HW.out hb)
  clear hb
  go_wp2_with fail
  refine (pick15_v many 9 pn HPN.out _ HM.out (by omega) (by omega)).mono ?_
  rintro e w' ⟨rfl, rfl⟩
  go_upto_region 3 with (fail)
  have hy0 := Blk.cell HBK.out 0
  simp only [List.getElem?_toArray, List.getElem?_cons_zero] at hy0
  rw [show ((2 : Int) + (pn : Int)) = ((n : Nat) : Int) from by have := HN.out; omega]
  go_wp2_with fail
  refine (text_any k0 _ HK0.out).mono ?_
  rintro e w3 ⟨rfl, hb⟩
  rw [HL.out]
  have HBK := Lib.hid (Blk.below HBK.out hb HBK.out.lt)
  have HW := Lib.hid (below_step HW.out hb)
  clear hb hy0
  have hy1 := Blk.cell HBK.out 1
  simp only [List.getElem?_toArray, List.getElem?_cons_zero, List.getElem?_cons_succ] at hy1
  go_wp2_with fail
  refine (text_any k1 _ HK1.out).mono ?_
  rintro e w4 ⟨rfl, hb⟩
  rw [HR.out]
  have HW := Lib.hid (below_step HW.out hb)
  clear hb hy1 HBK
  go_wp2_with fail
  refine (pick15_v gone ((n : Int) - 1) q HQ.out _ HG.out (by omega) (by omega)).mono ?_
  rintro e w' ⟨rfl, rfl⟩
  go_upto_region 8 with (fail)
  rw [show ((1 : Int) + q) = g from HGQ.out.symm]
  clear q1 q2
  go_wp2_with fail
  go_loopw [11, 12, 14] (fun f v i wr => ∃ (k nf cf m : Nat) (Af Aw : Option Addr) (cw : Nat), k ≤ n ∧ f = .slice Af nf cf ∧ v = .slice Aw m cw ∧ i = .int .i64 k ∧ Hid ((manyF l r k).length = nf) ∧ Hid (FillsAt wr Af (manyF l r k)) ∧ Hid ((wantN g k).length = m) ∧ Hid (OwnI w wr (.slice Aw m cw) (wantN g k))) (fun _ _ i _ => n - (intOf i).toNat)
  case atStart => exact ⟨0, 0, 0, 0, none, none, 0, Nat.zero_le _, rfl, rfl, rfl, Lib.hid rfl, Lib.hid FillsAt.nil, Lib.hid rfl, Lib.hid (OwnR.nil' HW.out)⟩
  case round =>
    obtain ⟨k, nf, cf, m, Af, Aw, cw, hk, rfl, rfl, rfl, HNF, HFA, HMW, HO⟩ := hrel
    obtain ⟨v5, rfl⟩ : ∃ w3, w3 = wr := ⟨_, rfl⟩
    have hml : m ≤ k := by rw [← HMW.out]; exact want_len g k
    by_cases g3 : k < n
    · have t9 : decide ((k : Int) < (n : Int)) = true := decide_eq_true (by omega)
      obtain ⟨b0, hb0⟩ : ∃ b0, decide (k = 0) = b0 := ⟨_, rfl⟩
      have HBG : Hid (beginF (manyF l r k) l r (k : Int) = (b0, manyF l r (k + 1), 0)) := Lib.hid (by rw [begin_many, hb0])
      have HB0 := Lib.hid hb0
      clear hb0
      go_wp2_with fail
      refine (ibegin3N Af (manyF l r k) nf cf l r k _ (manyF l r (k + 1)) 0 b0 HBG.out HFA.out HNF.out (manyF_fit hls hrs (by omega)) ⟨by omega, by omega⟩ (by show l.size ≤ _; omega) (by show r.size ≤ _; omega)).mono ?_
      rintro e v6 ⟨A6, n6, c6, rfl, hn6, _, hf6, hb6⟩
      have HN6 := Lib.hid hn6
      have HF6 := Lib.hid hf6
      have HB6 := Lib.hid hb6
      have HO6 := Lib.hid (HO.out.up hb6)
      clear hn6 hf6 hb6
      by_cases g4 : k = 0
      · have t0 : ((k : Int) == 0) = true := by simp [g4]
        have t1 : decide ((0 : Int) < (k : Int)) = false := decide_eq_false (by omega)
        have t2 : decide (0 < k) = false := decide_eq_false (by omega)
        have t3 : b0 = true := by rw [← HB0.out]; exact decide_eq_true g4
        have HW1 : Hid (wantN g (k + 1) = wantN g k) := Lib.hid (by rw [g4]; rfl)
        clear g4
        subst t3
        go_wp2_with fail
        go_roundw
        case rel => exact ⟨k + 1, n6, c6, m, A6, Aw, cw, by omega, rfl, rfl, by go_num, HN6, Lib.hid HF6.out.at_, Lib.hid (by rw [HW1.out]; exact HMW.out), Lib.hid (by rw [HW1.out]; exact HO6.out)⟩
        case measure => simp [intOf]; omega
      · have t0 : ((k : Int) == 0) = false := by rw [beq_eq_false_iff_ne]; omega
        have t1 : decide ((0 : Int) < (k : Int)) = true := decide_eq_true (by omega)
        have t2 : decide (0 < k) = true := decide_eq_true (by omega)
        have t3 : b0 = false := by rw [← HB0.out]; exact decide_eq_false g4
        have hk0 : 0 < k := by omega
        clear g4
        subst t3
        by_cases g5 : (k : Int) = g
        · have t4 : ((k : Int) != g) = false := by simp [g5]
          have t5 : ((k : Int) == g) = true := by simp [g5]
          have HW1 : Hid (wantN g (k + 1) = wantN g k) := Lib.hid (want_eq hk0 g5)
          clear g5
          go_wp2_with fail
          go_roundw
          case rel => exact ⟨k + 1, n6, c6, m, A6, Aw, cw, by omega, rfl, rfl, by go_num, HN6, Lib.hid HF6.out.at_, Lib.hid (by rw [HW1.out]; exact HMW.out), Lib.hid (by rw [HW1.out]; exact HO6.out)⟩
          case measure => simp [intOf]; omega
        · have t4 : ((k : Int) != g) = true := by simp [g5]
          have t5 : ((k : Int) == g) = false := by simp [g5]
          have HW1 : Hid (wantN g (k + 1) = wantN g k ++ [(k : Int)]) := Lib.hid (want_ne hk0 g5)
          obtain ⟨A7, c7, v7, hr7, ho7, hg7⟩ := int_push HO6.out (k : Int) (m + 1) (by rw [HMW.out]) (by omega)
          have HR7 := Lib.hid hr7
          have HO7 := Lib.hid ho7
          have HF7 : Hid (FillsAt v7 A6 (manyF l r (k + 1))) := Lib.hid (HF6.out.kept hg7.size fun i hi hi2 => hg7.block i hi2 fun e => by
            have := (OwnR.typed HO.out e.symm).2
            obtain ⟨cs, hcs⟩ := this
            have := hcs.lt
            omega).at_
          clear hr7 ho7 hg7 g5
          go_wp2_with (at_builtin; refine wpList_append_run rfl rfl (by simp [Region.wanted]) rfl rfl HR7.out ?_; clear HR7)
          go_roundw
          case rel => exact ⟨k + 1, n6, c6, m + 1, A6, A7, c7, by omega, rfl, rfl, by go_num, HN6, HF7, Lib.hid (by rw [HW1.out, List.length_append, HMW.out]; rfl), Lib.hid (by rw [HW1.out]; exact HO7.out)⟩
          case measure => simp [intOf]; omega
    · obtain rfl : k = n := by omega
      have HI := Lib.hid (OwnR.at_ i_len HO.out HMW.out)
      go_wp2_with fail
      refine (ileave3N Af (manyF l r k) nf cf g _ _ 0 (leave_many g1 g2) HFA.out HNF.out (manyF_fit hls hrs (by omega)) ⟨by omega, by omega⟩).mono ?_
      rintro e v6 ⟨A6, n6, c6, rfl, hn6, _, hf6, hb6⟩
      have HN6 := Lib.hid hn6
      have HF6 := Lib.hid hf6.at_
      have HI := Lib.hid (HI.out.up hb6)
      have HW6 := Lib.hid (below_step HO.out.2 hb6)
      clear hn6 hf6 hb6
      have HFT : Hid (FitF [⟨l, r, 0, wantN g k⟩]) := Lib.hid (one_fit hls hrs (by have := want_len g k; omega) ⟨by omega, by omega⟩ (want_fit g (by omega)))
      go_wp2_with fail
      refine (idone3N A6 [⟨l, r, 0, wantN g k⟩] n6 c6 0 _ [] 0 (wantN g k) (done_many l r g k) HF6.out HN6.out HFT.out ⟨by omega, by omega⟩).mono ?_
      rintro e v7 ⟨B7, m7, d7, A7, n7, c7, rfl, hm7, _, hi7, hn7, _, hf7, hb7⟩
      obtain rfl : n7 = 0 := hn7.symm
      have HM7 := Lib.hid hm7
      have HI7 := Lib.hid hi7
      have HI := Lib.hid (HI.out.up hb7)
      have HW7 := Lib.hid (below_step HW6.out hb7)
      clear hm7 hi7 hn7 hf7 hb7
      go_wp2_with fail
      refine (ibegin3N A7 [] 0 c7 l r g _ _ 0 true (begin_again l r g) FillsAt.nil rfl fit_nil ⟨by omega, by omega⟩ (by show l.size ≤ _; omega) (by show r.size ≤ _; omega)).mono ?_
      rintro e v8 ⟨A8, n8, c8, rfl, hn8, _, hf8, hb8⟩
      have HI7 := Lib.hid (HI7.out.up hb8)
      have HI := Lib.hid (HI.out.up hb8)
      have HW8 := Lib.hid (below_step HW7.out hb8)
      have HLE : Hid ((wantN g k).length ≤ 140737488355328) := Lib.hid (by have := want_len g k; omega)
      clear hn8 hf8 hb8
      go_wp2_with fail
      refine (rints_any B7 Aw (wantN g k) (wantN g k) m7 m d7 cw true (decide_eq_true rfl) _ HI7.out HI.out HM7.out HMW.out HLE.out HLE.out).mono ?_
      rintro e v9 ⟨rfl, hq⟩
      have HW9 := Lib.hid (below_step HW8.out (Drew.below hq))
      clear hq
      go_wp2_with fail
      go_ret
      exact ⟨rfl, HW9.out⟩

end Go.Proofs.Ytllkegonhghkcaa
