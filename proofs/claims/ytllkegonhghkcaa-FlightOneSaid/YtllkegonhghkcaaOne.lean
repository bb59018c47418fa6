/-
  collatorlaw15.FlightOne returns true: of the many who begin with the same texts one finds out, and the others are told, in the order in which they came. Nothing that was there is changed.
-/
import Derived.Test.YtllkegonhghkcaaOnm
import Derived.IntWalk
namespace Go.Proofs.Ytllkegonhghkcaa
open Go.RowKit P15

theorem text1_v (k : Int) (w : World) (hk : I64 k) : Calls Try.prog 13 #[.int .i64 k] w fun e w' => e = .returned (.string (textOf k)) ∧ Below w.heap.size w w' := text_any k w hk
theorem upd_upd (S : Nat → Tri) (v : Nat) (a b : Tri) : upd (upd S v a) v b = upd S v b := by
  funext u
  by_cases h : u = v
  · subst h; rw [upd_same, upd_same]
  · rw [upd_other _ _ h, upd_other _ _ h, upd_other _ _ h]
theorem acc_cast {F : List Fl} {S : Nat → Tri} {k : Nat} (h : Acc F S ((k : Int) + 1)) : Acc F S ((k + 1 : Nat) : Int) := by
  rw [show (((k + 1 : Nat)) : Int) = (k : Int) + 1 by omega]; exact h
theorem acc_step {F : List Fl} {S : Nat → Tri} {k : Nat} (h : Acc F S (k : Int)) : Acc F S ((k + 1 : Nat) : Int) := h.later (by omega)
theorem told_at {W : World} {x : Fw} (h : IntsT W x) {q : Nat} {n : Int} (hq : x.wait[q]? = some n) : ∃ a, x.adr = some a ∧ W.cell? (a.add q) = some (.int .i64 n) := by
  obtain ⟨a, e, _, hc⟩ := ints_cell h.at_.ints hq
  exact ⟨a, e, hc⟩

set_option maxHeartbeats 16000000 in
set_option maxRecDepth 100000 in
theorem one_any (A : Option Addr) (zs : List Tri) (n c : Nat) (w : World) (ha : TrisAt w A zs) (hn : zs.length = n) (h1 : n ≤ 9223372036854775807) (hf : ∀ z ∈ zs, TriFit z) :
    Calls Try.prog 4 #[.slice A n c] w fun e w' => e = .returned (.bool true) ∧ Below w.heap.size w w' := by
  subst hn
  have HA := Lib.hid ha
  have HZ := Lib.hid hf
  clear ha hf
  go_enter Try.func4, Try.ntmps4
  go_wp2_with fail
  refine (awake_any _).mono ?_
  rintro e wa ⟨rfl, hb⟩
  have HW := Lib.hid hb
  have HWS : Hid (w.heap.size ≤ wa.heap.size) := Lib.hid hb.size
  clear hb
  go_wp2_with fail
  have HGS : Hid (w.heap.size ≤ wa.heap.size) := Lib.hid HWS.out
  have HNEW := Lib.hid (gs_new wa)
  have HBW := Lib.hid (HW.out.trans (((Below.refl wa.heap.size wa).alloc (Nat.le_refl _) (.cells #[.int .i64 0, .int .i64 0, .int .i64 0, .int .i64 0, .int .i64 0, .int .i64 0, .int .i64 0, .int .i64 0, .int .i64 0, .int .i64 0, .int .i64 0, .int .i64 0, .int .i64 0, .int .i64 0, .int .i64 0, .int .i64 0, .int .i64 0, .int .i64 0, .int .i64 0, .int .i64 0, .int .i64 0, .int .i64 0, .int .i64 0, .int .i64 0] 47)).mono HW.out.size))
  go_loopw [4, 6] (fun v i wr => ∃ (k : Nat) (A8 : Option Addr) (n8 c8 : Nat) (F : List Fl) (S : Nat → Tri), k ≤ zs.length ∧ k ≤ 30 ∧ v = .slice A8 n8 c8 ∧ i = .int .i64 k ∧ Hid (OneIn w wr wa.heap.size k A8 n8 F S)) (fun _ i _ => 30 - (intOf i).toNat)
  case atStart => exact ⟨0, none, 0, 0, [], fun _ => (0, 0, 0), Nat.zero_le _, Nat.zero_le _, rfl, rfl, Lib.hid ⟨Acc.nil _ fun _ => rfl, FillsNew.nil, rfl, HNEW.out, HBW.out⟩⟩
  case round =>
    obtain ⟨k, A8, n8, c8, F, S, hk, hk2, rfl, rfl, HV⟩ := hrel
    obtain ⟨v3, rfl⟩ : ∃ w3, w3 = wr := ⟨_, rfl⟩
    clear HNEW HBW
    by_cases g1 : k < zs.length
    · by_cases g2 : k < 30
      · obtain ⟨z, hz⟩ : ∃ z, zs[k]? = some z := ⟨_, List.getElem?_eq_getElem g1⟩
        obtain ⟨a, rfl, hal, hcell⟩ := tri_cells (HA.out.up HV.out.below) hz
        obtain ⟨t0, t1, t2⟩ := hcell v3 (Below.refl _ _)
        have htf := HZ.out z (List.mem_of_getElem? hz)
        have HT0 := Lib.hid htf.1
        have HT1 := Lib.hid htf.2.1
        have HT2 := Lib.hid htf.2.2
        have HGF := Lib.hid HV.out.acc.good
        clear hz hcell htf
        obtain ⟨v, hv8, hv⟩ : ∃ v : Nat, v < 8 ∧ pickI z.2.1 8 = (v : Int) := ⟨(pickI z.2.1 8).toNat, by have := pickI_range z.2.1 8 (by omega); omega, by have := pickI_range z.2.1 8 (by omega); omega⟩
        have HWH := Lib.hid hv
        obtain ⟨t, ht⟩ : ∃ t, pickI z.2.2 3 = t := ⟨_, rfl⟩
        have HTT := Lib.hid ht
        have HTR : Hid (0 ≤ t ∧ t < 3) := Lib.hid (by rw [← ht]; exact pickI_range z.2.2 3 (by omega))
        obtain ⟨p, hp⟩ : ∃ p, pickI z.1 6 = p := ⟨_, rfl⟩
        have HPP := Lib.hid hp
        have t20 : decide ((k : Int) < 30) = true := decide_eq_true (by omega)
        clear hv hp ht
        go_wp2_with fail
        refine (pick15_v z.2.1 8 v HWH.out _ HT1.out (by omega) (by omega)).mono ?_
        rintro e w' ⟨rfl, rfl⟩
        go_wp2_with fail
        refine (pick15_v z.2.2 3 t HTT.out _ HT2.out (by omega) (by omega)).mono ?_
        rintro e w' ⟨rfl, rfl⟩
        go_wp2_with fail
        refine (pick15_v z.1 6 p HPP.out _ HT0.out (by omega) (by omega)).mono ?_
        rintro e w' ⟨rfl, rfl⟩
        clear t0 t1 t2
        obtain ⟨u0, u1, u2⟩ := HV.out.gs.cell hv8
        by_cases g4 : p = 4
        · have t1 : (p == 4) = true := by simp [g4]
          clear g4
          by_cases s1 : (S v).1 = 1
          · skip
            as_aux_lemma =>
              obtain ⟨x, hx, hxb⟩ := mem_bys.1 ((HV.out.acc.by_iff hv8).1 s1)
              have HX := Lib.hid hx
              have HXB := Lib.hid hxb
              have HD : Hid (doneF F v = (x.wait, ended F v, 0)) := Lib.hid (doneF_some (rightB_iff.2 HGF.out.right) hx hxb)
              obtain ⟨y, hy⟩ : ∃ y, (S v).2.1 = y := ⟨_, rfl⟩
              have HTAU : Hid (tau S x = y) := Lib.hid (by unfold tau; rw [hxb, Int.toNat_natCast]; exact hy)
              have HY := Lib.hid hy
              clear hx hxb u0 u1 u2
              go_wp2_with fail
              refine (idone_typ A8 F n8 c8 v _ _ HD.out HV.out.fls.at_ HV.out.len HGF.out.fit ⟨by omega, by omega⟩).mono ?_
              rintro e w4 ⟨tB, tm, td, A9, n9, c9, rfl, htm, htd, hti, hn9, hc9, hf9, hb9⟩
              have HTM : Hid (x.wait.length = tm) := Lib.hid htm
              have HTI : Hid (IntsT w4 ⟨⟨#[]⟩, ⟨#[]⟩, 0, x.wait, tB, td⟩) := Lib.hid hti
              have HF9 : Hid (FillsNew (wa.heap.size + 1) w4 A9 (ended F v)) := Lib.hid (hf9.less HV.out.gs.lt)
              have HN9 : Hid ((ended F v).length = n9) := Lib.hid hn9
              have HG4 := Lib.hid (HV.out.gs.up hb9)
              have HB4 := Lib.hid (below_step HV.out.below hb9)
              have HTM8 : Hid (tm ≤ 8) := Lib.hid (by have h2 := HTM.out; have := HGF.out.small.2 x HX.out; omega)
              have htm8 : tm ≤ 8 := HTM8.out
              clear htm hti hf9 hn9 hb9
              obtain ⟨u0, u1, u2⟩ := HG4.out.cell hv8
              have HS1 := Lib.hid s1
              rw [s1] at u0
              rw [hy] at u1
              clear s1 hy
              go_wp2_with fail
              clear u0 u1 u2 t20 t1
              go_loopw [13, 14] (fun m j wr => ∃ (q mq : Nat), q ≤ 8 ∧ mq ≤ q ∧ m = .int .i64 mq ∧ j = .int .i64 q ∧ Hid (manyN S y q = mq) ∧ Hid (Drew w4 wr)) (fun _ j _ => 8 - (intOf j).toNat)
              case atStart => exact ⟨0, 0, Nat.zero_le _, Nat.zero_le _, rfl, rfl, Lib.hid rfl, Lib.hid (Drew.refl _)⟩
              case round =>
                obtain ⟨q, mq, hq8, hmq, rfl, rfl, HMQ, HDR⟩ := hrel
                obtain ⟨v5, rfl⟩ : ∃ w3, w3 = wr := ⟨_, rfl⟩
                have HG5 := Lib.hid (HG4.out.up (Drew.below HDR.out))
                by_cases g7 : q < 8
                · obtain ⟨q0, q1, q2⟩ := HG5.out.cell g7
                  obtain ⟨u0, u1, u2⟩ := HG5.out.cell hv8
                  have hy := HY.out
                  rw [hy] at u1
                  obtain ⟨a0, ha0⟩ : ∃ a0, (S q).1 = a0 := ⟨_, rfl⟩
                  obtain ⟨a1, ha1⟩ : ∃ a1, (S q).2.1 = a1 := ⟨_, rfl⟩
                  rw [ha0] at q0
                  rw [ha1] at q1
                  have HA0 := Lib.hid ha0
                  have HA1 := Lib.hid ha1
                  clear ha0 ha1 hy
                  have g7' : decide ((q : Int) < 8) = true := decide_eq_true (by omega)
                  have HI1 : Hid (IntKind.i64.wrap ((q : Int) + 1) = (q : Int) + 1) := Lib.hid (IntWalk.i64_in _ (by omega))
                  cases t5 : (a0 == 2) with
                  | false =>
                    have HNX : Hid (manyN S y (q + 1) = mq) := Lib.hid (by rw [manyN_succ, if_neg (by rw [HA0.out]; rintro ⟨h, _⟩; rw [h] at t5; cases t5), HMQ.out, Nat.add_zero])
                    go_wp2_with fail
                    go_quiet (fail)
                    go_wp2_with fail
                    go_roundw
                    case rel => exact ⟨q + 1, mq, by omega, by omega, rfl, by go_num, HNX, Lib.hid (Drew.more HDR.out _)⟩
                    case measure => simp [intOf]; omega
                  | true =>
                    cases t6 : (a1 == y) with
                    | false =>
                      have HNX : Hid (manyN S y (q + 1) = mq) := Lib.hid (by rw [manyN_succ, if_neg (by rw [HA1.out]; rintro ⟨_, h⟩; rw [h] at t6; simp at t6), HMQ.out, Nat.add_zero])
                      go_wp2_with fail
                      go_quiet (fail)
                      go_wp2_with fail
                      go_roundw
                      case rel => exact ⟨q + 1, mq, by omega, by omega, rfl, by go_num, HNX, Lib.hid (Drew.more HDR.out _)⟩
                      case measure => simp [intOf]; omega
                    | true =>
                      have HNX : Hid (manyN S y (q + 1) = mq + 1) := Lib.hid (by rw [manyN_succ, if_pos (by rw [HA0.out, HA1.out]; exact ⟨by simpa using t5, by simpa using t6⟩), HMQ.out])
                      go_wp2_with fail
                      go_quiet (fail)
                      go_wp2_with fail
                      go_roundw
                      case rel => exact ⟨q + 1, mq + 1, by omega, by omega, by go_num, by go_num, HNX, Lib.hid (Drew.more HDR.out _)⟩
                      case measure => simp [intOf]; omega
                · obtain rfl : q = 8 := by omega
                  obtain rfl : mq = tm := by have h := HV.out.acc.many HX.out; rw [HTAU.out, HMQ.out, HTM.out] at h; exact h
                  have g7' : decide (((8 : Nat) : Int) < 8) = false := decide_eq_false (by omega)
                  have HTI5 := Lib.hid (HTI.out.up (Drew.below HDR.out))
                  have HF5 := Lib.hid (HF9.out.up (Drew.below HDR.out))
                  have HB5 := Lib.hid (below_step HB4.out (Drew.below HDR.out))
                  clear HTI HF9 HB4 HG4 HDR HMQ
                  go_wp2_with fail
                  clear g7'
                  go_loopw [12, 15] (fun la j wr => ∃ (q : Nat) (l : Int), q ≤ mq ∧ la = .int .i64 l ∧ j = .int .i64 q ∧ Hid (∀ i n, q ≤ i → x.wait[i]? = some n → l < (S n.toNat).2.2) ∧ Hid (Drew v5 wr)) (fun _ j _ => mq - (intOf j).toNat)
                  case atStart => exact ⟨0, -1, Nat.zero_le _, rfl, rfl, Lib.hid (fun i n _ hn => by have := (HV.out.acc.tm n (wait_nums HX.out (List.mem_of_getElem? hn))).1; omega), Lib.hid (Drew.refl _)⟩
                  case round =>
                    as_aux_lemma =>
                      obtain ⟨q, l, hq, rfl, rfl, HLA, HDR⟩ := hrel
                      obtain ⟨v6, rfl⟩ : ∃ w3, w3 = wr := ⟨_, rfl⟩
                      have HG6 := Lib.hid (HG5.out.up (Drew.below HDR.out))
                      have HTI6 := Lib.hid (HTI5.out.up (Drew.below HDR.out))
                      have HI1 : Hid (IntKind.i64.wrap ((q : Int) + 1) = (q : Int) + 1) := Lib.hid (IntWalk.i64_in _ (by omega))
                      by_cases g7 : q < mq
                      · obtain ⟨n, hn⟩ : ∃ n, x.wait[q]? = some n := ⟨_, List.getElem?_eq_getElem (by rw [HTM.out]; exact g7)⟩
                        have hmem := List.mem_of_getElem? hn
                        obtain ⟨n8', hnn⟩ := HV.out.acc.nat (wait_nums HX.out hmem)
                        have hlt := HLA.out q n (Nat.le_refl _) hn
                        have hst := (HV.out.acc.wait_iff n8').2 (by rw [hnn]; exact mem_waits.2 ⟨x, HX.out, hmem⟩)
                        have htx := HV.out.acc.wt x HX.out n hmem
                        rw [HTAU.out] at htx
                        obtain ⟨tb, rfl, hcn⟩ := told_at HTI6.out hn
                        obtain ⟨s, hs⟩ : ∃ s, n.toNat = s := ⟨_, rfl⟩
                        rw [hs] at n8' hnn hlt hst htx
                        subst hnn
                        obtain ⟨lt, hlt2⟩ : ∃ lt, (S s).2.2 = lt := ⟨_, rfl⟩
                        obtain ⟨q0, q1, q2⟩ := HG6.out.cell n8'
                        obtain ⟨u0, u1, u2⟩ := HG6.out.cell hv8
                        have hy := HY.out
                        rw [hy] at u1
                        rw [hst] at q0
                        rw [htx] at q1
                        rw [hlt2] at q2 hlt
                        have HNX : Hid (∀ i n, q + 1 ≤ i → x.wait[i]? = some n → lt < (S n.toNat).2.2) := Lib.hid fun i n hi hin => by
                          have ho := HV.out.acc.ord x HX.out
                          obtain ⟨hi1, hi2⟩ := List.getElem?_eq_some_iff.1 hin
                          obtain ⟨hq1, hq2⟩ := List.getElem?_eq_some_iff.1 hn
                          have := List.pairwise_iff_getElem.1 ho q i hq1 hi1 (by omega)
                          rw [hi2, hq2, Int.toNat_natCast, hlt2] at this
                          exact this
                        have b1 : decide ((s : Int) < 0) = false := decide_eq_false (by omega)
                        have b2 : decide ((s : Int) > 7) = false := decide_eq_false (by omega)
                        have b2' : decide (7 < (s : Int)) = false := decide_eq_false (by omega)
                        have b3 : decide (lt ≤ l) = false := decide_eq_false (by omega)
                        have g7' : decide ((q : Int) < (mq : Int)) = true := decide_eq_true (by omega)
                        clear hn hmem hst htx hlt hs hlt2 hy
                        go_wp2_with fail
                        go_quiet (fail)
                        go_wp2_with fail
                        go_roundw
                        case rel => exact ⟨q + 1, lt, by omega, rfl, by go_num, HNX, Lib.hid (Drew.more HDR.out _)⟩
                        case measure => simp [intOf]; omega
                      · obtain rfl : q = mq := by omega
                        have g7' : decide ((q : Int) < (q : Int)) = false := decide_eq_false (by omega)
                        have HF6 := Lib.hid (HF5.out.up (Drew.below HDR.out))
                        have HB6 := Lib.hid (below_step HB5.out (Drew.below HDR.out))
                        clear HTI5 HF5 HB5 HG5 HDR HLA
                        go_wp2_with fail
                        clear g7'
                        go_loopw [17] (fun j wr => ∃ (i : Nat) (S2 : Nat → Tri), i ≤ q ∧ j = .int .i64 i ∧ Hid (Zeroed S S2 (x.wait.take i)) ∧ Hid (Gs wr wa.heap.size S2) ∧ Hid (IntsT wr ⟨⟨#[]⟩, ⟨#[]⟩, 0, x.wait, tB, td⟩) ∧ Hid (FillsNew (wa.heap.size + 1) wr A9 (ended F v)) ∧ Hid (Below w.heap.size w wr)) (fun j _ => q - (intOf j).toNat)
                        case atStart => exact ⟨0, S, Nat.zero_le _, rfl, Lib.hid (Zeroed.refl S), HG6, HTI6, HF6, HB6⟩
                        case round =>
                          obtain ⟨i, S2, hi, rfl, HZD, HG7, HTI7, HF7, HB7⟩ := hrel
                          obtain ⟨v7, rfl⟩ : ∃ w3, w3 = wr := ⟨_, rfl⟩
                          by_cases g8 : i < q
                          · obtain ⟨n, hn⟩ : ∃ n, x.wait[i]? = some n := ⟨_, List.getElem?_eq_getElem (by rw [HTM.out]; exact g8)⟩
                            obtain ⟨n8', hnn⟩ := HV.out.acc.nat (wait_nums HX.out (List.mem_of_getElem? hn))
                            obtain ⟨tb, rfl, hcn⟩ := told_at HTI7.out hn
                            obtain ⟨s, hs⟩ : ∃ s, n.toNat = s := ⟨_, rfl⟩
                            rw [hs] at n8' hnn
                            subst hnn
                            have HZ8 : Hid (Zeroed S (upd S2 s (0, (S2 s).2)) (x.wait.take (i + 1))) := Lib.hid (by rw [take_snoc hn]; exact HZD.out.more)
                            obtain ⟨q0, q1, q2⟩ := HG7.out.cell n8'
                            have fz := HG7.out.frozen (s * 3)
                            have HG8 := Lib.hid (HG7.out.set0 n8' 0)
                            have HTI8 := Lib.hid (HTI7.out.set HG7.out (s * 3) (.int .i64 0))
                            have HF8 := Lib.hid (HF7.out.set (s * 3) (.int .i64 0))
                            have HB8 := Lib.hid (HB7.out.setCell (p := ⟨wa.heap.size, s * 3, none⟩) HGS.out (.int .i64 0))
                            have g8' : decide ((i : Int) < (q : Int)) = true := decide_eq_true (by omega)
                            have HI1 : Hid (IntKind.i64.wrap ((i : Int) + 1) = (i : Int) + 1) := Lib.hid (IntWalk.i64_in _ (by omega))
                            clear hn hs
                            go_wp2_with fail
                            go_roundw
                            case rel => exact ⟨i + 1, _, by omega, by go_num, HZ8, HG8, HTI8, HF8, HB8⟩
                            case measure => simp [intOf]; omega
                          · obtain rfl : i = q := by omega
                            have g8' : decide ((i : Int) < (i : Int)) = false := decide_eq_false (by omega)
                            obtain ⟨q0, q1, q2⟩ := HG7.out.cell hv8
                            have fz := HG7.out.frozen (v * 3)
                            have HZ9 := Lib.hid (HZD.out.more (w := v))
                            have HG8 := Lib.hid (HG7.out.set0 hv8 0)
                            have HF8 := Lib.hid (HF7.out.set (v * 3) (.int .i64 0))
                            have HB8 := Lib.hid (HB7.out.setCell (p := ⟨wa.heap.size, v * 3, none⟩) HGS.out (.int .i64 0))
                            have HAC : Hid (Acc (ended F v) (upd S2 v (0, (S2 v).2)) ((k + 1 : Nat) : Int)) := Lib.hid (acc_cast (by
                              have h := HV.out.acc.done HX.out HZ9.out fun n => by
                                rw [List.take_of_length_le (by rw [HTM.out]; exact Nat.le_refl _), ← HXB.out]
                                simp [Fl.nums, or_comm]
                              rwa [HXB.out] at h))
                            go_wp2_with fail
                            go_roundw
                            case rel => exact ⟨k + 1, A9, n9, c9, ended F v, _, by omega, by omega, rfl, by go_num, Lib.hid ⟨HAC.out, HF8.out, HN9.out, HG8.out, HB8.out⟩⟩
                            case measure => simp [intOf]; omega
          · skip
            as_aux_lemma =>
              have HD : Hid (doneF F v = ([], [], 10)) := Lib.hid (doneF_none (rightB_iff.2 HGF.out.right) fun h => s1 ((HV.out.acc.by_iff hv8).2 h))
              clear u0 u1 u2
              go_wp2_with fail
              refine (idone_typ A8 F n8 c8 v _ _ HD.out HV.out.fls.at_ HV.out.len HGF.out.fit ⟨by omega, by omega⟩).mono ?_
              rintro e w4 ⟨tB, tm, td, A9, n9, c9, rfl, htm, htd, hti, hn9, hc9, hf9, hb9⟩
              have HG4 := Lib.hid (HV.out.gs.up hb9)
              have HF4 := Lib.hid (HV.out.fls.up hb9)
              have HB4 := Lib.hid (below_step HV.out.below hb9)
              clear htm hti hf9 hn9 hb9
              obtain ⟨u0, u1, u2⟩ := HG4.out.cell hv8
              obtain ⟨a0, ha0⟩ : ∃ a0, (S v).1 = a0 := ⟨_, rfl⟩
              rw [ha0] at u0 s1
              have t5 : (a0 == 1) = false := by simp [s1]
              clear ha0
              go_wp2_with fail
              go_roundw
              case rel => exact ⟨k + 1, A8, n8, c8, F, S, by omega, by omega, rfl, by go_num, Lib.hid ⟨acc_step HV.out.acc, HF4.out, HV.out.len, HG4.out, HB4.out⟩⟩
              case measure => simp [intOf]; omega
        · have t1 : (p == 4) = false := by simp [g4]
          by_cases g5 : p = 5
          · have t2 : (p == 5) = true := by simp [g5]
            clear g4 g5
            by_cases s1 : (S v).1 = 2
            · skip
              as_aux_lemma =>
                have hwt := (HV.out.acc.wait_iff hv8).1 s1
                have HD : Hid (leaveF F v = (gone F v, 0)) := Lib.hid (leaveF_some (rightB_iff.2 HGF.out.right) hwt)
                have HAC : Hid (Acc (gone F v) (upd S v (0, (S v).2)) ((k + 1 : Nat) : Int)) := Lib.hid (acc_cast (HV.out.acc.leave hwt))
                clear u0 u1 u2 hwt
                go_wp2_with fail
                refine (ileave3N A8 F n8 c8 v _ _ _ HD.out HV.out.fls.at_ HV.out.len HGF.out.fit ⟨by omega, by omega⟩).mono ?_
                rintro e w4 ⟨A9, n9, c9, rfl, hn9, hc9, hf9, hb9⟩
                have HF4 : Hid (FillsNew (wa.heap.size + 1) w4 A9 (gone F v)) := Lib.hid (hf9.less HV.out.gs.lt)
                have HN9 : Hid ((gone F v).length = n9) := Lib.hid hn9
                have HG4 := Lib.hid (HV.out.gs.up hb9)
                have HB4 := Lib.hid (below_step HV.out.below hb9)
                clear hf9 hn9 hb9
                obtain ⟨u0, u1, u2⟩ := HG4.out.cell hv8
                have fz := HG4.out.frozen (v * 3)
                rw [s1] at u0
                have HG8 := Lib.hid (HG4.out.set0 hv8 0)
                have HF8 := Lib.hid (HF4.out.set (v * 3) (.int .i64 0))
                have HB8 := Lib.hid (HB4.out.setCell (p := ⟨wa.heap.size, v * 3, none⟩) HGS.out (.int .i64 0))
                clear s1
                go_wp2_with fail
                go_roundw
                case rel => exact ⟨k + 1, A9, n9, c9, gone F v, _, by omega, by omega, rfl, by go_num, Lib.hid ⟨HAC.out, HF8.out, HN9.out, HG8.out, HB8.out⟩⟩
                case measure => simp [intOf]; omega
            · skip
              as_aux_lemma =>
                have HD : Hid (leaveF F v = ([], 10)) := Lib.hid (leaveF_none (rightB_iff.2 HGF.out.right) fun h => s1 ((HV.out.acc.wait_iff hv8).2 h))
                clear u0 u1 u2
                go_wp2_with fail
                refine (ileave3N A8 F n8 c8 v _ _ _ HD.out HV.out.fls.at_ HV.out.len HGF.out.fit ⟨by omega, by omega⟩).mono ?_
                rintro e w4 ⟨A9, n9, c9, rfl, hn9, hc9, hf9, hb9⟩
                have HG4 := Lib.hid (HV.out.gs.up hb9)
                have HF4 := Lib.hid (HV.out.fls.up hb9)
                have HB4 := Lib.hid (below_step HV.out.below hb9)
                clear hf9 hn9 hb9
                obtain ⟨u0, u1, u2⟩ := HG4.out.cell hv8
                obtain ⟨a0, ha0⟩ : ∃ a0, (S v).1 = a0 := ⟨_, rfl⟩
                rw [ha0] at u0 s1
                have t5 : (a0 == 2) = false := by simp [s1]
                clear ha0
                go_wp2_with fail
                go_roundw
                case rel => exact ⟨k + 1, A8, n8, c8, F, S, by omega, by omega, rfl, by go_num, Lib.hid ⟨acc_step HV.out.acc, HF4.out, HV.out.len, HG4.out, HB4.out⟩⟩
                case measure => simp [intOf]; omega
          · have t2 : (p == 5) = false := by simp [g5]
            clear g4 g5
            by_cases s1 : (S v).1 = 0
            · skip
              as_aux_lemma =>
                have hnn : (v : Int) ∉ P15.nums F := (HV.out.acc.none_iff hv8).1 s1
                cases hbt : hasT F (textOf t) txR with
                | true =>
                  as_aux_lemma =>
                    have HD : Hid (beginF F (textOf t) ⟨#[114]⟩ v = (false, joined F (textOf t) txR (v : Int), 0)) := Lib.hid (beginF_join (rightB_iff.2 HGF.out.right) hnn (hasT_iff.1 hbt))
                    have HAC : Hid (Acc (joined F (textOf t) txR (v : Int)) (upd S v (2, t, (k : Int))) ((k + 1 : Nat) : Int)) := Lib.hid (acc_cast (HV.out.acc.join hv8 hnn HTR.out (by omega) (hasT_iff.1 hbt)))
                    have HBT : Hid (busyN S t 8 = true) := Lib.hid (by rw [HV.out.acc.busy HTR.out]; exact hbt)
                    clear u0 u1 u2 hnn hbt
                    go_wp2_with fail
                    refine (text1_v t _ ⟨by have := HTR.out; omega, by have := HTR.out; omega⟩).mono ?_
                    rintro e wt ⟨rfl, hbt⟩
                    have HVF := Lib.hid (HV.out.fls.up hbt)
                    have HVG := Lib.hid (HV.out.gs.up hbt)
                    have HVB := Lib.hid (below_step HV.out.below hbt)
                    clear hbt
                    go_wp2_with fail
                    refine (ibegin3N A8 F n8 c8 (textOf t) ⟨#[114]⟩ v _ _ _ _ HD.out HVF.out.at_ HV.out.len HGF.out.fit ⟨by omega, by omega⟩ (textOf_txt _) (by decide)).mono ?_
                    rintro e w4 ⟨A9, n9, c9, rfl, hn9, hc9, hf9, hb9⟩
                    have HG4 := Lib.hid (HVG.out.up hb9)
                    have HF4 := Lib.hid (HVF.out.up hb9)
                    have HB4 := Lib.hid (below_step HVB.out hb9)
                    have HF9 : Hid (FillsNew (wa.heap.size + 1) w4 A9 (joined F (textOf t) txR (v : Int))) := Lib.hid (hf9.less HVG.out.lt)
                    have HN9 : Hid ((joined F (textOf t) txR (v : Int)).length = n9) := Lib.hid hn9
                    clear hf9 hn9 hb9 HVF HVG HVB HF4
                    obtain ⟨u0, u1, u2⟩ := HG4.out.cell hv8
                    rw [s1] at u0
                    clear s1
                    go_wp2_with fail
                    clear u0 u1 u2 t20 t1 t2
                    go_loopw [23, 24] (fun m j wr => ∃ (q : Nat) (bq : Bool), q ≤ 8 ∧ m = .bool bq ∧ j = .int .i64 q ∧ Hid (busyN S t q = bq) ∧ Hid (wr = w4)) (fun _ j _ => 8 - (intOf j).toNat)
                    case atStart => exact ⟨0, false, Nat.zero_le _, rfl, rfl, Lib.hid rfl, Lib.hid rfl⟩
                    case round =>
                      obtain ⟨q, bq, hq8, rfl, rfl, HBQ, HDR⟩ := hrel
                      obtain rfl := HDR.out
                      clear HDR
                      by_cases g7 : q < 8
                      · obtain ⟨q0, q1, q2⟩ := HG4.out.cell g7
                        obtain ⟨a0, ha0⟩ : ∃ a0, (S q).1 = a0 := ⟨_, rfl⟩
                        obtain ⟨a1, ha1⟩ : ∃ a1, (S q).2.1 = a1 := ⟨_, rfl⟩
                        rw [ha0] at q0
                        rw [ha1] at q1
                        have HNX : Hid (busyN S t (q + 1) = (bq || decide (a0 = 1 ∧ a1 = t))) := Lib.hid (by rw [busyN_succ, HBQ.out, ha0, ha1])
                        clear ha0 ha1
                        have g7' : decide ((q : Int) < 8) = true := decide_eq_true (by omega)
                        have HI1 : Hid (IntKind.i64.wrap ((q : Int) + 1) = (q : Int) + 1) := Lib.hid (IntWalk.i64_in _ (by omega))
                        cases bq with
                        | true =>
                          go_wp2_with fail
                          go_roundw
                          case rel => exact ⟨q + 1, true, by omega, rfl, by go_num, HNX, Lib.hid (by first | trivial | rfl)⟩
                          case measure => simp [intOf]; omega
                        | false =>
                          cases t5 : (a0 == 1) with
                          | false =>
                            have HN2 : Hid (busyN S t (q + 1) = false) := Lib.hid (by rw [HNX.out, Bool.false_or]; exact decide_eq_false (by rintro ⟨h, _⟩; rw [h] at t5; cases t5))
                            go_wp2_with fail
                            go_roundw
                            case rel => exact ⟨q + 1, false, by omega, rfl, by go_num, HN2, Lib.hid (by first | trivial | rfl)⟩
                            case measure => simp [intOf]; omega
                          | true =>
                            cases t6 : (a1 == t) with
                            | false =>
                              have HN2 : Hid (busyN S t (q + 1) = false) := Lib.hid (by rw [HNX.out, Bool.false_or]; exact decide_eq_false (by rintro ⟨_, h⟩; rw [h] at t6; simp at t6))
                              go_wp2_with fail
                              go_roundw
                              case rel => exact ⟨q + 1, false, by omega, rfl, by go_num, HN2, Lib.hid (by first | trivial | rfl)⟩
                              case measure => simp [intOf]; omega
                            | true =>
                              have HN2 : Hid (busyN S t (q + 1) = true) := Lib.hid (by rw [HNX.out, Bool.false_or]; exact decide_eq_true ⟨by simpa using t5, by simpa using t6⟩)
                              go_wp2_with fail
                              go_roundw
                              case rel => exact ⟨q + 1, true, by omega, rfl, by go_num, HN2, Lib.hid (by first | trivial | rfl)⟩
                              case measure => simp [intOf]; omega
                      · obtain rfl : q = 8 := by omega
                        obtain rfl : bq = true := HBQ.out.symm.trans HBT.out
                        have g7' : decide (((8 : Nat) : Int) < 8) = false := decide_eq_false (by omega)
                        obtain ⟨u0, u1, u2⟩ := HG4.out.cell hv8
                        have fz0 := HG4.out.frozen (v * 3)
                        have fz1 := HG4.out.frozen (v * 3 + 1)
                        have fz2 := HG4.out.frozen (v * 3 + 2)
                        have HG8 := Lib.hid (HG4.out.set3 hv8 1 t k)
                        have HF8 := Lib.hid (((HF9.out.set (v * 3) (.int .i64 1)).set (v * 3 + 1) (.int .i64 t)).set (v * 3 + 2) (.int .i64 k))
                        have HB8 := Lib.hid (((HB4.out.setCell (p := ⟨wa.heap.size, v * 3, none⟩) HGS.out (.int .i64 1)).setCell (p := ⟨wa.heap.size, v * 3 + 1, none⟩) HGS.out (.int .i64 t)).setCell (p := ⟨wa.heap.size, v * 3 + 2, none⟩) HGS.out (.int .i64 k))
                        clear HF9 HB4 HG4
                        go_upto_region 23 with (fail)
                        generalize (((wr.setCell ⟨wa.heap.size, v * 3, none⟩ (.int .i64 1)).setCell ⟨wa.heap.size, v * 3 + 1, none⟩ (.int .i64 t)).setCell ⟨wa.heap.size, v * 3 + 2, none⟩ (.int .i64 (k : Int))) = v8 at HG8 HF8 HB8 ⊢
                        obtain ⟨q0, q1, q2⟩ := HG8.out.cell hv8
                        have fz := HG8.out.frozen (v * 3)
                        have HG9 := Lib.hid (HG8.out.set0 hv8 2)
                        have HF9 := Lib.hid (HF8.out.set (v * 3) (.int .i64 2))
                        have HB9 := Lib.hid (HB8.out.setCell (p := ⟨wa.heap.size, v * 3, none⟩) HGS.out (.int .i64 2))
                        rw [upd_upd, upd_same] at HG9
                        go_wp2_with fail
                        go_roundw
                        case rel => exact ⟨k + 1, A9, n9, c9, joined F (textOf t) txR (v : Int), _, by omega, by omega, rfl, by go_num, Lib.hid ⟨HAC.out, HF9.out, HN9.out, HG9.out, HB9.out⟩⟩
                        case measure => simp [intOf]; omega
                | false =>
                  as_aux_lemma =>
                    have HD : Hid (beginF F (textOf t) ⟨#[114]⟩ v = (true, F ++ ([⟨textOf t, txR, (v : Int), []⟩] : List Fl), 0)) := Lib.hid (beginF_new (rightB_iff.2 HGF.out.right) hnn (fun h => by have h2 : hasT F (textOf t) txR = true := hasT_iff.2 h; rw [hbt] at h2; cases h2))
                    have HAC : Hid (Acc (F ++ ([⟨textOf t, txR, (v : Int), []⟩] : List Fl)) (upd S v (1, t, (k : Int))) ((k + 1 : Nat) : Int)) := Lib.hid (acc_cast (HV.out.acc.new hv8 hnn HTR.out (by omega) (fun h => by have h2 : hasT F (textOf t) txR = true := hasT_iff.2 h; rw [hbt] at h2; cases h2)))
                    have HBT : Hid (busyN S t 8 = false) := Lib.hid (by rw [HV.out.acc.busy HTR.out]; exact hbt)
                    clear u0 u1 u2 hnn hbt
                    go_wp2_with fail
                    refine (text1_v t _ ⟨by have := HTR.out; omega, by have := HTR.out; omega⟩).mono ?_
                    rintro e wt ⟨rfl, hbt⟩
                    have HVF := Lib.hid (HV.out.fls.up hbt)
                    have HVG := Lib.hid (HV.out.gs.up hbt)
                    have HVB := Lib.hid (below_step HV.out.below hbt)
                    clear hbt
                    go_wp2_with fail
                    refine (ibegin3N A8 F n8 c8 (textOf t) ⟨#[114]⟩ v _ _ _ _ HD.out HVF.out.at_ HV.out.len HGF.out.fit ⟨by omega, by omega⟩ (textOf_txt _) (by decide)).mono ?_
                    rintro e w4 ⟨A9, n9, c9, rfl, hn9, hc9, hf9, hb9⟩
                    have HG4 := Lib.hid (HVG.out.up hb9)
                    have HF4 := Lib.hid (HVF.out.up hb9)
                    have HB4 := Lib.hid (below_step HVB.out hb9)
                    have HF9 : Hid (FillsNew (wa.heap.size + 1) w4 A9 (F ++ ([⟨textOf t, txR, (v : Int), []⟩] : List Fl))) := Lib.hid (hf9.less HVG.out.lt)
                    have HN9 : Hid ((F ++ ([⟨textOf t, txR, (v : Int), []⟩] : List Fl)).length = n9) := Lib.hid hn9
                    clear hf9 hn9 hb9 HVF HVG HVB HF4
                    obtain ⟨u0, u1, u2⟩ := HG4.out.cell hv8
                    rw [s1] at u0
                    clear s1
                    go_wp2_with fail
                    clear u0 u1 u2 t20 t1 t2
                    go_loopw [23, 24] (fun m j wr => ∃ (q : Nat) (bq : Bool), q ≤ 8 ∧ m = .bool bq ∧ j = .int .i64 q ∧ Hid (busyN S t q = bq) ∧ Hid (wr = w4)) (fun _ j _ => 8 - (intOf j).toNat)
                    case atStart => exact ⟨0, false, Nat.zero_le _, rfl, rfl, Lib.hid rfl, Lib.hid rfl⟩
                    case round =>
                      obtain ⟨q, bq, hq8, rfl, rfl, HBQ, HDR⟩ := hrel
                      obtain rfl := HDR.out
                      clear HDR
                      by_cases g7 : q < 8
                      · obtain ⟨q0, q1, q2⟩ := HG4.out.cell g7
                        obtain ⟨a0, ha0⟩ : ∃ a0, (S q).1 = a0 := ⟨_, rfl⟩
                        obtain ⟨a1, ha1⟩ : ∃ a1, (S q).2.1 = a1 := ⟨_, rfl⟩
                        rw [ha0] at q0
                        rw [ha1] at q1
                        have HNX : Hid (busyN S t (q + 1) = (bq || decide (a0 = 1 ∧ a1 = t))) := Lib.hid (by rw [busyN_succ, HBQ.out, ha0, ha1])
                        clear ha0 ha1
                        have g7' : decide ((q : Int) < 8) = true := decide_eq_true (by omega)
                        have HI1 : Hid (IntKind.i64.wrap ((q : Int) + 1) = (q : Int) + 1) := Lib.hid (IntWalk.i64_in _ (by omega))
                        cases bq with
                        | true =>
                          go_wp2_with fail
                          go_roundw
                          case rel => exact ⟨q + 1, true, by omega, rfl, by go_num, HNX, Lib.hid (by first | trivial | rfl)⟩
                          case measure => simp [intOf]; omega
                        | false =>
                          cases t5 : (a0 == 1) with
                          | false =>
                            have HN2 : Hid (busyN S t (q + 1) = false) := Lib.hid (by rw [HNX.out, Bool.false_or]; exact decide_eq_false (by rintro ⟨h, _⟩; rw [h] at t5; cases t5))
                            go_wp2_with fail
                            go_roundw
                            case rel => exact ⟨q + 1, false, by omega, rfl, by go_num, HN2, Lib.hid (by first | trivial | rfl)⟩
                            case measure => simp [intOf]; omega
                          | true =>
                            cases t6 : (a1 == t) with
                            | false =>
                              have HN2 : Hid (busyN S t (q + 1) = false) := Lib.hid (by rw [HNX.out, Bool.false_or]; exact decide_eq_false (by rintro ⟨_, h⟩; rw [h] at t6; simp at t6))
                              go_wp2_with fail
                              go_roundw
                              case rel => exact ⟨q + 1, false, by omega, rfl, by go_num, HN2, Lib.hid (by first | trivial | rfl)⟩
                              case measure => simp [intOf]; omega
                            | true =>
                              have HN2 : Hid (busyN S t (q + 1) = true) := Lib.hid (by rw [HNX.out, Bool.false_or]; exact decide_eq_true ⟨by simpa using t5, by simpa using t6⟩)
                              go_wp2_with fail
                              go_roundw
                              case rel => exact ⟨q + 1, true, by omega, rfl, by go_num, HN2, Lib.hid (by first | trivial | rfl)⟩
                              case measure => simp [intOf]; omega
                      · obtain rfl : q = 8 := by omega
                        obtain rfl : bq = false := HBQ.out.symm.trans HBT.out
                        have g7' : decide (((8 : Nat) : Int) < 8) = false := decide_eq_false (by omega)
                        obtain ⟨u0, u1, u2⟩ := HG4.out.cell hv8
                        have fz0 := HG4.out.frozen (v * 3)
                        have fz1 := HG4.out.frozen (v * 3 + 1)
                        have fz2 := HG4.out.frozen (v * 3 + 2)
                        have HG8 := Lib.hid (HG4.out.set3 hv8 1 t k)
                        have HF8 := Lib.hid (((HF9.out.set (v * 3) (.int .i64 1)).set (v * 3 + 1) (.int .i64 t)).set (v * 3 + 2) (.int .i64 k))
                        have HB8 := Lib.hid (((HB4.out.setCell (p := ⟨wa.heap.size, v * 3, none⟩) HGS.out (.int .i64 1)).setCell (p := ⟨wa.heap.size, v * 3 + 1, none⟩) HGS.out (.int .i64 t)).setCell (p := ⟨wa.heap.size, v * 3 + 2, none⟩) HGS.out (.int .i64 k))
                        clear HF9 HB4 HG4
                        go_wp2_with fail
                        go_roundw
                        case rel => exact ⟨k + 1, A9, n9, c9, F ++ ([⟨textOf t, txR, (v : Int), []⟩] : List Fl), _, by omega, by omega, rfl, by go_num, Lib.hid ⟨HAC.out, HF8.out, HN9.out, HG8.out, HB8.out⟩⟩
                        case measure => simp [intOf]; omega
            · skip
              as_aux_lemma =>
                have hnn : (v : Int) ∈ P15.nums F := Classical.byContradiction fun h => s1 ((HV.out.acc.none_iff hv8).2 h)
                have HD : Hid (beginF F (textOf t) ⟨#[114]⟩ v = (false, [], 4)) := Lib.hid (beginF_twice (rightB_iff.2 HGF.out.right) hnn)
                clear u0 u1 u2 hnn
                go_wp2_with fail
                refine (text1_v t _ ⟨by have := HTR.out; omega, by have := HTR.out; omega⟩).mono ?_
                rintro e wt ⟨rfl, hbt⟩
                have HVF := Lib.hid (HV.out.fls.up hbt)
                have HVG := Lib.hid (HV.out.gs.up hbt)
                have HVB := Lib.hid (below_step HV.out.below hbt)
                clear hbt
                go_wp2_with fail
                refine (ibegin3N A8 F n8 c8 (textOf t) ⟨#[114]⟩ v _ _ _ _ HD.out HVF.out.at_ HV.out.len HGF.out.fit ⟨by omega, by omega⟩ (textOf_txt _) (by decide)).mono ?_
                rintro e w4 ⟨A9, n9, c9, rfl, hn9, hc9, hf9, hb9⟩
                have HG4 := Lib.hid (HVG.out.up hb9)
                have HF4 := Lib.hid (HVF.out.up hb9)
                have HB4 := Lib.hid (below_step HVB.out hb9)
                clear hf9 hn9 hb9
                obtain ⟨u0, u1, u2⟩ := HG4.out.cell hv8
                obtain ⟨a0, ha0⟩ : ∃ a0, (S v).1 = a0 := ⟨_, rfl⟩
                rw [ha0] at u0 s1
                have t5 : (a0 == 0) = false := by simp [s1]
                clear ha0
                go_wp2_with fail
                go_roundw
                case rel => exact ⟨k + 1, A8, n8, c8, F, S, by omega, by omega, rfl, by go_num, Lib.hid ⟨acc_step HV.out.acc, HF4.out, HV.out.len, HG4.out, HB4.out⟩⟩
                case measure => simp [intOf]; omega
      · obtain rfl : k = 30 := by omega
        have t20 : decide (((30 : Nat) : Int) < 30) = false := decide_eq_false (by omega)
        go_wp2_with fail
        refine (iright_any A8 F n8 c8 true (rightB_iff.2 HV.out.acc.good.right) _ HV.out.fls.at_ HV.out.len HV.out.acc.good.fit).mono ?_
        rintro e v10 ⟨rfl, hq⟩
        have HW10 := Lib.hid (below_step HV.out.below hq)
        clear hq
        go_wp2_with fail
        go_ret
        exact ⟨rfl, HW10.out⟩
    · obtain rfl : k = zs.length := by omega
      go_wp2_with fail
      refine (iright_any A8 F n8 c8 true (rightB_iff.2 HV.out.acc.good.right) _ HV.out.fls.at_ HV.out.len HV.out.acc.good.fit).mono ?_
      rintro e v10 ⟨rfl, hq⟩
      have HW10 := Lib.hid (below_step HV.out.below hq)
      clear hq
      go_wp2_with fail
      go_ret
      exact ⟨rfl, HW10.out⟩

end Go.Proofs.Ytllkegonhghkcaa
