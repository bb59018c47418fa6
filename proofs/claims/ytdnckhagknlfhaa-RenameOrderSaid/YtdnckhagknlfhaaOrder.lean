/-
  collatorlaw08.RenameOrder: it returns true. Nothing that was there is changed.
-/
import Derived.Test.YtdnckhagknlfhaaTree
import Derived.Test.YtdnckhagknlfhaaOwn
import Derived.Deep.RegionLaw
import Derived.Deep.DeepCutAuto
namespace Go.Proofs.Ytdnckhagknlfhaa
open Go.RowKit

theorem pick_nat (c : Int) (l : Nat) : ∃ r : Nat, pickI c ((l : Int) + 1) = (r : Int) ∧ r ≤ l := by
  have h := pickI_range c ((l : Int) + 1) (by omega)
  exact ⟨(pickI c ((l : Int) + 1)).toNat, by omega, by omega⟩
theorem pick11_at (c n : Int) (r : Nat) (w : World) (hc1 : -9223372036854775808 ≤ c) (hc2 : c ≤ 9223372036854775807) (hn : 0 < n) (hn2 : n ≤ 140737488355328) (hr : pickI c n = (r : Int)) :
    Calls Try.prog 11 #[.int .i64 c, .int .i64 n] w fun e w' => e = .returned (.int .i64 (r : Int)) ∧ w = w' := by
  rw [← hr]
  exact pick11_any c n w hc1 hc2 hn hn2
theorem TreeOk.turned {its : List It} (h : TreeOk its) (n : Nat) : FitI (its.drop n ++ its.take n) := by
  have hp := turn_perm its n
  refine ⟨by rw [← hp.length_eq]; exact h.fit.1, fun it hi => h.fit.2 it (hp.mem_iff.2 hi)⟩
/-- how many files there are among the first ones -/
def filesN (its : List It) (k : Nat) : Nat := (its.take k).countP fun it => decide (it.kind = 2)
theorem filesN_le (its : List It) (k : Nat) : filesN its k ≤ k := Nat.le_trans List.countP_le_length (List.length_take_le _ _)
theorem filesN_step {its : List It} {k : Nat} {it : It} (h : its[k]? = some it) : filesN its (k + 1) = filesN its k + if it.kind = 2 then 1 else 0 := by
  obtain ⟨hk, rfl⟩ := List.getElem?_eq_some_iff.1 h
  unfold filesN
  rw [List.take_succ_eq_append_getElem hk, List.countP_append]
  congr 1
  by_cases e : its[k].kind = 2 <;> simp [e]
theorem filesN_all (its : List It) : filesN its its.length = its.countP fun it => decide (it.kind = 2) := by unfold filesN; rw [List.take_of_length_le (Nat.le_refl _)]

set_option maxHeartbeats 8000000 in
set_option maxRecDepth 100000 in
theorem order_any (A B : Option Addr) (n m c d : Nat) (th x y : Int) (w : World) (t1 : -9223372036854775808 ≤ th) (t2 : th ≤ 9223372036854775807) (x1 : -9223372036854775808 ≤ x) (x2 : x ≤ 9223372036854775807) (y1 : -9223372036854775808 ≤ y) (y2 : y ≤ 9223372036854775807)
    (ha : ∀ W, Below w.heap.size w W → Calls Try.prog 15 #[.slice A n c] W (TreeCap W)) (hb : ∀ W, Below w.heap.size w W → Calls Try.prog 15 #[.slice B m d] W (TreeCap W)) :
    Calls Try.prog 6 #[.slice A n c, .slice B m d, .int .i64 th, .int .i64 x, .int .i64 y] w fun e w' => e = .returned (.bool true) ∧ Below w.heap.size w w' := by
  have HA := Lib.hid ha
  have HB := Lib.hid hb
  clear ha hb
  go_enter Try.func6, Try.ntmps6
  go_wp2_with fail
  refine (awake_any _).mono ?_
  rintro e w1 ⟨rfl, hB1⟩
  have HB1 := Lib.hid hB1
  clear hB1
  go_wp2_with fail
  refine (HA.out _ HB1.out).mono ?_
  rintro e w2 ⟨A1, c1, a, rfl, hI1, hO1, hB2, k1⟩
  have HI1 := Lib.hid hI1
  have HO1 := Lib.hid hO1
  have HB2 := Lib.hid (HB1.out.trans (hB2.mono HB1.out.size))
  clear hI1 hO1 hB2
  go_wp2_with fail
  refine (HB.out _ HB2.out).mono ?_
  rintro e w3 ⟨A2, c2, b, rfl, hI2, hO2, hB3, k2⟩
  have HI1' := Lib.hid (HI1.out.up hB3)
  have HI2 := Lib.hid hI2
  have HO2 := Lib.hid hO2
  have HB3 := Lib.hid (HB2.out.trans (hB3.mono HB2.out.size))
  clear hI2 hO2 hB3 HI1 HA HB HB1 HB2
  have la : a.length ≤ 200 := HO1.out.few
  have lb : b.length ≤ 200 := HO2.out.few
  go_wp2_with fail
  refine (pick11_any th 101 _ t1 t2 (by omega) (by omega)).mono ?_
  rintro e w4 ⟨rfl, rfl⟩
  obtain ⟨t, ht⟩ : ∃ t : Int, pickI th 101 = t := ⟨_, rfl⟩
  have rt := pickI_range th 101 (by omega)
  rw [ht] at rt ⊢
  obtain ⟨t3, t4⟩ := rt
  clear ht
  obtain ⟨p, hp, hpl⟩ := pick_nat x a.length
  obtain ⟨q, hq, hql⟩ := pick_nat y b.length
  have HP := Lib.hid hp
  have HQ := Lib.hid hq
  clear hp hq
  go_wp2_with fail
  refine (pick11_at _ _ p _ x1 x2 (by omega) (by omega) HP.out).mono ?_
  rintro e w' ⟨rfl, rfl⟩
  go_wp2_with fail
  refine (pick11_at _ _ q _ y1 y2 (by omega) (by omega) HQ.out).mono ?_
  rintro e w' ⟨rfl, rfl⟩
  clear HP HQ
  go_wp2_with fail
  -- a, turned
  obtain ⟨C, hC⟩ : ∃ C, C = a.drop p ++ a.take p := ⟨_, rfl⟩
  have hCl : C.length = a.length := by rw [hC, List.length_append, List.length_drop, List.length_take]; omega
  obtain ⟨A5, c5, w5, hr5, ho5⟩ := append_items (OwnI.nil w3.drew) (a.length - p) (c1 - p) ((HI1'.out.drop p c1 hpl k1).drew) (by rw [List.length_drop]) (a.drop p) rfl (by rw [List.length_drop]; omega)
  obtain ⟨A6, c6, w6, hr6, ho6⟩ := append_items ho5 p c1 ((HI1'.out.take p).drew.up ho5.2) (by rw [List.length_take]; omega) C hC (by omega)
  have HR5 := Lib.hid hr5
  have HR6 := Lib.hid hr6
  have HX1 := Lib.hid (HI1'.out.drew.up ho6.2)
  have HX2 := Lib.hid (HI2.out.drew.up ho6.2)
  have HXC := Lib.hid (ItemsAt.of_own ho6.1 rfl)
  have HB6 := Lib.hid ((below_drewN HB3.out 1).trans (ho6.2.mono HB3.out.size))
  have HCE := Lib.hid hC
  have hpc : p ≤ c1 := by omega
  have HCL := Lib.hid hCl
  clear hCl
  rw [List.length_drop] at HR5 HR6
  clear hr5 hr6 ho5 ho6 hC
  go_cut [17] (fun s wx => s = .slice A6 C.length c6 ∧ wx = w6)
  case first =>
    by_cases hcn : c1 = p
    · subst hcn
      have e0 : a.length - c1 = 0 := by omega
      rw [if_pos rfl, Nat.sub_self, e0] at HR5
      rw [e0] at HR6
      clear e0
      go_region_law ((first | (refine step_append_run2 HR5.out rfl rfl rfl ?_ ?_ ?_; (focus (simp [Act.eval]; done)); (focus (simp [Act.eval, Act.put]; done))) | (refine step_append_run2 HR6.out rfl rfl rfl ?_ ?_ ?_; (focus (simp [Act.eval]; done)); (focus (simp [Act.eval]; done)))))
      all_goals
        go_wp2_with fail
        go_meet
        exact ⟨rfl, rfl⟩
    · rw [if_neg hcn] at HR5
      go_region_law ((first | (refine step_append_run2 HR5.out rfl rfl rfl ?_ ?_ ?_; (focus (simp [Act.eval]; done)); (focus (simp [Act.eval, Act.put]; done))) | (refine step_append_run2 HR6.out rfl rfl rfl ?_ ?_ ?_; (focus (simp [Act.eval]; done)); (focus (simp [Act.eval]; done)))))
      all_goals
        go_wp2_with fail
        go_meet
        exact ⟨rfl, rfl⟩
  case rest =>
  obtain ⟨rfl, rfl⟩ := hcut
  clear HR5 HR6 HI1' HI2
  have HX1w : Hid (ItemsAt wc A1 a) := HX1
  clear HX1
  have k2' : b.length ≤ c2 := k2
  have HB6w : Hid (Below w.heap.size w wc) := HB6
  clear HB6
  go_wp2_with fail
  -- b, turned
  obtain ⟨D, hD⟩ : ∃ D, D = b.drop q ++ b.take q := ⟨_, rfl⟩
  have hDl : D.length = b.length := by rw [hD, List.length_append, List.length_drop, List.length_take]; omega
  obtain ⟨A7, c7, w7, hr7, ho7⟩ := append_items (OwnI.nil wc.drew) (b.length - q) (c2 - q) ((HX2.out.drop q c2 hql k2).drew) (by rw [List.length_drop]) (b.drop q) rfl (by rw [List.length_drop]; omega)
  obtain ⟨A8, c8, w8, hr8, ho8⟩ := append_items ho7 q c2 ((HX2.out.take q).drew.up ho7.2) (by rw [List.length_take]; omega) D hD (by omega)
  have HR7 := Lib.hid hr7
  have HR8 := Lib.hid hr8
  have HY1 := Lib.hid (HX1w.out.drew.up ho8.2)
  have HY2 := Lib.hid (HX2.out.drew.up ho8.2)
  have HYC := Lib.hid (HXC.out.drew.up ho8.2)
  have HYD := Lib.hid (ItemsAt.of_own ho8.1 rfl)
  have HB8 := Lib.hid ((below_drewN HB6w.out 1).trans (ho8.2.mono HB6w.out.size))
  have HDE := Lib.hid hD
  have hqc : q ≤ c2 := by omega
  have HDL := Lib.hid hDl
  clear hDl
  rw [List.length_drop] at HR7 HR8
  clear hr7 hr8 ho7 ho8 hD
  go_cut [18] (fun s wx => s = .slice A8 D.length c8 ∧ wx = w8)
  case first =>
    by_cases hcn : c2 = q
    · subst hcn
      have e0 : b.length - c2 = 0 := by omega
      rw [if_pos rfl, Nat.sub_self, e0] at HR7
      rw [e0] at HR8
      clear e0
      go_region_law ((first | (refine step_append_run2 HR7.out rfl rfl rfl ?_ ?_ ?_; (focus (simp [Act.eval]; done)); (focus (simp [Act.eval, Act.put]; done))) | (refine step_append_run2 HR8.out rfl rfl rfl ?_ ?_ ?_; (focus (simp [Act.eval]; done)); (focus (simp [Act.eval]; done)))))
      all_goals
        go_simp
        go_wp2_with fail
        go_meet
        exact ⟨rfl, rfl⟩
    · rw [if_neg hcn] at HR7
      go_region_law ((first | (refine step_append_run2 HR7.out rfl rfl rfl ?_ ?_ ?_; (focus (simp [Act.eval]; done)); (focus (simp [Act.eval, Act.put]; done))) | (refine step_append_run2 HR8.out rfl rfl rfl ?_ ?_ ?_; (focus (simp [Act.eval]; done)); (focus (simp [Act.eval]; done)))))
      all_goals
        go_simp
        go_wp2_with fail
        go_meet
        exact ⟨rfl, rfl⟩
  case rest =>
  obtain ⟨rfl, rfl⟩ := hcut
  have ZY1 : Hid (ItemsAt wc A1 a) := HY1
  have ZYC : Hid (ItemsAt wc A6 C) := HYC
  have ZY2 : Hid (ItemsAt wc A2 b) := HY2
  have ZYD : Hid (ItemsAt wc A8 D) := HYD
  have ZB : Hid (Below w.heap.size w wc) := HB8
  have HFC : Hid (FitI C) := Lib.hid (by rw [HCE.out]; exact HO1.out.turned p)
  have HFD : Hid (FitI D) := Lib.hid (by rw [HDE.out]; exact HO2.out.turned q)
  have HN1 : Hid ((a.map It.path).Nodup) := Lib.hid (once_nodup HO1.out.once)
  have HN2 : Hid ((b.map It.path).Nodup) := Lib.hid (once_nodup HO2.out.once)
  have HM1 : Hid (∀ z, z ∈ fl a ↔ z ∈ fl C) := Lib.hid (by rw [HCE.out]; exact fl_perm HN1.out (turn_perm a p))
  have HM2 : Hid (∀ z, z ∈ fl b ↔ z ∈ fl D) := Lib.hid (by rw [HDE.out]; exact fl_perm HN2.out (turn_perm b q))
  have hCl2 : C.length ≤ 200 := by have := HCL.out; omega
  have hDl2 : D.length ≤ 200 := by have := HDL.out; omega
  clear HR7 HR8 HX1w HX2 HXC HB6w HY1 HY2 HYC HYD HB8 HCE HDE
  go_wp2_with fail
  refine (pairs_told A1 A6 a C a.length C.length c1 c6 t _ ZY1.out ZYC.out rfl rfl HO1.out.fit HFC.out).mono ?_
  rintro e w9 ⟨A9, c9, own, rfl, hPo, hLo, hB9, hon⟩
  have hown := own_pairs (fl_nodup HN1.out) (by omega) (hPo.congr (CandM.congr (fun _ => Iff.rfl) (fun z => (HM1.out z).symm)))
  rw [fl_len HN1.out, ← filesN_all] at hown
  have HO100 := Lib.hid hown.1
  have HOL := Lib.hid hown.2
  have HLO := Lib.hid hLo
  have U1 := Lib.hid (ZY1.out.up hB9)
  have U2 := Lib.hid (ZY2.out.up hB9)
  have UC := Lib.hid (ZYC.out.up hB9)
  have UD := Lib.hid (ZYD.out.up hB9)
  have UB := Lib.hid (ZB.out.trans (hB9.mono ZB.out.size))
  have hol : own.length ≤ 200 := by omega
  clear hPo hLo hB9 hown hon ZY1 ZY2 ZYC ZYD ZB
  go_wp2_with fail
  go_loop [20, 21] (fun f i => ∃ k : Nat, k ≤ a.length ∧ i = .int .i64 k ∧ f = .int .i64 (filesN a k)) (fun _ i => a.length - (intOf i).toNat)
  case atStart => exact ⟨0, Nat.zero_le _, rfl, rfl⟩
  case round =>
    obtain ⟨k, hk, rfl, rfl⟩ := hrel
    have hfk := filesN_le a k
    by_cases g1 : k < a.length
    · obtain ⟨it, hit⟩ : ∃ it, a[k]? = some it := ⟨_, List.getElem?_eq_getElem g1⟩
      obtain ⟨ad, rfl, hal, _, q1, _, _⟩ := U1.out.at_ hit
      have HS := Lib.hid (filesN_step hit)
      clear hit
      by_cases g2 : it.kind = 2
      · have g3 : ((it.kind : Int) == 2) = true := by rw [g2]; rfl
        have HS2 : Hid (filesN a (k + 1) = filesN a k + 1) := Lib.hid (by rw [HS.out, if_pos g2])
        clear g2 HS
        go_wp2_with fail
        go_round
        case rel => exact ⟨k + 1, by omega, by go_num, by rw [HS2.out]; go_num⟩
        case measure => simp [intOf]; omega
      · have g3 : ((it.kind : Int) == 2) = false := by rw [beq_eq_false_iff_ne]; exact g2
        have HS2 : Hid (filesN a (k + 1) = filesN a k) := Lib.hid (by rw [HS.out, if_neg g2]; rfl)
        clear g2 HS
        go_wp2_with fail
        go_round
        case rel => exact ⟨k + 1, by omega, by go_num, by rw [HS2.out]⟩
        case measure => simp [intOf]; omega
    · have hka : k = a.length := by omega
      subst hka
      obtain ⟨N, hN⟩ : ∃ N, filesN a a.length = N := ⟨_, rfl⟩
      have HOL2 : Hid (own.length = N) := Lib.hid (by rw [← hN]; exact HOL.out)
      rw [hN]
      clear hN HOL hfk
      go_wp2_with fail
      go_loop [22] (fun i => ∃ k : Nat, k ≤ own.length ∧ i = .int .i64 k) (fun i => own.length - (intOf i).toNat)
      case atStart => exact ⟨0, Nat.zero_le _, rfl⟩
      case round =>
        obtain ⟨k, hk, rfl⟩ := hrel
        by_cases g1 : k < own.length
        · obtain ⟨pr, hpr⟩ : ∃ pr, own[k]? = some pr := ⟨_, List.getElem?_eq_getElem g1⟩
          obtain ⟨ad, rfl, hal, hca⟩ := HLO.out (by intro e; subst e; simp at hpr)
          obtain ⟨q0, q1, q2⟩ := hca k pr hpr
          have hsc : pr.sc = 100 := HO100.out pr (List.mem_of_getElem? hpr)
          rw [hsc] at q2
          clear hca hpr hsc q0 q1
          go_wp2_with fail
          go_round
          case rel => exact ⟨k + 1, by omega, by go_num⟩
          case measure => simp [intOf]; omega
        · go_wp2_with fail
          refine (pairs_told A1 A2 a b a.length b.length c1 c2 t _ U1.out U2.out rfl rfl HO1.out.fit HO2.out.fit).mono ?_
          rintro e w10 ⟨A10, c10, L1, rfl, hP1, hL1, hB10, hl1⟩
          have HP1 := Lib.hid hP1
          have HL1 := Lib.hid hL1
          have VC := Lib.hid (UC.out.up hB10)
          have VD := Lib.hid (UD.out.up hB10)
          have VB := Lib.hid (UB.out.trans (hB10.mono UB.out.size))
          have hl1' : L1.length ≤ 200 := by omega
          clear hP1 hL1 hB10 hl1
          go_wp2_with fail
          refine (pairs_told A6 A8 C D C.length D.length c6 c8 t _ VC.out VD.out rfl rfl HFC.out HFD.out).mono ?_
          rintro e w11 ⟨A11, c11, L2, rfl, hP2, hL2, hB11, hl2⟩
          have hLL : L2 = L1 := hP2.unique (HP1.out.congr (CandM.congr HM1.out HM2.out))
          subst hLL
          have HL2 := Lib.hid hL2
          have HL1' := Lib.hid (HL1.out.up hB11)
          have VB2 := Lib.hid (VB.out.trans (hB11.mono VB.out.size))
          clear hP2 hL2 hB11 hl2
          go_wp2_with fail
          refine (same_true A10 A11 L2 L2.length L2.length c10 c11 _ HL1'.out HL2.out rfl rfl (by omega)).mono ?_
          rintro e w12 ⟨rfl, qq, rfl⟩
          have hNN : ((own.length : Int) == (N : Int)) = true := by rw [HOL2.out]; simp
          go_wp2_with fail
          go_ret
          exact ⟨rfl, below_drewN VB2.out qq⟩

end Go.Proofs.Ytdnckhagknlfhaa
