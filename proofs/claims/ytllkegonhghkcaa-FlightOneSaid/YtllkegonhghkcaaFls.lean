/-
  collatorlaw15.Fills: fills of raw deeds. Nothing that was there is changed.
-/
import Derived.Test.YtllkegonhghkcaaFst
import Derived.IntWalk
namespace Go.Proofs.Ytllkegonhghkcaa
open Go.RowKit P15

theorem deedF_beg {f N0 : List Fl} {z : Tri} {who q e0 : Int} {b0 : Bool} (h1 : ¬ pickI z.1 6 = 4) (h2 : ¬ pickI z.1 6 = 5) (hw : pickI z.2.1 8 = who) (hq : z.2.2.tdiv 6 = q) (hb : beginF f (textOf z.2.2) (textOf q) who = (b0, N0, e0)) : deedF f z = if e0 = 0 then N0 else f := by
  unfold deedF
  rw [if_neg h1, if_neg h2, hw, hq, hb]
theorem deedF_don {f N0 : List Fl} {z : Tri} {who e0 : Int} {l0 : List Int} (h1 : pickI z.1 6 = 4) (hw : pickI z.2.1 8 = who) (hb : doneF f who = (l0, N0, e0)) : deedF f z = if e0 = 0 then N0 else f := by
  unfold deedF
  rw [if_pos h1, hw, hb]
theorem deedF_lea {f N0 : List Fl} {z : Tri} {who e0 : Int} (h1 : ¬ pickI z.1 6 = 4) (h2 : pickI z.1 6 = 5) (hw : pickI z.2.1 8 = who) (hb : leaveF f who = (N0, e0)) : deedF f z = if e0 = 0 then N0 else f := by
  unfold deedF
  rw [if_neg h1, if_pos h2, hw, hb]
theorem tdiv_i64 {n : Int} (h : I64 n) : I64 (n.tdiv 6) := by
  unfold I64 at *
  by_cases h0 : 0 ≤ n
  · rw [Int.tdiv_eq_ediv_of_nonneg h0]; omega
  · have e : n.tdiv 6 = -((-n).tdiv 6) := by rw [Int.neg_tdiv]; omega
    rw [e, Int.tdiv_eq_ediv_of_nonneg (by omega)]; omega
/-- between two rounds -/
structure FillsIn (w wr : World) (zs : List Tri) (k : Nat) (f : List Fl) (Ao : Option Addr) (m co : Nat) : Prop where
  at_ : FillsAt wr Ao f
  len : f.length = m
  cap : m ≤ co
  eq : f = fillsN zs k
  below : Below w.heap.size w wr

set_option maxHeartbeats 8000000 in
set_option maxRecDepth 100000 in
theorem fills_any (A : Option Addr) (zs : List Tri) (n c : Nat) (w : World) (ha : TrisAt w A zs) (hn : zs.length = n) (h1 : n ≤ 9223372036854775807) (hf : ∀ z ∈ zs, TriFit z) :
    Calls Try.prog 9 #[.slice A n c] w (FillsTold (fillsOf zs) w) := by
  subst hn
  have HA := Lib.hid ha
  have HF := Lib.hid hf
  clear ha hf
  go_enter Try.func9, Try.ntmps9
  go_wp2_with fail
  go_loopw [3, 4] (fun v i wr => ∃ (k : Nat) (f : List Fl) (m : Nat) (Ao : Option Addr) (co : Nat), k ≤ zs.length ∧ k ≤ 20 ∧ v = .slice Ao m co ∧ i = .int .i64 k ∧ Hid (FillsIn w wr zs k f Ao m co)) (fun _ i _ => 20 - (intOf i).toNat)
  case atStart => exact ⟨0, [], 0, none, 0, Nat.zero_le _, Nat.zero_le _, rfl, rfl, Lib.hid ⟨FillsAt.nil, rfl, Nat.le_refl _, rfl, Below.refl _ _⟩⟩
  case round =>
    obtain ⟨k, f, m, Ao, co, hk, hk2, rfl, rfl, HV⟩ := hrel
    obtain ⟨v3, rfl⟩ : ∃ w3, w3 = wr := ⟨_, rfl⟩
    by_cases g1 : k < zs.length
    · by_cases g2 : k < 20
      · obtain ⟨z, hz⟩ : ∃ z, zs[k]? = some z := ⟨_, List.getElem?_eq_getElem g1⟩
        obtain ⟨a, rfl, hal, hcell⟩ := tri_cells (HA.out.up HV.out.below) hz
        have HZC := Lib.hid hcell
        obtain ⟨t0, t1, t2⟩ := hcell v3 (Below.refl _ _)
        have htf := HF.out z (List.mem_of_getElem? hz)
        have HX := Lib.hid hz
        have HT0 := Lib.hid htf.1
        have HT1 := Lib.hid htf.2.1
        have HT2 := Lib.hid htf.2.2
        have HFA := Lib.hid HV.out.at_
        have HM := Lib.hid HV.out.len
        have HE := Lib.hid HV.out.eq.symm
        have hgood : GoodF f := by rw [HV.out.eq]; exact fillsN_good zs k
        have HFT := Lib.hid hgood.fit
        clear hz hcell htf hgood
        obtain ⟨who, hwho⟩ : ∃ who, pickI z.2.1 8 = who := ⟨_, rfl⟩
        have HWH := Lib.hid hwho
        obtain ⟨p, hp⟩ : ∃ p, pickI z.1 6 = p := ⟨_, rfl⟩
        have HPP := Lib.hid hp
        have t20 : decide ((k : Int) < 20) = true := decide_eq_true (by omega)
        clear hwho hp
        go_wp2_with fail
        refine (pick15_v z.2.1 8 who HWH.out _ HT1.out (by omega) (by omega)).mono ?_
        rintro e w' ⟨rfl, rfl⟩
        go_wp2_with fail
        refine (pick15_v z.1 6 p HPP.out _ HT0.out (by omega) (by omega)).mono ?_
        rintro e w' ⟨rfl, rfl⟩
        clear t0 t1 t2
        by_cases g4 : p = 4
        · have t1 : (p == 4) = true := by simp [g4]
          have HP : Hid (pickI z.1 6 = 4) := Lib.hid (by rw [HPP.out, g4])
          obtain ⟨l0, N0, e0, hbg⟩ : ∃ l0 N0 e0, doneF f who = (l0, N0, e0) := ⟨_, _, _, rfl⟩
          have HBG := Lib.hid hbg
          clear g4 hbg
          go_wp2_with fail
          refine (rdone3 Ao f m co who _ N0 e0 l0 HBG.out HFA.out HM.out HV.out.cap HFT.out).mono ?_
          rintro e w4 ⟨B8, m8, d8, A8, n8, c8, rfl, _, _, _, hn8, hc8, hf8, hb8⟩
          have HFN := Lib.hid hf8
          have HNN := Lib.hid hn8
          have HBE := Lib.hid hb8
          clear hn8 hf8 hb8
          cases t5 : (e0 == 0) with
          | true =>
            have HNX : Hid (fillsN zs (k + 1) = N0) := Lib.hid (by rw [fillsN_snoc HX.out, HE.out, deedF_don HP.out HWH.out HBG.out, if_pos (by simpa using t5)])
            go_wp2_with fail
            go_roundw
            case rel => exact ⟨k + 1, N0, n8, A8, c8, by omega, by omega, rfl, by go_num, Lib.hid ⟨HFN.out, HNN.out, hc8, HNX.out.symm, HV.out.below.trans (HBE.out.mono HV.out.below.size)⟩⟩
            case measure => simp [intOf]; omega
          | false =>
            have HNX : Hid (fillsN zs (k + 1) = f) := Lib.hid (by rw [fillsN_snoc HX.out, HE.out, deedF_don HP.out HWH.out HBG.out, if_neg (by intro h; rw [h] at t5; cases t5)])
            go_wp2_with fail
            go_roundw
            case rel => exact ⟨k + 1, f, m, Ao, co, by omega, by omega, rfl, by go_num, Lib.hid ⟨HFA.out.up HBE.out, HM.out, HV.out.cap, HNX.out.symm, HV.out.below.trans (HBE.out.mono HV.out.below.size)⟩⟩
            case measure => simp [intOf]; omega
        · have t1 : (p == 4) = false := by simp [g4]
          by_cases g5 : p = 5
          · have t2 : (p == 5) = true := by simp [g5]
            have HP : Hid (¬ pickI z.1 6 = 4 ∧ pickI z.1 6 = 5) := Lib.hid (by rw [HPP.out]; exact ⟨g4, g5⟩)
            obtain ⟨N0, e0, hbg⟩ : ∃ N0 e0, leaveF f who = (N0, e0) := ⟨_, _, rfl⟩
            have HBG := Lib.hid hbg
            clear g4 g5 hbg
            go_wp2_with fail
            refine (rleave3 Ao f m co who _ N0 e0 HBG.out HFA.out HM.out HFT.out).mono ?_
            rintro e w4 ⟨A8, n8, c8, rfl, hn8, hc8, hf8, hb8⟩
            have HFN := Lib.hid hf8
            have HNN := Lib.hid hn8
            have HBE := Lib.hid hb8
            clear hn8 hf8 hb8
            cases t5 : (e0 == 0) with
            | true =>
              have HNX : Hid (fillsN zs (k + 1) = N0) := Lib.hid (by rw [fillsN_snoc HX.out, HE.out, deedF_lea HP.out.1 HP.out.2 HWH.out HBG.out, if_pos (by simpa using t5)])
              go_wp2_with fail
              go_roundw
              case rel => exact ⟨k + 1, N0, n8, A8, c8, by omega, by omega, rfl, by go_num, Lib.hid ⟨HFN.out, HNN.out, hc8, HNX.out.symm, HV.out.below.trans (HBE.out.mono HV.out.below.size)⟩⟩
              case measure => simp [intOf]; omega
            | false =>
              have HNX : Hid (fillsN zs (k + 1) = f) := Lib.hid (by rw [fillsN_snoc HX.out, HE.out, deedF_lea HP.out.1 HP.out.2 HWH.out HBG.out, if_neg (by intro h; rw [h] at t5; cases t5)])
              go_wp2_with fail
              go_roundw
              case rel => exact ⟨k + 1, f, m, Ao, co, by omega, by omega, rfl, by go_num, Lib.hid ⟨HFA.out.up HBE.out, HM.out, HV.out.cap, HNX.out.symm, HV.out.below.trans (HBE.out.mono HV.out.below.size)⟩⟩
              case measure => simp [intOf]; omega
          · have t2 : (p == 5) = false := by simp [g5]
            have HP : Hid (¬ pickI z.1 6 = 4 ∧ ¬ pickI z.1 6 = 5) := Lib.hid (by rw [HPP.out]; exact ⟨g4, g5⟩)
            obtain ⟨q, hq⟩ : ∃ q, z.2.2.tdiv 6 = q := ⟨_, rfl⟩
            have HQT := Lib.hid hq
            have HQ : Hid (z.2.2.tdiv 6 = q) := Lib.hid hq
            have HQW : Hid (IntKind.i64.wrap q = q) := Lib.hid (IntWalk.i64_in _ (by have := tdiv_i64 HT2.out; rw [hq] at this; unfold I64 at this; omega))
            have HTQ : Hid (I64 q) := Lib.hid (by rw [← hq]; exact tdiv_i64 HT2.out)
            obtain ⟨b0, N0, e0, hbg⟩ : ∃ b0 N0 e0, beginF f (textOf z.2.2) (textOf q) who = (b0, N0, e0) := ⟨_, _, _, rfl⟩
            have HBG := Lib.hid hbg
            have HZ2 : Hid (∀ W, Below v3.heap.size v3 W → W.cell? ⟨(a.add (k * 3)).block, (a.add (k * 3)).off + 2, none⟩ = some (.int .i64 z.2.2)) := Lib.hid fun W hW => (HZC.out W hW).2.2
            clear g4 g5 hq hbg
            go_wp2_with fail
            refine wp_region_noPanic ?_
            refine wp_region_held_drew (S := fun W => Below v3.heap.size v3 W) (by kernel_rfl) ((Below.refl v3.heap.size v3).drew) (fun hS0 => ?_)
            change wpAnyH _ _ _ _ _ 23 #[false, false, false, false, false, false, false, false, false, false, false, false, false, false, false, false, false, false, false, false, false, false, false] _ (World.drew _)
            refine wpAnyH_take (i := 0) (v := .slice Ao m co) rfl (by kernel_rfl) (by kernel_rfl) (by kernel_rfl) (fun _ _ _ h => h) (Or.inl ⟨by rfl, fun w' hS' => by go_simp⟩) hS0 ?_
            change wpAnyH _ _ _ _ _ _ _ (Act.put _ (some 37) (.slice Ao m co)) _
            simp only [Act.put, List.setIfInBounds_toArray, List.set_cons_zero, List.set_cons_succ]
            refine wpAnyH_take (i := 1) (v := .slice (some a) zs.length c) rfl (by kernel_rfl) (by kernel_rfl) (by kernel_rfl) (fun _ _ _ h => h) (Or.inl ⟨by rfl, fun w' hS' => by go_simp⟩) hS0 ?_
            change wpAnyH _ _ _ _ _ _ _ (Act.put _ (some 38) (.slice (some a) zs.length c)) _
            simp only [Act.put, List.setIfInBounds_toArray, List.set_cons_zero, List.set_cons_succ]
            refine wpAnyH_take (i := 2) (v := .int .i64 (k : Int)) rfl (by kernel_rfl) (by kernel_rfl) (by kernel_rfl) (fun _ _ _ h => h) (Or.inl ⟨by rfl, fun w' hS' => by go_simp⟩) hS0 ?_
            change wpAnyH _ _ _ _ _ _ _ (Act.put _ (some 39) (.int .i64 (k : Int))) _
            simp only [Act.put, List.setIfInBounds_toArray, List.set_cons_zero, List.set_cons_succ]
            refine wpAnyH_take (i := 3) (v := .pointer (some (a.add (k * 3)))) rfl (by kernel_rfl) (by kernel_rfl) (by kernel_rfl) (fun _ _ _ h => h) (Or.inl ⟨by rfl, fun w' hS' => by go_simp⟩) hS0 ?_
            change wpAnyH _ _ _ _ _ _ _ (Act.put _ (some 40) (.pointer (some (a.add (k * 3))))) _
            simp only [Act.put, List.setIfInBounds_toArray, List.set_cons_zero, List.set_cons_succ]
            refine wpAnyH_take (i := 4) (v := .pointer (some ⟨(a.add (k * 3)).block, (a.add (k * 3)).off + 2, none⟩)) rfl (by kernel_rfl) (by kernel_rfl) (by kernel_rfl) (fun _ _ _ h => h) (Or.inl ⟨by rfl, fun w' hS' => by go_simp⟩) hS0 ?_
            change wpAnyH _ _ _ _ _ _ _ (Act.put _ (some 41) (.pointer (some ⟨(a.add (k * 3)).block, (a.add (k * 3)).off + 2, none⟩))) _
            simp only [Act.put, List.setIfInBounds_toArray, List.set_cons_zero, List.set_cons_succ]
            refine wpAnyH_take (i := 5) (v := .int .i64 z.2.2) rfl (by kernel_rfl) (by kernel_rfl) (by kernel_rfl) (fun _ _ _ h => h) (Or.inl ⟨by rfl, fun w' hS' => by have y2 := HZ2.out w' hS'; go_simp⟩) hS0 ?_
            change wpAnyH _ _ _ _ _ _ _ (Act.put _ (some 42) (.int .i64 z.2.2)) _
            simp only [Act.put, List.setIfInBounds_toArray, List.set_cons_zero, List.set_cons_succ]
            refine wpAnyH_take (i := 7) (v := .slice (some a) zs.length c) rfl (by kernel_rfl) (by kernel_rfl) (by kernel_rfl) (fun _ _ _ h => h) (Or.inl ⟨by rfl, fun w' hS' => by go_simp⟩) hS0 ?_
            change wpAnyH _ _ _ _ _ _ _ (Act.put _ (some 44) (.slice (some a) zs.length c)) _
            simp only [Act.put, List.setIfInBounds_toArray, List.set_cons_zero, List.set_cons_succ]
            refine wpAnyH_take (i := 8) (v := .int .i64 (k : Int)) rfl (by kernel_rfl) (by kernel_rfl) (by kernel_rfl) (fun _ _ _ h => h) (Or.inl ⟨by rfl, fun w' hS' => by go_simp⟩) hS0 ?_
            change wpAnyH _ _ _ _ _ _ _ (Act.put _ (some 45) (.int .i64 (k : Int))) _
            simp only [Act.put, List.setIfInBounds_toArray, List.set_cons_zero, List.set_cons_succ]
            refine wpAnyH_take (i := 9) (v := .pointer (some (a.add (k * 3)))) rfl (by kernel_rfl) (by kernel_rfl) (by kernel_rfl) (fun _ _ _ h => h) (Or.inl ⟨by rfl, fun w' hS' => by go_simp⟩) hS0 ?_
            change wpAnyH _ _ _ _ _ _ _ (Act.put _ (some 46) (.pointer (some (a.add (k * 3))))) _
            simp only [Act.put, List.setIfInBounds_toArray, List.set_cons_zero, List.set_cons_succ]
            refine wpAnyH_take (i := 10) (v := .pointer (some ⟨(a.add (k * 3)).block, (a.add (k * 3)).off + 2, none⟩)) rfl (by kernel_rfl) (by kernel_rfl) (by kernel_rfl) (fun _ _ _ h => h) (Or.inl ⟨by rfl, fun w' hS' => by go_simp⟩) hS0 ?_
            change wpAnyH _ _ _ _ _ _ _ (Act.put _ (some 47) (.pointer (some ⟨(a.add (k * 3)).block, (a.add (k * 3)).off + 2, none⟩))) _
            simp only [Act.put, List.setIfInBounds_toArray, List.set_cons_zero, List.set_cons_succ]
            refine wpAnyH_take (i := 11) (v := .int .i64 z.2.2) rfl (by kernel_rfl) (by kernel_rfl) (by kernel_rfl) (fun _ _ _ h => h) (Or.inl ⟨by rfl, fun w' hS' => by have y2 := HZ2.out w' hS'; go_simp⟩) hS0 ?_
            change wpAnyH _ _ _ _ _ _ _ (Act.put _ (some 48) (.int .i64 z.2.2)) _
            simp only [Act.put, List.setIfInBounds_toArray, List.set_cons_zero, List.set_cons_succ]
            refine wpAnyH_take (i := 12) (v := .int .i64 q) rfl (by kernel_rfl) (by kernel_rfl) (by kernel_rfl) (fun _ _ _ h => h) (Or.inl ⟨by rfl, fun w' hS' => by have hq9 := HQ.out; go_simp; exact HQW.out⟩) hS0 ?_
            change wpAnyH _ _ _ _ _ _ _ (Act.put _ (some 49) (.int .i64 q)) _
            simp only [Act.put, List.setIfInBounds_toArray, List.set_cons_zero, List.set_cons_succ]
            refine wpAnyH_take (i := 14) (v := .int .i64 who) rfl (by kernel_rfl) (by kernel_rfl) (by kernel_rfl) (fun _ _ _ h => h) (Or.inl ⟨by rfl, fun w' hS' => by go_simp⟩) hS0 ?_
            change wpAnyH _ _ _ _ _ _ _ (Act.put _ (some 51) (.int .i64 who)) _
            simp only [Act.put, List.setIfInBounds_toArray, List.set_cons_zero, List.set_cons_succ]
            refine wpAnyH_ready (rs := [6]) (by kernel_rfl) (by simp) (AllReadyH.cons rfl (fun K hK => ?_) (AllReadyH.nil))
            · skip
              go_simp
              refine (text_any z.2.2 _ HT2.out).mono ?_
              rintro e W1 ⟨rfl, hb3⟩
              refine hK.out _ _ (hS0.trans (hb3.mono hS0.size)) (fun hS2 => ?_)
              clear hK K
              simp only [List.setIfInBounds_toArray, List.set_cons_zero, List.set_cons_succ]
              refine wpAnyH_ready (rs := [13]) (by kernel_rfl) (by simp) (AllReadyH.cons rfl (fun K hK => ?_) (AllReadyH.nil))
              · skip
                go_simp
                refine (text_any q _ HTQ.out).mono ?_
                rintro e W4 ⟨rfl, hb6⟩
                refine hK.out _ _ (hS2.trans (hb6.mono hS2.size)) (fun hS5 => ?_)
                clear hK K
                simp only [List.setIfInBounds_toArray, List.set_cons_zero, List.set_cons_succ]
                refine wpAnyH_ready (rs := [15]) (by kernel_rfl) (by simp) (AllReadyH.cons rfl (fun K hK => ?_) (AllReadyH.nil))
                · skip
                  go_simp
                  refine (rbegin3 Ao f m co (textOf z.2.2) (textOf q) who _ N0 e0 b0 HBG.out (HFA.out.up hS5) HM.out HFT.out).mono ?_
                  rintro e W7 ⟨A8, n8, c8, rfl, hn8, hc8, hf8, hb8⟩
                  refine hK.out _ _ (hS5.trans (hb8.mono hS5.size)) (fun hS8 => ?_)
                  clear hK K
                  simp only [List.setIfInBounds_toArray, List.set_cons_zero, List.set_cons_succ]
                  refine wpAnyH_take (i := 16) (v := .tuple #[.bool b0, .slice A8 n8 c8, .int .i64 e0]) rfl (by kernel_rfl) (by kernel_rfl) (by kernel_rfl) (fun _ _ _ h => h) (Or.inl ⟨by rfl, fun w' hS' => by go_simp⟩) hS8 ?_
                  change wpAnyH _ _ _ _ _ _ _ (Act.put _ (some 36) (.tuple #[.bool b0, .slice A8 n8 c8, .int .i64 e0])) _
                  simp only [Act.put, List.setIfInBounds_toArray, List.set_cons_zero, List.set_cons_succ]
                  refine wpAnyH_take (i := 17) (v := .bool b0) rfl (by kernel_rfl) (by kernel_rfl) (by kernel_rfl) (fun _ _ _ h => h) (Or.inl ⟨by rfl, fun w' hS' => by go_simp⟩) hS8 ?_
                  change wpAnyH _ _ _ _ _ _ _ (Act.put _ (some 53) (.bool b0)) _
                  simp only [Act.put, List.setIfInBounds_toArray, List.set_cons_zero, List.set_cons_succ]
                  refine wpAnyH_take (i := 18) (v := .slice A8 n8 c8) rfl (by kernel_rfl) (by kernel_rfl) (by kernel_rfl) (fun _ _ _ h => h) (Or.inl ⟨by rfl, fun w' hS' => by go_simp⟩) hS8 ?_
                  change wpAnyH _ _ _ _ _ _ _ (Act.put _ (some 54) (.slice A8 n8 c8)) _
                  simp only [Act.put, List.setIfInBounds_toArray, List.set_cons_zero, List.set_cons_succ]
                  refine wpAnyH_take (i := 19) (v := .int .i64 e0) rfl (by kernel_rfl) (by kernel_rfl) (by kernel_rfl) (fun _ _ _ h => h) (Or.inl ⟨by rfl, fun w' hS' => by go_simp⟩) hS8 ?_
                  change wpAnyH _ _ _ _ _ _ _ (Act.put _ (some 55) (.int .i64 e0)) _
                  simp only [Act.put, List.setIfInBounds_toArray, List.set_cons_zero, List.set_cons_succ]
                  refine wpAnyH_take (i := 20) (v := .bool b0) rfl (by kernel_rfl) (by kernel_rfl) (by kernel_rfl) (fun _ _ _ h => h) (Or.inl ⟨by rfl, fun w' hS' => by go_simp⟩) hS8 ?_
                  change wpAnyH _ _ _ _ _ _ _ (Act.put _ (some 11) (.bool b0)) _
                  simp only [Act.put, List.setIfInBounds_toArray, List.set_cons_zero, List.set_cons_succ]
                  refine wpAnyH_take (i := 21) (v := .slice A8 n8 c8) rfl (by kernel_rfl) (by kernel_rfl) (by kernel_rfl) (fun _ _ _ h => h) (Or.inl ⟨by rfl, fun w' hS' => by go_simp⟩) hS8 ?_
                  change wpAnyH _ _ _ _ _ _ _ (Act.put _ (some 12) (.slice A8 n8 c8)) _
                  simp only [Act.put, List.setIfInBounds_toArray, List.set_cons_zero, List.set_cons_succ]
                  refine wpAnyH_take (i := 22) (v := .int .i64 e0) rfl (by kernel_rfl) (by kernel_rfl) (by kernel_rfl) (fun _ _ _ h => h) (Or.inl ⟨by rfl, fun w' hS' => by go_simp⟩) hS8 ?_
                  change wpAnyH _ _ _ _ _ _ _ (Act.put _ (some 13) (.int .i64 e0)) _
                  simp only [Act.put, List.setIfInBounds_toArray, List.set_cons_zero, List.set_cons_succ]
                  refine wpAnyH_done (by kernel_rfl) ?_ _
                  refine NoPanic.normal ?_
                  have HFN := Lib.hid hf8
                  have HNN := Lib.hid hn8
                  have HBE := Lib.hid hS8
                  clear hn8 hf8 hb8
                  cases t5 : (e0 == 0) with
                  | true =>
                    have HNX : Hid (fillsN zs (k + 1) = N0) := Lib.hid (by rw [fillsN_snoc HX.out, HE.out, deedF_beg HP.out.1 HP.out.2 HWH.out HQT.out HBG.out, if_pos (by simpa using t5)])
                    go_wp2_with fail
                    go_roundw
                    case rel => exact ⟨k + 1, N0, n8, A8, c8, by omega, by omega, rfl, by go_num, Lib.hid ⟨HFN.out, HNN.out, hc8, HNX.out.symm, HV.out.below.trans (HBE.out.mono HV.out.below.size)⟩⟩
                    case measure => simp [intOf]; omega
                  | false =>
                    have HNX : Hid (fillsN zs (k + 1) = f) := Lib.hid (by rw [fillsN_snoc HX.out, HE.out, deedF_beg HP.out.1 HP.out.2 HWH.out HQT.out HBG.out, if_neg (by intro h; rw [h] at t5; cases t5)])
                    go_wp2_with fail
                    go_roundw
                    case rel => exact ⟨k + 1, f, m, Ao, co, by omega, by omega, rfl, by go_num, Lib.hid ⟨HFA.out.up HBE.out, HM.out, HV.out.cap, HNX.out.symm, HV.out.below.trans (HBE.out.mono HV.out.below.size)⟩⟩
                    case measure => simp [intOf]; omega
      · obtain rfl : k = 20 := by omega
        go_wp2_with fail
        go_ret
        exact ⟨Ao, m, co, rfl, by show (fillsN zs 20).length = m; rw [← HV.out.eq]; exact HV.out.len, HV.out.cap, by show FillsAt v3 Ao (fillsN zs 20); rw [← HV.out.eq]; exact HV.out.at_, HV.out.below⟩
    · have he : fillsOf zs = f := by
        rw [HV.out.eq]
        unfold fillsOf fillsN
        rw [List.take_of_length_le (by omega), List.take_of_length_le (by omega)]
      have HE := Lib.hid he
      clear he
      go_wp2_with fail
      go_ret
      exact ⟨Ao, m, co, rfl, by rw [HE.out]; exact HV.out.len, HV.out.cap, by rw [HE.out]; exact HV.out.at_, HV.out.below⟩

end Go.Proofs.Ytllkegonhghkcaa
