/-
  Package lru: Get: what it returns, in new memory; nothing that was there is changed.
-/
import Derived.Test.YtjifmfgfmciaeaaImpE
namespace Go.Proofs.Ytjifmfgfmciaeaa
open Go.RowKit

theorem ne_without {L : List Sl} {x : Sl} (hr : rightB L = true) (hx : x ∈ L) : neS L x = withoutS L x.key := by
  unfold neS withoutS P13.without
  apply List.filter_congr
  intro y hy
  have h := rightB_iff.1 hr
  by_cases e : y = x
  · simp [e]
  · have : y.key ≠ x.key := fun e' => e (h.same hy hx e')
    simp [e, this]
theorem fit_ne {L : List Sl} {x : Sl} (h : FitS L) (hx : FitS [x]) : FitS (x :: neS L x) := FitS.cons (h.sub fun _ hy => (List.mem_filter.1 hy).1) hx

set_option maxHeartbeats 8000000 in
set_option maxRecDepth 100000 in
theorem get_any (A : Option Addr) (L : List Sl) (n c : Nat) (ks kl : Int) (w : World) (x0 : Sl) (M0 : List Sl) (b0 : Int) (hm : getM L (ks, kl) = (x0, M0, b0)) (ha : SlotsAt w A L) (hn : L.length = n) (h1 : L.length ≤ 1000000) (hf : FitS L) :
    Calls Try.prog 49 #[.slice A n c, .agg #[.int .u64 ks, .int .i64 kl]] w (GetTold x0 M0 b0 w) := by
  subst hn
  have HM := Lib.hid hm
  have HA := Lib.hid ha
  have HF := Lib.hid hf
  clear hm ha hf
  obtain ⟨rb, hrb⟩ : ∃ rb, rightB L = rb := ⟨_, rfl⟩
  have HR := Lib.hid hrb
  clear hrb
  go_enter Try.func49, Try.ntmps49
  go_wp2_with fail
  have hb0 : Blk ((w.alloc (.cells #[.int .u64 ks, .int .i64 kl] 61)).alloc (.cells #[.int .u64 0, .int .i64 0, .string ⟨#[]⟩, .string ⟨#[]⟩, .string ⟨#[]⟩] 63)) w.heap.size 61 #[.int .u64 ks, .int .i64 kl] := (Blk.new w _ _).alloc _
  have hb2 : Blk ((w.alloc (.cells #[.int .u64 ks, .int .i64 kl] 61)).alloc (.cells #[.int .u64 0, .int .i64 0, .string ⟨#[]⟩, .string ⟨#[]⟩, .string ⟨#[]⟩] 63)) (w.heap.size + 1) 63 #[.int .u64 0, .int .i64 0, .string ⟨#[]⟩, .string ⟨#[]⟩, .string ⟨#[]⟩] := by
    have := Blk.new (w.alloc (.cells #[.int .u64 ks, .int .i64 kl] 61)) 63 #[.int .u64 0, .int .i64 0, .string ⟨#[]⟩, .string ⟨#[]⟩, .string ⟨#[]⟩]
    simpa using this
  have hw0 : Below w.heap.size w ((w.alloc (.cells #[.int .u64 ks, .int .i64 kl] 61)).alloc (.cells #[.int .u64 0, .int .i64 0, .string ⟨#[]⟩, .string ⟨#[]⟩, .string ⟨#[]⟩] 63)) := ((Below.refl _ _).alloc (Nat.le_refl _) _).alloc (by simp) _
  obtain ⟨w1, hw1⟩ : ∃ w1, w1 = (w.alloc (.cells #[.int .u64 ks, .int .i64 kl] 61)).alloc (.cells #[.int .u64 0, .int .i64 0, .string ⟨#[]⟩, .string ⟨#[]⟩, .string ⟨#[]⟩] 63) := ⟨_, rfl⟩
  obtain ⟨g, hg⟩ : ∃ g, g = w.heap.size := ⟨_, rfl⟩
  obtain ⟨h, hh⟩ : ∃ h, h = w.heap.size + 1 := ⟨_, rfl⟩
  rw [← hw1] at hb0 hb2 hw0 ⊢
  rw [← hh] at hb2 ⊢
  rw [← hg] at hb0
  have HH2 : Hid (w.heap.size ≤ h) := Lib.hid (by omega)
  have hne : g ≠ h := by omega
  rw [show (⟨w.heap.size, 0, none⟩ : Addr) = ⟨g, 0, none⟩ from by rw [hg]]
  have HB1 := Lib.hid hb0
  have HH1 := Lib.hid hb2
  have HW1 := Lib.hid hw0
  clear hb0 hb2 hw0 hw1 hg hh
  refine (right_any A L L.length c _ rb HR.out (HA.out.up HW1.out) rfl (by omega) HF.out).mono ?_
  rintro e w2 ⟨rfl, hb⟩
  have HB2 := Lib.hid (Blk.below HB1.out hb HB1.out.lt)
  have HH3 := Lib.hid (Blk.below HH1.out hb HH1.out.lt)
  have HW2 := Lib.hid (HW1.out.trans (hb.mono HW1.out.size))
  clear hb
  cases rb with
  | false =>
    have hfin : x0 = zeroS ∧ M0 = [] ∧ b0 = 1 := by have := HM.out; unfold getM at this; rw [HR.out] at this; simp only [Bool.false_eq_true, if_false, Prod.mk.injEq] at this; exact ⟨this.1.symm, this.2.1.symm, this.2.2.symm⟩
    obtain ⟨rfl, rfl, rfl⟩ := hfin
    have z0 := Blk.cell HH3.out 0
    have q0 := Blk.frozen HH3.out 0
    have z1 := Blk.cell HH3.out 1
    have q1 := Blk.frozen HH3.out 1
    have z2 := Blk.cell HH3.out 2
    have q2 := Blk.frozen HH3.out 2
    have z3 := Blk.cell HH3.out 3
    have q3 := Blk.frozen HH3.out 3
    have z4 := Blk.cell HH3.out 4
    have q4 := Blk.frozen HH3.out 4
    simp only [List.getElem?_toArray, List.getElem?_cons_zero, List.getElem?_cons_succ] at z0 z1 z2 z3 z4
    go_wp2_with fail
    refine bodyPost_ret (v := .tuple #[.agg #[.int .u64 0, .int .i64 0, .string ⟨#[]⟩, .string ⟨#[]⟩, .string ⟨#[]⟩], .slice none 0 0, .int .i64 1]) (by simp [results, Try.results49, go_sem, z0, z1, z2, z3, z4]) rfl ?_
    exact ⟨none, 0, 0, rfl, rfl, RowAt.nil, ((((HW2.out.setCell HH2.out _).setCell HH2.out _).setCell HH2.out _).setCell HH2.out _).setCell HH2.out _, Nat.le_refl _, fun a ha => by cases ha⟩
  | true =>
    have y0 := Blk.cell HB2.out 0
    have y1 := Blk.cell HB2.out 1
    simp only [List.getElem?_toArray, List.getElem?_cons_zero, List.getElem?_cons_succ] at y0 y1
    cases hfs : findS L (ks, kl) with
    | none =>
      have hfin : x0 = zeroS ∧ M0 = [] ∧ b0 = 10 := by have := HM.out; unfold getM at this; rw [HR.out, hfs] at this; simp only [if_true, Prod.mk.injEq] at this; exact ⟨this.1.symm, this.2.1.symm, this.2.2.symm⟩
      obtain ⟨rfl, rfl, rfl⟩ := hfin
      have HFS := Lib.hid hfs
      clear hfs
      go_wp2_with fail
      refine (find_any A L L.length c ks kl _ zeroS false (.inr ⟨HFS.out, rfl, rfl⟩) (HA.out.up HW2.out) rfl (by omega)).mono ?_
      rintro e w3 ⟨rfl, hb⟩
      have HH4 := Lib.hid (Blk.below HH3.out hb HH3.out.lt)
      have HW3 := Lib.hid (HW2.out.trans (hb.mono HW2.out.size))
      clear hb y0 y1
      have z0 := Blk.cell HH4.out 0
      have q0 := Blk.frozen HH4.out 0
      have z1 := Blk.cell HH4.out 1
      have q1 := Blk.frozen HH4.out 1
      have z2 := Blk.cell HH4.out 2
      have q2 := Blk.frozen HH4.out 2
      have z3 := Blk.cell HH4.out 3
      have q3 := Blk.frozen HH4.out 3
      have z4 := Blk.cell HH4.out 4
      have q4 := Blk.frozen HH4.out 4
      have hl2 := Blk.lt HH4.out
      simp only [List.getElem?_toArray, List.getElem?_cons_zero, List.getElem?_cons_succ] at z0 z1 z2 z3 z4
      go_wp2_with fail
      refine bodyPost_ret (v := .tuple #[.agg #[.int .u64 0, .int .i64 0, .string ⟨#[]⟩, .string ⟨#[]⟩, .string ⟨#[]⟩], .slice none 0 0, .int .i64 10]) (by simp [results, Try.results49, go_sem, z0, z1, z2, z3, z4, hl2]) rfl ?_
      exact ⟨none, 0, 0, rfl, rfl, RowAt.nil, ((((((HW3.out.setCell HH2.out _).setCell HH2.out _).setCell HH2.out _).setCell HH2.out _).setCell HH2.out _)).alloc (by simpa using HW3.out.size) _, Nat.le_refl _, fun a ha => by cases ha⟩
    | some x =>
      have hfin : x = x0 ∧ M0 = x :: withoutS L (ks, kl) ∧ b0 = 0 := by have := HM.out; unfold getM at this; rw [HR.out, hfs] at this; simp only [if_true, Prod.mk.injEq] at this; exact ⟨this.1, this.2.1.symm, this.2.2.symm⟩
      obtain ⟨rfl, rfl, rfl⟩ := hfin
      have hxm : x ∈ L := List.mem_of_find?_eq_some hfs
      have hxk : x.key = (ks, kl) := by have := List.find?_some hfs; simpa using this
      have HFX : Hid (FitS [x]) := Lib.hid (HF.out.sub fun y hy => by rw [List.mem_singleton.1 hy]; exact hxm)
      have HFN : Hid (FitS (x :: neS L x)) := Lib.hid (fit_ne HF.out HFX.out)
      have HNW : Hid (x :: neS L x = x :: withoutS L (ks, kl)) := Lib.hid (by rw [ne_without HR.out hxm, hxk])
      have HFS := Lib.hid hfs
      clear hfs hxm hxk
      go_wp2_with fail
      refine (find_any A L L.length c ks kl _ x true (.inl ⟨HFS.out, rfl⟩) (HA.out.up HW2.out) rfl (by omega)).mono ?_
      rintro e w3 ⟨rfl, hb⟩
      have HH4a := Lib.hid (Blk.below HH3.out hb HH3.out.lt)
      have HW3 := Lib.hid (HW2.out.trans (hb.mono HW2.out.size))
      clear hb y0 y1
      go_upto_region 6 with (fail)
      have hb7 : Blk (w3.alloc (.cells #[.int .u64 x.sum, .int .i64 x.len, .string x.left, .string x.right, .string x.val] 63)) w3.heap.size 63 #[.int .u64 x.sum, .int .i64 x.len, .string x.left, .string x.right, .string x.val] := Blk.new w3 _ _
      have hw4 : Below w3.heap.size w3 (w3.alloc (.cells #[.int .u64 x.sum, .int .i64 x.len, .string x.left, .string x.right, .string x.val] 63)) := (Below.refl _ _).alloc (Nat.le_refl _) _
      obtain ⟨w4, hwe⟩ : ∃ w4, w4 = w3.alloc (.cells #[.int .u64 x.sum, .int .i64 x.len, .string x.left, .string x.right, .string x.val] 63) := ⟨_, rfl⟩
      obtain ⟨g7, hg7⟩ : ∃ g7, g7 = w3.heap.size := ⟨_, rfl⟩
      rw [← hwe] at hb7 hw4 ⊢
      rw [← hg7] at hb7 ⊢
      have HB7 := Lib.hid hb7
      have HH4 := Lib.hid (Blk.below HH4a.out hw4 HH4a.out.lt)
      have HW4 := Lib.hid (HW3.out.trans (hw4.mono HW3.out.size))
      have HNE : Hid (g7 ≠ h) := Lib.hid (by have := HH4a.out.lt; omega)
      clear hb7 hw4 hwe hg7
      refine wp_region_noPanic ?_
      refine wp_region_held_drew (S := fun W => Below w.heap.size w W ∧ Blk W g7 63 #[.int .u64 x.sum, .int .i64 x.len, .string x.left, .string x.right, .string x.val] ∧ ∃ z : Sl, Blk W h 63 #[.int .u64 z.sum, .int .i64 z.len, .string z.left, .string z.right, .string z.val]) (by kernel_rfl) (⟨HW4.out.drew, HB7.out, ⟨zeroS, HH4.out⟩⟩) (fun hS0 => ?_)
      change wpAnyH _ _ _ _ _ 9 #[false, false, false, false, false, false, false, false, false] _ (World.drew _)
      refine wpAnyH_take (i := 0) (v := .agg #[.int .u64 x.sum, .int .i64 x.len, .string x.left, .string x.right, .string x.val]) rfl (by kernel_rfl) (by kernel_rfl) (by kernel_rfl) (fun _ _ _ h => h) (Or.inl ⟨by rfl, fun w' hS' => by obtain ⟨y0, y1, y2, y3, y4⟩ := slot_cells5 hS'.2.1; go_simp⟩) hS0 ?_
      change wpAnyH _ _ _ _ _ _ _ (Act.put _ (some 22) (.agg #[.int .u64 x.sum, .int .i64 x.len, .string x.left, .string x.right, .string x.val])) _
      simp only [Act.put, List.setIfInBounds_toArray, List.set_cons_zero, List.set_cons_succ]
      refine wpAnyH_take (i := 2) (v := .slice A L.length c) rfl (by kernel_rfl) (by kernel_rfl) (by kernel_rfl) (fun _ _ _ h => h) (Or.inl ⟨by rfl, fun w' hS' => by exact op_move rfl rfl⟩) hS0 ?_
      change wpAnyH _ _ _ _ _ _ _ (Act.put _ (some 24) (.slice A L.length c)) _
      simp only [Act.put, List.setIfInBounds_toArray, List.set_cons_zero, List.set_cons_succ]
      refine wpAnyH_take (i := 3) (v := .agg #[.int .u64 x.sum, .int .i64 x.len, .string x.left, .string x.right, .string x.val]) rfl (by kernel_rfl) (by kernel_rfl) (by kernel_rfl) (fun _ _ _ h => h) (Or.inl ⟨by rfl, fun w' hS' => by obtain ⟨y0, y1, y2, y3, y4⟩ := slot_cells5 hS'.2.1; go_simp⟩) hS0 ?_
      change wpAnyH _ _ _ _ _ _ _ (Act.put _ (some 25) (.agg #[.int .u64 x.sum, .int .i64 x.len, .string x.left, .string x.right, .string x.val])) _
      simp only [Act.put, List.setIfInBounds_toArray, List.set_cons_zero, List.set_cons_succ]
      refine wpAnyH_ready (rs := [1]) (by kernel_rfl) (by simp) (AllReadyH.cons rfl (fun K hK => ?_) (AllReadyH.nil))
      · skip
        go_simp
        refine (own_any x _ HFX.out).mono ?_
        rintro e W1 ⟨rfl, hb3⟩
        refine hK.out _ _ ⟨hS0.1.trans (hb3.mono hS0.1.size), Blk.below hS0.2.1 hb3 hS0.2.1.lt, hS0.2.2.elim fun z hz => ⟨z, Blk.below hz hb3 hz.lt⟩⟩ (fun hS2 => ?_)
        clear hK K
        simp only [List.setIfInBounds_toArray, List.set_cons_zero, List.set_cons_succ]
        refine wpAnyH_ready (rs := [4]) (by kernel_rfl) (by simp) (AllReadyH.cons rfl (fun K hK => ?_) (AllReadyH.nil))
        · skip
          go_simp
          refine (front_any A L L.length c x _ (HA.out.up hS2.1) rfl (by omega)).mono ?_
          rintro e W4 ⟨v, rfl, ho6⟩
          obtain ⟨A7, c8, rfl⟩ := ho6.slice
          refine hK.out _ _ ⟨hS2.1.trans (ho6.2.mono hS2.1.size), Blk.below hS2.2.1 ho6.2 hS2.2.1.lt, hS2.2.2.elim fun z hz => ⟨z, Blk.below hz ho6.2 hz.lt⟩⟩ (fun hS5 => ?_)
          clear hK K
          simp only [List.setIfInBounds_toArray, List.set_cons_zero, List.set_cons_succ]
          refine wpAnyH_ready (rs := [5]) (by kernel_rfl) (by simp) (AllReadyH.cons rfl (fun K hK => ?_) (AllReadyH.nil))
          · skip
            go_simp
            refine (owns_any A7 (x :: neS L x) _ c8 _ (OwnR.at_ sl_len ho6 rfl) rfl (Nat.le_trans (by simpa using List.length_filter_le _ _) (show L.length + 1 ≤ 1048576 by omega)) HFN.out).mono ?_
            rintro e W9 ⟨gr11, n12, c13, rfl, hn, hM, hb, hg⟩
            have HSW := Lib.hid hS5.1
            have HHL := Lib.hid (hS5.2.2.elim fun z hz => hz.lt)
            refine hK.out _ _ ⟨hS5.1.trans (hb.mono hS5.1.size), Blk.below hS5.2.1 hb hS5.2.1.lt, hS5.2.2.elim fun z hz => ⟨z, Blk.below hz hb hz.lt⟩⟩ (fun hS10 => ?_)
            have HRM := Lib.hid hM
            have HRB := Lib.hid hb
            have HRG := Lib.hid hg
            have HRN := Lib.hid hn
            clear hM hb hg hn
            clear hK K
            simp only [List.setIfInBounds_toArray, List.set_cons_zero, List.set_cons_succ]
            refine wpAnyH_ready (rs := [6]) (by kernel_rfl) (by simp) (AllReadyH.cons rfl (fun K hK => ?_) (AllReadyH.nil))
            · skip
              obtain ⟨z, hz⟩ := hS10.2.2
              obtain ⟨W14, hr, ho, hg⟩ := op_store h x z _ hz
              refine step_op_skip (hr _ _ _ _ rfl rfl rfl) rfl ?_
              refine hK.out _ _ ⟨hS10.1.grown hg hS10.1.size (fun b e => by injection e with e; rw [← e]; exact HH2.out), Blk.grown hS10.2.1 hg (fun e => HNE.out (Option.some.inj e)), ⟨x, ho⟩⟩ (fun hS15 => ?_)
              have HO := Lib.hid ho
              have HGW := Lib.hid hg
              clear hr ho hg hz
              clear hK K
              change wpAnyH _ _ _ _ _ _ _ (Act.put _ none (undef)) _
              simp only [Act.put]
              refine wpAnyH_take (i := 7) (v := .slice (some ⟨gr11, 0, none⟩) n12 c13) rfl (by kernel_rfl) (by kernel_rfl) (by kernel_rfl) (fun _ _ _ h => h) (Or.inl ⟨by rfl, fun w' hS' => by exact op_assign rfl rfl⟩) hS15 ?_
              change wpAnyH _ _ _ _ _ _ _ (Act.put _ (some 5) (.slice (some ⟨gr11, 0, none⟩) n12 c13)) _
              simp only [Act.put, List.setIfInBounds_toArray, List.set_cons_zero, List.set_cons_succ]
              refine wpAnyH_take (i := 8) (v := .int .i64 0) rfl (by kernel_rfl) (by kernel_rfl) (by kernel_rfl) (fun _ _ _ h => h) (Or.inl ⟨by rfl, fun w' hS' => by exact op_assign rfl rfl⟩) hS15 ?_
              change wpAnyH _ _ _ _ _ _ _ (Act.put _ (some 6) (.int .i64 0)) _
              simp only [Act.put, List.setIfInBounds_toArray, List.set_cons_zero, List.set_cons_succ]
              refine wpAnyH_done (by kernel_rfl) ?_ _
              refine NoPanic.normal ?_
              obtain ⟨y0, y1, y2, y3, y4⟩ := slot_cells5 HO.out
              have HSF := Lib.hid hS15.1
              go_wp2_with fail
              refine bodyPost_ret (v := .tuple #[.agg #[.int .u64 x.sum, .int .i64 x.len, .string x.left, .string x.right, .string x.val], .slice (some ⟨gr11, 0, none⟩) n12 c13, .int .i64 0]) (by simp [results, Try.results49, go_sem, y0, y1, y2, y3, y4]) rfl ?_
              refine ⟨some ⟨gr11, 0, none⟩, n12, c13, rfl, by rw [← HNW.out]; exact HRN.out.1, ?_, HSF.out, HRN.out.2, fun a ha => by injection ha with ha; rw [← ha]; exact Nat.le_trans HSW.out.size HRG.out⟩
              rw [← HNW.out]
              exact RowAt.kept_grown HRM.out HGW.out (fun a ha e => by
                injection ha with ha
                rw [← ha] at e
                injection e with e
                have h1 := HRG.out
                have h2 := HHL.out
                simp only at e
                omega)

end Go.Proofs.Ytjifmfgfmciaeaa
