/-
  Package queue: Drop: what it tells, in new memory; nothing that was there is changed.
-/
import Derived.Test.YtaelenjnjoeheaaIta
import Derived.IntWalk
namespace Go.Proofs.Ytaelenjnjoeheaa
open Go.RowKit P16

theorem others_take {T : List Tk} {k : Nat} {x : Tk} (h : T[k]? = some x) (r : Int) : others (T.take (k + 1)) r = if x.req = r then others (T.take k) r else others (T.take k) r ++ [x] := by
  rw [take_snoc h, others_snoc]

set_option maxHeartbeats 8000000 in
set_option maxRecDepth 100000 in
theorem idrop_any (r : Int) (cl : Bool) (T : List Tk) (A : Option Addr) (n c : Nat) (req : Int) (w : World) (k0 : Nat) (r0 : Int) (b0 : Bool) (T0 : List Tk) (e0 : Int) (ht : dropQ ⟨r, cl, T⟩ req = (k0, ⟨r0, b0, T0⟩, e0))
    (ha : TasksAt w A T) (hn : T.length = n) (hc : n ≤ c) (hf : FitT T) :
    Calls Try.prog 21 #[.agg #[.int .i64 r, .bool cl, .slice A n c], .int .i64 req] w (PutNew k0 r0 b0 T0 e0 w) := by
  obtain ⟨bo, hbo⟩ : ∃ bo, rightB ⟨r, cl, T⟩ = bo := ⟨_, rfl⟩
  have HBO := Lib.hid hbo
  have HT := Lib.hid ht
  have HA := Lib.hid ha
  have HF := Lib.hid hf
  have HN := Lib.hid hn
  have HC := Lib.hid hc
  clear hbo ht ha hf hn hc
  go_enter Try.func21, Try.ntmps21
  go_upto_region 1 with (fail)
  have hb0 : Blk ((w.alloc (.cells #[.int .i64 r, .bool cl, .slice A n c] 24)).alloc (.cells #[.int .i64 0, .bool false, .slice none 0 0] 24)) w.heap.size 24 #[.int .i64 r, .bool cl, .slice A n c] := (Blk.new w _ _).alloc _
  have hb1 : Blk ((w.alloc (.cells #[.int .i64 r, .bool cl, .slice A n c] 24)).alloc (.cells #[.int .i64 0, .bool false, .slice none 0 0] 24)) (w.heap.size + 1) 24 #[.int .i64 0, .bool false, .slice none 0 0] := by
    have := Blk.new (w.alloc (.cells #[.int .i64 r, .bool cl, .slice A n c] 24)) 24 #[.int .i64 0, .bool false, .slice none 0 0]
    have h2 : Blk ((w.alloc (.cells #[.int .i64 r, .bool cl, .slice A n c] 24)).alloc (.cells #[.int .i64 0, .bool false, .slice none 0 0] 24)) (w.heap.size + 1) 24 #[.int .i64 0, .bool false, .slice none 0 0] := by simpa [Nat.add_assoc] using this
    exact h2
  have hw0 : Below w.heap.size w ((w.alloc (.cells #[.int .i64 r, .bool cl, .slice A n c] 24)).alloc (.cells #[.int .i64 0, .bool false, .slice none 0 0] 24)) := ((Below.refl _ _).alloc (Nat.le_refl _) _).alloc (by simp) _
  obtain ⟨w1, hw1⟩ : ∃ w1, w1 = (w.alloc (.cells #[.int .i64 r, .bool cl, .slice A n c] 24)).alloc (.cells #[.int .i64 0, .bool false, .slice none 0 0] 24) := ⟨_, rfl⟩
  obtain ⟨gq, hgq⟩ : ∃ g, g = w.heap.size := ⟨_, rfl⟩
  obtain ⟨gr, hgr⟩ : ∃ g, g = w.heap.size + 1 := ⟨_, rfl⟩
  rw [← hw1] at hb0 hb1 hw0 ⊢
  rw [← hgr] at hb1 ⊢
  rw [← hgq] at hb0
  have HGq : Hid (w.heap.size ≤ gq) := Lib.hid (by omega)
  have HGr : Hid (w.heap.size ≤ gr) := Lib.hid (by omega)
  have HNrq : Hid (gr ≠ gq) := Lib.hid (by omega)
  rw [show (⟨w.heap.size, 0, none⟩ : Addr) = ⟨gq, 0, none⟩ from by rw [hgq]]
  have HBq := Lib.hid hb0
  have HBr := Lib.hid hb1
  have HW := Lib.hid hw0
  clear hb0 hb1 hw0 hw1 hgq hgr

  obtain ⟨y0, y1, y2⟩ := blk3 HBq.out
  go_wp2_with fail
  refine (iright_any r cl T A n c bo HBO.out _ HN.out).mono ?_
  rintro e w2 ⟨rfl, hb2⟩
  have HBq := Lib.hid (HBq.out.below hb2 HBq.out.lt)
  have HBr := Lib.hid (HBr.out.below hb2 HBr.out.lt)
  have HW := Lib.hid (below_step HW.out hb2)

  clear hb2 y0 y1 y2
  cases bo with
  | false =>
    have HT : Hid (k0 = 0 ∧ r0 = 0 ∧ b0 = false ∧ T0 = [] ∧ e0 = 1) := Lib.hid (by have h := HT.out; rw [drop_bad HBO.out] at h; exact put_parts h)
    obtain ⟨z0, z1, z2⟩ := blk3 HBr.out
    have q0 := Blk.frozen HBr.out 0
    have q1 := Blk.frozen HBr.out 1
    have q2 := Blk.frozen HBr.out 2
    go_wp2_with fail
    refine bodyPost_ret (v := .tuple #[.int .i64 0, .agg #[.int .i64 0, .bool false, .slice none 0 0], .int .i64 1]) (by simp [results, Try.results21, go_sem, z0, z1, z2]) rfl ?_
    rw [HT.out.1, HT.out.2.1, HT.out.2.2.1, HT.out.2.2.2.1, HT.out.2.2.2.2]
    exact ⟨none, 0, 0, rfl, rfl, Nat.le_refl _, TasksNew.nil, ((HW.out.setCell HGr.out _).setCell HGr.out _).setCell HGr.out _⟩

  | true =>
    obtain ⟨y0, y1, y2⟩ := blk3 HBq.out
    have e3 := (right_iff.1 HBO.out).2
    simp only [HN.out] at e3
    have hn1 : n ≤ 4096 := by omega
    clear e3
    go_wp2_with fail
    refine (stay_none r cl A n c _ HC.out).mono ?_
    rintro e w3 ⟨rfl, hb3⟩
    have HBq := Lib.hid (HBq.out.below hb3 HBq.out.lt)
    have HBr := Lib.hid (HBr.out.below hb3 HBr.out.lt)
    have HW := Lib.hid (below_step HW.out hb3)

    clear hb3 y0 y1 y2
    obtain ⟨y0, y1, y2⟩ := blk3 HBq.out
    go_wp2_with fail
    go_loopw [7, 19] (fun v i wr => ∃ (k m c4 : Nat) (A4 : Option Addr), k ≤ n ∧ v = .slice A4 m c4 ∧ i = .int .i64 k ∧ Hid (Grows w3 wr (.slice A4 m c4) (others (T.take k) req))) (fun _ i _ => n - (intOf i).toNat)
    case atStart => exact ⟨0, 0, 0, A, Nat.zero_le _, rfl, rfl, Lib.hid (.inl ⟨rfl, ⟨A, rfl⟩, Below.refl _ _⟩)⟩
    case round =>
      obtain ⟨k, m, c4, A4, hk, rfl, rfl, HO4⟩ := hrel
      obtain ⟨w4, rfl⟩ : ∃ w3, w3 = wr := ⟨_, rfl⟩
      clear y0 y1 y2
      have hmk : m ≤ k := by
        have h1 := others_len (T.take k) req
        rw [HO4.out.at_.2.1, List.length_take] at h1
        omega
      by_cases g1 : k < n
      · obtain ⟨x, hx⟩ : ∃ x, T[k]? = some x := ⟨_, List.getElem?_eq_getElem (by rw [HN.out]; exact g1)⟩
        obtain ⟨a, rfl, hal, c0, c1, c2, c3⟩ := tasks_fields (HA.out.up (below_step HW.out HO4.out.below)) hx
        have HX := Lib.hid hx
        have HOT := Lib.hid (others_take hx req)
        clear hx
        go_upto_region 7 with (fail)
        obtain ⟨gt, w5, hgt, hw5, hbt, hbe5⟩ := box_new w4 39 #[.int .i64 x.req, .int .i64 x.slot, .string x.left, .string x.right]
        rw [← hw5, ← hgt]
        have HBT := Lib.hid hbt
        have HO5 := Lib.hid (HO4.out.up hbe5)
        clear hgt hw5 hbt hbe5 c0 c1 c2 c3 hal
        obtain ⟨u0, u1, u2, u3⟩ := blk4 HBT.out
        by_cases g2 : x.req = req
        · have t0 : (x.req != req) = false := by simp [g2]
          have HO6 : Hid (Grows w3 w5 (.slice A4 m c4) (others (T.take (k + 1)) req)) := Lib.hid (by rw [HOT.out, if_pos g2]; exact HO5.out)
          clear g2
          go_wp2_with fail
          go_roundw
          case rel => exact ⟨k + 1, m, c4, A4, by omega, rfl, by go_num, HO6⟩
          case measure => simp [intOf]; omega
        · have t0 : (x.req != req) = true := by simp [g2]
          obtain ⟨A7, c7, w7, hr7, ho7⟩ := HO5.out.push x (m + 1) (by rw [HO5.out.at_.2.1]) (by omega)
          have HR7 := Lib.hid hr7
          have HO7 : Hid (Grows w3 w7 (.slice A7 (m + 1) c7) (others (T.take (k + 1)) req)) := Lib.hid (by rw [HOT.out, if_neg g2]; exact ho7)
          clear g2 hr7 ho7
          go_wp2_with (at_builtin; refine wpList_append_run rfl rfl (by simp [Region.wanted]) rfl rfl HR7.out ?_; clear HR7)
          go_roundw
          case rel => exact ⟨k + 1, m + 1, c7, A7, by omega, rfl, by go_num, HO7⟩
          case measure => simp [intOf]; omega
      · have HO4 : Hid (Grows w3 w4 (.slice A4 m c4) (others T req)) := Lib.hid (by have := HO4.out; rwa [List.take_of_length_le (by have := HN.out; omega)] at this)
        have HFT : Hid (FitT (others T req)) := Lib.hid (HF.out.others req)
        obtain ⟨k', hk'⟩ : ∃ k', n - m = k' := ⟨_, rfl⟩
        have hk2 : m + k' = n := by omega
        have HKM := Lib.hid hk2
        have HT : Hid (k0 = k' ∧ r0 = r ∧ b0 = cl ∧ T0 = others T req ∧ e0 = 0) := Lib.hid (by have h := HT.out; rw [drop_ok HBO.out] at h; simp only [HN.out, HO4.out.at_.2.1, hk'] at h; exact put_parts h)
        have HBW : Hid (Below w4.heap.size w4 w4) := Lib.hid (Below.refl _ _)
        have HBq := Lib.hid (HBq.out.below HO4.out.below HBq.out.lt)
        have HBr := Lib.hid (HBr.out.below HO4.out.below HBr.out.lt)
        have HW := Lib.hid (below_step HW.out HO4.out.below)

        clear hmk hk' hk2
        obtain ⟨y0, y1, y2⟩ := blk3 HBq.out
        go_upto_region 10 with (fail)
        have HWR : Hid (IntKind.i64.wrap ((n : Int) - (m : Int)) = ((k' : Nat) : Int)) := Lib.hid (by have := HKM.out; rw [IntWalk.i64_in _ (by omega)]; omega)
        clear y0 y1 y2
        refine wp_region_noPanic ?_
        refine wp_region_held_drew (S := fun W => Blk W gq 24 #[.int .i64 r, .bool cl, .slice A n c] ∧ Below w.heap.size w W) (by kernel_rfl) (⟨HBq.out.drew, HW.out.drew⟩) (fun hS0 => ?_)
        change wpAnyH _ _ _ _ _ 12 #[false, false, false, false, false, false, false, false, false, false, false, false] _ (World.drew _)
        refine wpAnyH_take (i := 0) (v := .pointer (some ⟨gq, 2, none⟩)) rfl (by kernel_rfl) (by kernel_rfl) (by kernel_rfl) (fun _ _ _ h => h) (Or.inl ⟨by rfl, fun w' hS' => by go_simp⟩) hS0 ?_
        change wpAnyH _ _ _ _ _ _ _ (Act.put _ (some 32) (.pointer (some ⟨gq, 2, none⟩))) _
        simp only [Act.put, List.setIfInBounds_toArray, List.set_cons_zero, List.set_cons_succ]
        refine wpAnyH_take (i := 1) (v := .slice A n c) rfl (by kernel_rfl) (by kernel_rfl) (by kernel_rfl) (fun _ _ _ h => h) (Or.inl ⟨by rfl, fun w' hS' => by obtain ⟨y0, y1, y2⟩ := blk3 hS'.1; go_simp⟩) hS0 ?_
        change wpAnyH _ _ _ _ _ _ _ (Act.put _ (some 33) (.slice A n c)) _
        simp only [Act.put, List.setIfInBounds_toArray, List.set_cons_zero, List.set_cons_succ]
        refine wpAnyH_take (i := 2) (v := .int .i64 (n : Int)) rfl (by kernel_rfl) (by kernel_rfl) (by kernel_rfl) (fun _ _ _ h => h) (Or.inl ⟨by rfl, fun w' hS' => by go_simp⟩) hS0 ?_
        change wpAnyH _ _ _ _ _ _ _ (Act.put _ (some 34) (.int .i64 (n : Int))) _
        simp only [Act.put, List.setIfInBounds_toArray, List.set_cons_zero, List.set_cons_succ]
        refine wpAnyH_take (i := 3) (v := .slice A4 m c4) rfl (by kernel_rfl) (by kernel_rfl) (by kernel_rfl) (fun _ _ _ h => h) (Or.inl ⟨by rfl, fun w' hS' => by go_simp⟩) hS0 ?_
        change wpAnyH _ _ _ _ _ _ _ (Act.put _ (some 35) (.slice A4 m c4)) _
        simp only [Act.put, List.setIfInBounds_toArray, List.set_cons_zero, List.set_cons_succ]
        refine wpAnyH_take (i := 4) (v := .int .i64 (m : Int)) rfl (by kernel_rfl) (by kernel_rfl) (by kernel_rfl) (fun _ _ _ h => h) (Or.inl ⟨by rfl, fun w' hS' => by go_simp⟩) hS0 ?_
        change wpAnyH _ _ _ _ _ _ _ (Act.put _ (some 36) (.int .i64 (m : Int))) _
        simp only [Act.put, List.setIfInBounds_toArray, List.set_cons_zero, List.set_cons_succ]
        refine wpAnyH_take (i := 5) (v := .int .i64 ((k' : Nat) : Int)) rfl (by kernel_rfl) (by kernel_rfl) (by kernel_rfl) (fun _ _ _ h => h) (Or.inl ⟨by rfl, fun w' hS' => by have hwr := HWR.out; go_simp; try exact hwr⟩) hS0 ?_
        change wpAnyH _ _ _ _ _ _ _ (Act.put _ (some 37) (.int .i64 ((k' : Nat) : Int))) _
        simp only [Act.put, List.setIfInBounds_toArray, List.set_cons_zero, List.set_cons_succ]
        refine wpAnyH_take (i := 6) (v := .agg #[.int .i64 r, .bool cl, .slice A n c]) rfl (by kernel_rfl) (by kernel_rfl) (by kernel_rfl) (fun _ _ _ h => h) (Or.inl ⟨by rfl, fun w' hS' => by obtain ⟨y0, y1, y2⟩ := blk3 hS'.1; go_simp⟩) hS0 ?_
        change wpAnyH _ _ _ _ _ _ _ (Act.put _ (some 38) (.agg #[.int .i64 r, .bool cl, .slice A n c])) _
        simp only [Act.put, List.setIfInBounds_toArray, List.set_cons_zero, List.set_cons_succ]
        refine wpAnyH_take (i := 7) (v := .slice A4 m c4) rfl (by kernel_rfl) (by kernel_rfl) (by kernel_rfl) (fun _ _ _ h => h) (Or.inl ⟨by rfl, fun w' hS' => by go_simp⟩) hS0 ?_
        change wpAnyH _ _ _ _ _ _ _ (Act.put _ (some 39) (.slice A4 m c4)) _
        simp only [Act.put, List.setIfInBounds_toArray, List.set_cons_zero, List.set_cons_succ]
        refine wpAnyH_ready (rs := [8]) (by kernel_rfl) (by simp) (AllReadyH.cons rfl (fun K hK => ?_) (AllReadyH.nil))
        · skip
          go_simp
          refine (with_any r cl A n c A4 (others T req) m c4 _ ((HO4.out.at_.1.up HBW.out).drew) HO4.out.at_.2.1 (by have := HKM.out; omega) HFT.out).mono ?_
          rintro e W11 ⟨A11, rfl, ht11, hb11⟩
          refine hK.out _ _ ⟨Blk.below hS0.1 hb11 hS0.1.lt, hS0.2.trans (hb11.mono hS0.2.size)⟩ (fun hS11 => ?_)
          clear hK K
          simp only [List.setIfInBounds_toArray, List.set_cons_zero, List.set_cons_succ]
          refine wpAnyH_take (i := 9) (v := .int .i64 ((k' : Nat) : Int)) rfl (by kernel_rfl) (by kernel_rfl) (by kernel_rfl) (fun _ _ _ h => h) (Or.inl ⟨by rfl, fun w' hS' => by go_simp⟩) hS11 ?_
          change wpAnyH _ _ _ _ _ _ _ (Act.put _ (some 4) (.int .i64 ((k' : Nat) : Int))) _
          simp only [Act.put, List.setIfInBounds_toArray, List.set_cons_zero, List.set_cons_succ]
          refine wpAnyH_ready (rs := [10]) (by kernel_rfl) (by simp) (AllReadyH.cons rfl (fun K hK => ?_) (AllReadyH.nil))
          · skip
            have hk11 := HBr.out.drew.below hb11 HBr.out.lt
            obtain ⟨W13, hr13, hk13, hg13⟩ := op_storeQ hk11 r cl A11 m m
            refine step_op_skip (hr13 _ _ _ _ rfl rfl rfl) rfl ?_
            refine hK.out _ _ ⟨Blk.grown hS11.1 hg13 (fun e => HNrq.out (Option.some.inj e).symm), grown_below hS11.2 hg13 hS11.2.size HGr.out⟩ (fun hS13 => ?_)
            clear hK K
            change wpAnyH _ _ _ _ _ _ _ (Act.put _ none (undef)) _
            simp only [Act.put]
            refine wpAnyH_take (i := 11) (v := .int .i64 0) rfl (by kernel_rfl) (by kernel_rfl) (by kernel_rfl) (fun _ _ _ h => h) (Or.inl ⟨by rfl, fun w' hS' => by go_simp⟩) hS13 ?_
            change wpAnyH _ _ _ _ _ _ _ (Act.put _ (some 6) (.int .i64 0)) _
            simp only [Act.put, List.setIfInBounds_toArray, List.set_cons_zero, List.set_cons_succ]
            refine wpAnyH_done (by kernel_rfl) ?_ _
            refine NoPanic.normal ?_
            obtain ⟨z0, z1, z2⟩ := blk3 hk13
            have hn13 := (ht11.grown hg13 (fun g e => by injection e with e; rw [← e]; exact HBr.out.drew.lt)).less hS0.2.size
            have hb13 := hS13.2
            clear hr13 hg13
            go_wp2_with fail
            refine bodyPost_ret (v := .tuple #[.int .i64 (k' : Int), .agg #[.int .i64 r, .bool cl, .slice A11 m m], .int .i64 0]) (by simp [results, Try.results21, go_sem, z0, z1, z2]) rfl ?_
            rw [HT.out.1, HT.out.2.1, HT.out.2.2.1, HT.out.2.2.2.1, HT.out.2.2.2.2]
            exact ⟨A11, m, m, rfl, HO4.out.at_.2.1, Nat.le_refl _, hn13, hb13⟩

end Go.Proofs.Ytaelenjnjoeheaa
