/-
  Package queue: Put: what it tells, in new memory; nothing that was there is changed.
-/
import Derived.Test.YtaelenjnjoeheaaWit
namespace Go.Proofs.Ytaelenjnjoeheaa
open Go.RowKit P16

/-- what a Put, and a Drop, tells, in new memory -/
def PutNew (k0 : Nat) (r0 : Int) (b0 : Bool) (T0 : List Tk) (e0 : Int) (w : World) (e : Ending) (w' : World) : Prop :=
  ∃ (A : Option Addr) (n c : Nat), e = .returned (.tuple #[.int .i64 (k0 : Int), .agg #[.int .i64 r0, .bool b0, .slice A n c], .int .i64 e0]) ∧ T0.length = n ∧ n ≤ c ∧ TasksNew w.heap.size w' A T0 ∧ Below w.heap.size w w'
/-- what a Put, and a Drop, tells -/
def PutTold (k0 : Nat) (r0 : Int) (b0 : Bool) (T0 : List Tk) (e0 : Int) (w : World) (e : Ending) (w' : World) : Prop :=
  ∃ (A : Option Addr) (n c : Nat), e = .returned (.tuple #[.int .i64 (k0 : Int), .agg #[.int .i64 r0, .bool b0, .slice A n c], .int .i64 e0]) ∧ T0.length = n ∧ n ≤ c ∧ TasksAt w' A T0 ∧ Below w.heap.size w w'
theorem put_parts {k0 k1 : Nat} {r0 r1 : Int} {b0 b1 : Bool} {T0 T1 : List Tk} {e0 e1 : Int} (h : (k1, (⟨r1, b1, T1⟩ : Qu), e1) = (k0, (⟨r0, b0, T0⟩ : Qu), e0)) : k0 = k1 ∧ r0 = r1 ∧ b0 = b1 ∧ T0 = T1 ∧ e0 = e1 := by
  injection h with h1 h2
  injection h2 with h2 h3
  injection h2 with h4 h5 h6
  exact ⟨h1.symm, h4.symm, h5.symm, h6.symm, h3.symm⟩

set_option maxHeartbeats 8000000 in
set_option maxRecDepth 100000 in
theorem iput_any (r : Int) (cl : Bool) (T L : List Tk) (A B : Option Addr) (n c m d : Nat) (w : World) (k0 : Nat) (r0 : Int) (b0 : Bool) (T0 : List Tk) (e0 : Int) (ht : putQ ⟨r, cl, T⟩ L = (k0, ⟨r0, b0, T0⟩, e0))
    (ha : TasksAt w A T) (hn : T.length = n) (hc : n ≤ c) (hf : FitT T) (hb : TasksAt w B L) (hm : L.length = m) (hd : m ≤ d) (hfl : FitT L) :
    Calls Try.prog 13 #[.agg #[.int .i64 r, .bool cl, .slice A n c], .slice B m d] w (PutNew k0 r0 b0 T0 e0 w) := by
  obtain ⟨bo, hbo⟩ : ∃ bo, rightB ⟨r, cl, T⟩ = bo := ⟨_, rfl⟩
  have HBO := Lib.hid hbo
  have HT := Lib.hid ht
  have HA := Lib.hid ha
  have HL := Lib.hid hb
  have HF := Lib.hid hf
  have HFL := Lib.hid hfl
  have HN := Lib.hid hn
  have HM := Lib.hid hm
  have HC := Lib.hid hc
  clear hbo ht ha hb hf hfl hn hm hc
  go_enter Try.func13, Try.ntmps13
  go_upto_region 1 with (fail)
  have hb0 : Blk ((w.alloc (.cells #[.int .i64 r, .bool cl, .slice A n c] 24)).alloc (.cells #[.int .i64 0, .bool false, .slice none 0 0] 24)) w.heap.size 24 #[.int .i64 r, .bool cl, .slice A n c] := (Blk.new w _ _).alloc _
  have hb1 : Blk ((w.alloc (.cells #[.int .i64 r, .bool cl, .slice A n c] 24)).alloc (.cells #[.int .i64 0, .bool false, .slice none 0 0] 24)) (w.heap.size + 1) 24 #[.int .i64 0, .bool false, .slice none 0 0] := by
    have := Blk.new (w.alloc (.cells #[.int .i64 r, .bool cl, .slice A n c] 24)) 24 #[.int .i64 0, .bool false, .slice none 0 0]
    have h2 : Blk ((w.alloc (.cells #[.int .i64 r, .bool cl, .slice A n c] 24)).alloc (.cells #[.int .i64 0, .bool false, .slice none 0 0] 24)) (w.heap.size + 1) 24 #[.int .i64 0, .bool false, .slice none 0 0] := by simpa [Nat.add_assoc] using this
    exact h2
  have hw0 : Below w.heap.size w ((w.alloc (.cells #[.int .i64 r, .bool cl, .slice A n c] 24)).alloc (.cells #[.int .i64 0, .bool false, .slice none 0 0] 24)) := ((Below.refl _ _).alloc (Nat.le_refl _) _).alloc (by simp) _
  obtain ⟨w1, hw1⟩ : ∃ w1, w1 = (w.alloc (.cells #[.int .i64 r, .bool cl, .slice A n c] 24)).alloc (.cells #[.int .i64 0, .bool false, .slice none 0 0] 24) := ⟨_, rfl⟩
  obtain ⟨gq, hgq⟩ : ∃ g, g = w.heap.size := ⟨_, rfl⟩
  obtain ⟨gr, hgr⟩ : ∃ g, g = w.heap.size + 1 := ⟨_, rfl⟩
  rw [← hw1] at hb0 hb1 hw0 ⊢
  rw [← hgr] at hb1 ⊢
  rw [← hgq] at hb0
  have HGq : Hid (w.heap.size ≤ gq) := Lib.hid (by omega)
  have HGr : Hid (w.heap.size ≤ gr) := Lib.hid (by omega)
  have HNrq : Hid (gr ≠ gq) := Lib.hid (by omega)
  rw [show (⟨w.heap.size, 0, none⟩ : Addr) = ⟨gq, 0, none⟩ from by rw [hgq]]
  have HBq := Lib.hid hb0
  have HBr := Lib.hid hb1
  have HW := Lib.hid hw0
  clear hb0 hb1 hw0 hw1 hgq hgr

  obtain ⟨y0, y1, y2⟩ := blk3 HBq.out
  go_wp2_with fail
  refine (iright_any r cl T A n c bo HBO.out _ HN.out).mono ?_
  rintro e w2 ⟨rfl, hb2⟩
  have HBq := Lib.hid (HBq.out.below hb2 HBq.out.lt)
  have HBr := Lib.hid (HBr.out.below hb2 HBr.out.lt)
  have HW := Lib.hid (below_step HW.out hb2)

  clear hb2 y0 y1 y2
  cases bo with
  | false =>
    have HT : Hid (k0 = 0 ∧ r0 = 0 ∧ b0 = false ∧ T0 = [] ∧ e0 = 1) := Lib.hid (by have h := HT.out; rw [put_bad HBO.out] at h; exact put_parts h)
    obtain ⟨z0, z1, z2⟩ := blk3 HBr.out
    have q0 := Blk.frozen HBr.out 0
    have q1 := Blk.frozen HBr.out 1
    have q2 := Blk.frozen HBr.out 2
    go_wp2_with fail
    refine bodyPost_ret (v := .tuple #[.int .i64 0, .agg #[.int .i64 0, .bool false, .slice none 0 0], .int .i64 1]) (by simp [results, Try.results13, go_sem, z0, z1, z2]) rfl ?_
    rw [HT.out.1, HT.out.2.1, HT.out.2.2.1, HT.out.2.2.2.1, HT.out.2.2.2.2]
    exact ⟨none, 0, 0, rfl, rfl, Nat.le_refl _, TasksNew.nil, ((HW.out.setCell HGr.out _).setCell HGr.out _).setCell HGr.out _⟩

  | true =>
    obtain ⟨y0, y1, y2⟩ := blk3 HBq.out
    cases cl with
    | true =>
      have HT : Hid (k0 = 0 ∧ r0 = 0 ∧ b0 = false ∧ T0 = [] ∧ e0 = 13) := Lib.hid (by have h := HT.out; rw [put_closed HBO.out rfl] at h; exact put_parts h)
      obtain ⟨z0, z1, z2⟩ := blk3 HBr.out
      have q0 := Blk.frozen HBr.out 0
      have q1 := Blk.frozen HBr.out 1
      have q2 := Blk.frozen HBr.out 2
      go_wp2_with fail
      refine bodyPost_ret (v := .tuple #[.int .i64 0, .agg #[.int .i64 0, .bool false, .slice none 0 0], .int .i64 13]) (by simp [results, Try.results13, go_sem, z0, z1, z2]) rfl ?_
      rw [HT.out.1, HT.out.2.1, HT.out.2.2.1, HT.out.2.2.2.1, HT.out.2.2.2.2]
      exact ⟨none, 0, 0, rfl, rfl, Nat.le_refl _, TasksNew.nil, ((HW.out.setCell HGr.out _).setCell HGr.out _).setCell HGr.out _⟩

    | false =>
      obtain ⟨e1, e2, e3⟩ := right_iff.1 HBO.out
      simp only [HN.out] at e1 e2 e3
      obtain ⟨R, rfl⟩ := Int.eq_ofNat_of_zero_le e1
      have eR : R ≤ 4096 := by omega
      have eN : n ≤ R := by omega
      obtain ⟨k, hk⟩ : ∃ k, min m (R - n) = k := ⟨_, rfl⟩
      have hk1 : k ≤ m := by omega
      have hk2 : n + k ≤ 4096 := by omega
      have HMIN : Hid (min (m : Int) ((R : Int) - (n : Int)) = (k : Int)) := Lib.hid (by omega)
      have HK : Hid ((L.take k).length = k) := Lib.hid (by rw [List.length_take, HM.out]; omega)
      have HCO : Hid (comes ⟨(R : Int), false, T⟩ L.length = k) := Lib.hid (by unfold comes; simp only [HM.out, HN.out, Int.toNat_natCast]; exact hk)
      have HT : Hid (k0 = k ∧ r0 = (R : Int) ∧ b0 = false ∧ T0 = T ++ L.take k ∧ e0 = 0) := Lib.hid (by have h := HT.out; rw [put_ok HBO.out rfl] at h; simp only [HCO.out] at h; exact put_parts h)
      have HFT : Hid (FitT (T ++ L.take k)) := Lib.hid (HF.out.append (HFL.out.take k))
      clear e1 e2 e3 hk
      go_upto_region 6 with (fail)
      rw [HMIN.out]
      refine wp_region_noPanic ?_
      refine wp_region_held_drew (S := fun W => Blk W gq 24 #[.int .i64 (R : Int), .bool false, .slice A n c] ∧ Below w.heap.size w W) (by kernel_rfl) (⟨HBq.out.drew, HW.out.drew⟩) (fun hS0 => ?_)
      change wpAnyH _ _ _ _ _ 15 #[false, false, false, false, false, false, false, false, false, false, false, false, false, false, false] _ (World.drew _)
      refine wpAnyH_take (i := 0) (v := .int .i64 (k : Int)) rfl (by kernel_rfl) (by kernel_rfl) (by kernel_rfl) (fun _ _ _ h => h) (Or.inl ⟨by rfl, fun w' hS' => by go_simp⟩) hS0 ?_
      change wpAnyH _ _ _ _ _ _ _ (Act.put _ (some 24) (.int .i64 (k : Int))) _
      simp only [Act.put, List.setIfInBounds_toArray, List.set_cons_zero, List.set_cons_succ]
      refine wpAnyH_take (i := 1) (v := .agg #[.int .i64 (R : Int), .bool false, .slice A n c]) rfl (by kernel_rfl) (by kernel_rfl) (by kernel_rfl) (fun _ _ _ h => h) (Or.inl ⟨by rfl, fun w' hS' => by obtain ⟨y0, y1, y2⟩ := blk3 hS'.1; go_simp⟩) hS0 ?_
      change wpAnyH _ _ _ _ _ _ _ (Act.put _ (some 25) (.agg #[.int .i64 (R : Int), .bool false, .slice A n c])) _
      simp only [Act.put, List.setIfInBounds_toArray, List.set_cons_zero, List.set_cons_succ]
      refine wpAnyH_take (i := 2) (v := .agg #[.int .i64 (R : Int), .bool false, .slice A n c]) rfl (by kernel_rfl) (by kernel_rfl) (by kernel_rfl) (fun _ _ _ h => h) (Or.inl ⟨by rfl, fun w' hS' => by obtain ⟨y0, y1, y2⟩ := blk3 hS'.1; go_simp⟩) hS0 ?_
      change wpAnyH _ _ _ _ _ _ _ (Act.put _ (some 26) (.agg #[.int .i64 (R : Int), .bool false, .slice A n c])) _
      simp only [Act.put, List.setIfInBounds_toArray, List.set_cons_zero, List.set_cons_succ]
      refine wpAnyH_take (i := 3) (v := .pointer (some ⟨gq, 2, none⟩)) rfl (by kernel_rfl) (by kernel_rfl) (by kernel_rfl) (fun _ _ _ h => h) (Or.inl ⟨by rfl, fun w' hS' => by go_simp⟩) hS0 ?_
      change wpAnyH _ _ _ _ _ _ _ (Act.put _ (some 27) (.pointer (some ⟨gq, 2, none⟩))) _
      simp only [Act.put, List.setIfInBounds_toArray, List.set_cons_zero, List.set_cons_succ]
      refine wpAnyH_take (i := 4) (v := .slice A n c) rfl (by kernel_rfl) (by kernel_rfl) (by kernel_rfl) (fun _ _ _ h => h) (Or.inl ⟨by rfl, fun w' hS' => by obtain ⟨y0, y1, y2⟩ := blk3 hS'.1; go_simp⟩) hS0 ?_
      change wpAnyH _ _ _ _ _ _ _ (Act.put _ (some 28) (.slice A n c)) _
      simp only [Act.put, List.setIfInBounds_toArray, List.set_cons_zero, List.set_cons_succ]
      refine wpAnyH_take (i := 5) (v := .int .i64 (n : Int)) rfl (by kernel_rfl) (by kernel_rfl) (by kernel_rfl) (fun _ _ _ h => h) (Or.inl ⟨by rfl, fun w' hS' => by go_simp⟩) hS0 ?_
      change wpAnyH _ _ _ _ _ _ _ (Act.put _ (some 29) (.int .i64 (n : Int))) _
      simp only [Act.put, List.setIfInBounds_toArray, List.set_cons_zero, List.set_cons_succ]
      refine wpAnyH_take (i := 7) (v := .slice B m d) rfl (by kernel_rfl) (by kernel_rfl) (by kernel_rfl) (fun _ _ _ h => h) (Or.inl ⟨by rfl, fun w' hS' => by go_simp⟩) hS0 ?_
      change wpAnyH _ _ _ _ _ _ _ (Act.put _ (some 31) (.slice B m d)) _
      simp only [Act.put, List.setIfInBounds_toArray, List.set_cons_zero, List.set_cons_succ]
      refine wpAnyH_take (i := 8) (v := .int .i64 (k : Int)) rfl (by kernel_rfl) (by kernel_rfl) (by kernel_rfl) (fun _ _ _ h => h) (Or.inl ⟨by rfl, fun w' hS' => by go_simp⟩) hS0 ?_
      change wpAnyH _ _ _ _ _ _ _ (Act.put _ (some 32) (.int .i64 (k : Int))) _
      simp only [Act.put, List.setIfInBounds_toArray, List.set_cons_zero, List.set_cons_succ]
      refine wpAnyH_take (i := 9) (v := .slice B k d) rfl (by kernel_rfl) (by kernel_rfl) (by kernel_rfl) (fun _ _ _ h => h) (Or.inl ⟨by rfl, fun w' hS' => by go_simp; try (intro h; exact absurd h (by omega))⟩) hS0 ?_
      change wpAnyH _ _ _ _ _ _ _ (Act.put _ (some 33) (.slice B k d)) _
      simp only [Act.put, List.setIfInBounds_toArray, List.set_cons_zero, List.set_cons_succ]
      refine wpAnyH_ready (rs := [6]) (by kernel_rfl) (by simp) (AllReadyH.cons rfl (fun K hK => ?_) (AllReadyH.nil))
      · skip
        go_simp
        refine (stay_all (R : Int) false A n c _ HC.out).mono ?_
        rintro e W6 ⟨rfl, hb6⟩
        refine hK.out _ _ ⟨Blk.below hS0.1 hb6 hS0.1.lt, hS0.2.trans (hb6.mono hS0.2.size)⟩ (fun hS6 => ?_)
        clear hK K
        simp only [List.setIfInBounds_toArray, List.set_cons_zero, List.set_cons_succ]
        refine wpAnyH_ready (rs := [10]) (by kernel_rfl) (by simp) (AllReadyH.cons rfl (fun K hK => ?_) (AllReadyH.nil))
        · skip
          obtain ⟨A10, c10, W10, hr10, ht10, hc10, hg10⟩ := append_full n k d (HA.out.up hS6.2) HN.out ((HL.out.up hS6.2).take k) HK.out (by omega)
          have hb10 : Below W6.heap.size W6 W10 := ⟨hg10.os, hg10.tape, hg10.output, hg10.size, fun i hi => hg10.block i hi (by simp)⟩
          refine step_append_run2 hr10 rfl rfl rfl rfl rfl ?_
          refine hK.out _ _ ⟨Blk.below hS6.1 hb10 hS6.1.lt, hS6.2.trans (hb10.mono hS6.2.size)⟩ (fun hS10 => ?_)
          clear hK K
          change wpAnyH _ _ _ _ _ _ _ (Act.put _ (some 34) (.slice A10 (n + k) c10)) _
          simp only [Act.put, List.setIfInBounds_toArray, List.set_cons_zero, List.set_cons_succ]
          refine wpAnyH_ready (rs := [11]) (by kernel_rfl) (by simp) (AllReadyH.cons rfl (fun K hK => ?_) (AllReadyH.nil))
          · skip
            go_simp
            refine (with_any (R : Int) false A n c A10 (T ++ L.take k) (n + k) c10 _ ht10 (by rw [List.length_append, HN.out, HK.out]) (by omega) HFT.out).mono ?_
            rintro e W11 ⟨A11, rfl, ht11, hb11⟩
            refine hK.out _ _ ⟨Blk.below hS10.1 hb11 hS10.1.lt, hS10.2.trans (hb11.mono hS10.2.size)⟩ (fun hS11 => ?_)
            clear hK K
            simp only [List.setIfInBounds_toArray, List.set_cons_zero, List.set_cons_succ]
            refine wpAnyH_take (i := 12) (v := .int .i64 (k : Int)) rfl (by kernel_rfl) (by kernel_rfl) (by kernel_rfl) (fun _ _ _ h => h) (Or.inl ⟨by rfl, fun w' hS' => by go_simp⟩) hS11 ?_
            change wpAnyH _ _ _ _ _ _ _ (Act.put _ (some 4) (.int .i64 (k : Int))) _
            simp only [Act.put, List.setIfInBounds_toArray, List.set_cons_zero, List.set_cons_succ]
            refine wpAnyH_ready (rs := [13]) (by kernel_rfl) (by simp) (AllReadyH.cons rfl (fun K hK => ?_) (AllReadyH.nil))
            · skip
              have hk10 := HBr.out.drew.below (hb6.trans (hb10.mono hb6.size)) HBr.out.lt
              have hk11 := hk10.below hb11 hk10.lt
              obtain ⟨W13, hr13, hk13, hg13⟩ := op_storeQ hk11 (R : Int) false A11 (n + k) (n + k)
              refine step_op_skip (hr13 _ _ _ _ rfl rfl rfl) rfl ?_
              refine hK.out _ _ ⟨Blk.grown hS11.1 hg13 (fun e => HNrq.out (Option.some.inj e).symm), grown_below hS11.2 hg13 hS11.2.size HGr.out⟩ (fun hS13 => ?_)
              clear hK K
              change wpAnyH _ _ _ _ _ _ _ (Act.put _ none (undef)) _
              simp only [Act.put]
              refine wpAnyH_take (i := 14) (v := .int .i64 0) rfl (by kernel_rfl) (by kernel_rfl) (by kernel_rfl) (fun _ _ _ h => h) (Or.inl ⟨by rfl, fun w' hS' => by go_simp⟩) hS13 ?_
              change wpAnyH _ _ _ _ _ _ _ (Act.put _ (some 6) (.int .i64 0)) _
              simp only [Act.put, List.setIfInBounds_toArray, List.set_cons_zero, List.set_cons_succ]
              refine wpAnyH_done (by kernel_rfl) ?_ _
              refine NoPanic.normal ?_
              obtain ⟨z0, z1, z2⟩ := blk3 hk13
              have hn13 := (ht11.grown hg13 (fun g e => by injection e with e; rw [← e]; exact hk10.lt)).less hS10.2.size
              have hb13 := hS13.2
              clear hr10 hr13 hg13
              go_wp2_with fail
              refine bodyPost_ret (v := .tuple #[.int .i64 (k : Int), .agg #[.int .i64 (R : Int), .bool false, .slice A11 (n + k) (n + k)], .int .i64 0]) (by simp [results, Try.results13, go_sem, z0, z1, z2]) rfl ?_
              rw [HT.out.1, HT.out.2.1, HT.out.2.2.1, HT.out.2.2.2.1, HT.out.2.2.2.2]
              exact ⟨A11, n + k, n + k, rfl, by rw [List.length_append, HN.out, HK.out], Nat.le_refl _, hn13, hb13⟩

end Go.Proofs.Ytaelenjnjoeheaa
