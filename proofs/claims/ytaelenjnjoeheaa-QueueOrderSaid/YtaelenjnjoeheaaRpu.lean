/-
  collatorref16.Put tells what putQ says; collatorref16.New. Nothing that was there is changed.
-/
import Derived.Test.YtaelenjnjoeheaaIcl
namespace Go.Proofs.Ytaelenjnjoeheaa
open Go.RowKit P16

set_option maxHeartbeats 1000000 in
theorem rnew_any (r : Int) (w : World) (q : Qu) (e0 : Int) (ht : newQ r = (q, e0)) :
    Calls Try.prog 9 #[.int .i64 r] w (NewTold q e0 w) := by
  have HT := Lib.hid ht
  clear ht
  go_enter Try.func9, Try.ntmps9
  go_upto_region 1 with (fail)
  obtain ⟨g, w1, hg, hw, hk, hbe⟩ := box_new w 24 #[.int .i64 0, .bool false, .slice none 0 0]
  rw [← hw, ← hg]
  have HG : Hid (w.heap.size ≤ g) := Lib.hid (by omega)
  have HW := Lib.hid hbe
  obtain ⟨y0, y1, y2⟩ := blk3 hk
  have z0 := Blk.frozen hk 0
  have z1 := Blk.frozen hk 1
  have z2 := Blk.frozen hk 2
  clear hg hw hk hbe
  by_cases h0 : r < 0
  · have t0 : decide (r < 0) = true := decide_eq_true h0
    have HR : Hid (q = zeroQ ∧ e0 = 1) := Lib.hid (by
      have h := HT.out
      rw [new_bad (Bool.eq_false_iff.2 fun h => by have := (may_iff.1 h).1; omega)] at h
      injection h with h1 h2
      exact ⟨h1.symm, h2.symm⟩)
    go_wp2_with fail
    refine bodyPost_ret (v := .tuple #[.agg #[.int .i64 0, .bool false, .slice none 0 0], .int .i64 1]) (by simp [results, Try.results9, go_sem, y0, y1, y2]) rfl ?_
    rw [HR.out.1, HR.out.2]
    exact ⟨rfl, rfl, ((HW.out.setCell HG.out _).setCell HG.out _).setCell HG.out _⟩
  · have t0 : decide (r < 0) = false := decide_eq_false h0
    by_cases h1 : 4096 < r
    · have t1 : decide (4096 < r) = true := decide_eq_true h1
      have HR : Hid (q = zeroQ ∧ e0 = 1) := Lib.hid (by
        have h := HT.out
        rw [new_bad (Bool.eq_false_iff.2 fun h => by have := (may_iff.1 h).2; omega)] at h
        injection h with h1 h2
        exact ⟨h1.symm, h2.symm⟩)
      go_wp2_with fail
      refine bodyPost_ret (v := .tuple #[.agg #[.int .i64 0, .bool false, .slice none 0 0], .int .i64 1]) (by simp [results, Try.results9, go_sem, y0, y1, y2]) rfl ?_
      rw [HR.out.1, HR.out.2]
      exact ⟨rfl, rfl, ((HW.out.setCell HG.out _).setCell HG.out _).setCell HG.out _⟩
    · have t1 : decide (4096 < r) = false := decide_eq_false h1
      have HR : Hid (q = ⟨r, false, []⟩ ∧ e0 = 0) := Lib.hid (by
        have h := HT.out
        rw [new_ok (by omega) (by omega)] at h
        injection h with h1 h2
        exact ⟨h1.symm, h2.symm⟩)
      go_wp2_with fail
      refine bodyPost_ret (v := .tuple #[.agg #[.int .i64 r, .bool false, .slice none 0 0], .int .i64 0]) (by simp [results, Try.results9, go_sem, y0, y1, y2]) rfl ?_
      rw [HR.out.1, HR.out.2]
      exact ⟨rfl, rfl, ((HW.out.setCell HG.out _).setCell HG.out _).setCell HG.out _⟩

set_option maxHeartbeats 8000000 in
set_option maxRecDepth 100000 in
theorem rput_any (r : Int) (cl : Bool) (T L : List Tk) (A B : Option Addr) (n c m d : Nat) (w : World) (k0 : Nat) (r0 : Int) (b0 : Bool) (T0 : List Tk) (e0 : Int) (ht : putQ ⟨r, cl, T⟩ L = (k0, ⟨r0, b0, T0⟩, e0))
    (ha : TasksAt w A T) (hn : T.length = n) (hb : TasksAt w B L) (hm : L.length = m) :
    Calls Try.prog 14 #[.agg #[.int .i64 r, .bool cl, .slice A n c], .slice B m d] w (PutTold k0 r0 b0 T0 e0 w) := by
  obtain ⟨bo, hbo⟩ : ∃ bo, rightB ⟨r, cl, T⟩ = bo := ⟨_, rfl⟩
  have HBO := Lib.hid hbo
  have HT := Lib.hid ht
  have HA := Lib.hid ha
  have HL := Lib.hid hb
  have HN := Lib.hid hn
  have HM := Lib.hid hm
  clear hbo ht ha hb hn hm
  go_enter Try.func14, Try.ntmps14
  go_upto_region 1 with (fail)
  have hb0 : Blk ((w.alloc (.cells #[.int .i64 r, .bool cl, .slice A n c] 24)).alloc (.cells #[.int .i64 0, .bool false, .slice none 0 0] 24)) w.heap.size 24 #[.int .i64 r, .bool cl, .slice A n c] := (Blk.new w _ _).alloc _
  have hb1 : Blk ((w.alloc (.cells #[.int .i64 r, .bool cl, .slice A n c] 24)).alloc (.cells #[.int .i64 0, .bool false, .slice none 0 0] 24)) (w.heap.size + 1) 24 #[.int .i64 0, .bool false, .slice none 0 0] := by
    have := Blk.new (w.alloc (.cells #[.int .i64 r, .bool cl, .slice A n c] 24)) 24 #[.int .i64 0, .bool false, .slice none 0 0]
    have h2 : Blk ((w.alloc (.cells #[.int .i64 r, .bool cl, .slice A n c] 24)).alloc (.cells #[.int .i64 0, .bool false, .slice none 0 0] 24)) (w.heap.size + 1) 24 #[.int .i64 0, .bool false, .slice none 0 0] := by simpa [Nat.add_assoc] using this
    exact h2
  have hw0 : Below w.heap.size w ((w.alloc (.cells #[.int .i64 r, .bool cl, .slice A n c] 24)).alloc (.cells #[.int .i64 0, .bool false, .slice none 0 0] 24)) := ((Below.refl _ _).alloc (Nat.le_refl _) _).alloc (by simp) _
  obtain ⟨w1, hw1⟩ : ∃ w1, w1 = (w.alloc (.cells #[.int .i64 r, .bool cl, .slice A n c] 24)).alloc (.cells #[.int .i64 0, .bool false, .slice none 0 0] 24) := ⟨_, rfl⟩
  obtain ⟨gq, hgq⟩ : ∃ g, g = w.heap.size := ⟨_, rfl⟩
  obtain ⟨gr, hgr⟩ : ∃ g, g = w.heap.size + 1 := ⟨_, rfl⟩
  rw [← hw1] at hb0 hb1 hw0 ⊢
  rw [← hgr] at hb1 ⊢
  rw [← hgq] at hb0
  have HGq : Hid (w.heap.size ≤ gq) := Lib.hid (by omega)
  have HGr : Hid (w.heap.size ≤ gr) := Lib.hid (by omega)
  have HNrq : Hid (gr ≠ gq) := Lib.hid (by omega)
  rw [show (⟨w.heap.size, 0, none⟩ : Addr) = ⟨gq, 0, none⟩ from by rw [hgq]]
  have HBq := Lib.hid hb0
  have HBr := Lib.hid hb1
  have HW := Lib.hid hw0
  clear hb0 hb1 hw0 hw1 hgq hgr

  obtain ⟨y0, y1, y2⟩ := blk3 HBq.out
  go_wp2_with fail
  refine (rright_any r cl T A n c bo HBO.out _ HN.out).mono ?_
  rintro e w2 ⟨rfl, hb2⟩
  have HBq := Lib.hid (HBq.out.below hb2 HBq.out.lt)
  have HBr := Lib.hid (HBr.out.below hb2 HBr.out.lt)
  have HW := Lib.hid (below_step HW.out hb2)

  clear hb2 y0 y1 y2
  cases bo with
  | false =>
    have HT : Hid (k0 = 0 ∧ r0 = 0 ∧ b0 = false ∧ T0 = [] ∧ e0 = 1) := Lib.hid (by have h := HT.out; rw [put_bad HBO.out] at h; exact put_parts h)
    obtain ⟨z0, z1, z2⟩ := blk3 HBr.out
    have q0 := Blk.frozen HBr.out 0
    have q1 := Blk.frozen HBr.out 1
    have q2 := Blk.frozen HBr.out 2
    go_wp2_with fail
    refine bodyPost_ret (v := .tuple #[.int .i64 0, .agg #[.int .i64 0, .bool false, .slice none 0 0], .int .i64 1]) (by simp [results, Try.results14, go_sem, z0, z1, z2]) rfl ?_
    rw [HT.out.1, HT.out.2.1, HT.out.2.2.1, HT.out.2.2.2.1, HT.out.2.2.2.2]
    exact ⟨none, 0, 0, rfl, rfl, Nat.le_refl _, RowAt.nil, ((HW.out.setCell HGr.out _).setCell HGr.out _).setCell HGr.out _⟩

  | true =>
    obtain ⟨y0, y1, y2⟩ := blk3 HBq.out
    cases cl with
    | true =>
      have HT : Hid (k0 = 0 ∧ r0 = 0 ∧ b0 = false ∧ T0 = [] ∧ e0 = 13) := Lib.hid (by have h := HT.out; rw [put_closed HBO.out rfl] at h; exact put_parts h)
      obtain ⟨z0, z1, z2⟩ := blk3 HBr.out
      have q0 := Blk.frozen HBr.out 0
      have q1 := Blk.frozen HBr.out 1
      have q2 := Blk.frozen HBr.out 2
      go_wp2_with fail
      refine bodyPost_ret (v := .tuple #[.int .i64 0, .agg #[.int .i64 0, .bool false, .slice none 0 0], .int .i64 13]) (by simp [results, Try.results14, go_sem, z0, z1, z2]) rfl ?_
      rw [HT.out.1, HT.out.2.1, HT.out.2.2.1, HT.out.2.2.2.1, HT.out.2.2.2.2]
      exact ⟨none, 0, 0, rfl, rfl, Nat.le_refl _, RowAt.nil, ((HW.out.setCell HGr.out _).setCell HGr.out _).setCell HGr.out _⟩

    | false =>
      obtain ⟨e1, e2, e3⟩ := right_iff.1 HBO.out
      simp only [HN.out] at e1 e2 e3
      obtain ⟨R, rfl⟩ := Int.eq_ofNat_of_zero_le e1
      have eR : R ≤ 4096 := by omega
      have eN : n ≤ R := by omega
      obtain ⟨A3, c3, w3, hr3, ho3, _⟩ := append_tasks (OwnR.nil w2) n c (HA.out.up HW.out) HN.out T rfl (by rw [HN.out]; omega)
      rw [HN.out] at hr3 ho3
      have HR3 := Lib.hid hr3
      have HO3 : Hid (OwnT w2 w3 (.slice A3 (n + 0) c3) (T ++ L.take 0)) := Lib.hid (by simpa using ho3)
      clear e1 e2 e3 hr3 ho3
      go_wp2_with (at_builtin; refine wpList_append_run rfl rfl (by simp [Region.wanted]) rfl rfl HR3.out ?_; clear HR3)
      clear y0 y1 y2
      go_loopw [8, 9] (fun v i wr => ∃ (k c4 : Nat) (A4 : Option Addr), k ≤ m ∧ n + k ≤ R ∧ v = .slice A4 (n + k) c4 ∧ i = .int .i64 k ∧ Hid (OwnT w2 wr (.slice A4 (n + k) c4) (T ++ L.take k))) (fun _ i _ => m - (intOf i).toNat)
      case atStart => exact ⟨0, c3, A3, Nat.zero_le _, by omega, by simp, rfl, HO3⟩
      case round =>
        obtain ⟨k, c4, A4, hk, hkR, rfl, rfl, HO4⟩ := hrel
        obtain ⟨w4, rfl⟩ : ∃ w3, w3 = wr := ⟨_, rfl⟩
        obtain ⟨y0, y1, y2⟩ := blk3 (HBq.out.below HO4.out.2 HBq.out.lt)
        have HLR : Hid (gr < w2.heap.size) := Lib.hid HBr.out.lt
        by_cases g1 : k < m
        · have t1 : decide ((k : Int) < (m : Int)) = true := decide_eq_true (by omega)
          by_cases g2 : n + k < R
          · have t2 : decide (((n + k : Nat) : Int) < (R : Int)) = true := decide_eq_true (by omega)
            have t3 : decide ((n : Int) + (k : Int) < (R : Int)) = true := decide_eq_true (by omega)
            obtain ⟨x, hx⟩ : ∃ x, L[k]? = some x := ⟨_, List.getElem?_eq_getElem (by rw [HM.out]; exact g1)⟩
            obtain ⟨a, rfl, hal, c0, c1, c2, c3'⟩ := tasks_fields (HL.out.up (below_step HW.out HO4.out.2)) hx
            have HX := Lib.hid hx
            obtain ⟨A5, c5, w5, hr5, ho5, _⟩ := push_task HO4.out x (n + (k + 1)) (by rw [List.length_append, List.length_take, HN.out, HM.out]; omega) (by omega)
            have HR5 := Lib.hid hr5
            have HO5 : Hid (OwnT w2 w5 (.slice A5 (n + (k + 1)) c5) (T ++ L.take (k + 1))) := Lib.hid (by rw [take_snoc HX.out, ← List.append_assoc]; exact ho5)
            clear hx hr5 ho5
            go_wp2_with (at_builtin; refine wpList_append_run rfl rfl (by simp [Region.wanted]) rfl rfl HR5.out ?_; clear HR5)
            go_roundw
            case rel => exact ⟨k + 1, c5, A5, by omega, by omega, rfl, by go_num, HO5⟩
            case measure => simp [intOf]; omega
          · have t2 : decide (((n + k : Nat) : Int) < (R : Int)) = false := decide_eq_false (by omega)
            have t3 : decide ((n : Int) + (k : Int) < (R : Int)) = false := decide_eq_false (by omega)
            have HT : Hid (k0 = k ∧ r0 = (R : Int) ∧ b0 = false ∧ T0 = T ++ L.take k ∧ e0 = 0) := Lib.hid (by
              have h := HT.out
              have hco : comes ⟨(R : Int), false, T⟩ L.length = k := by unfold comes; simp only [HM.out, HN.out, Int.toNat_natCast]; omega
              rw [put_ok HBO.out rfl] at h; simp only [hco] at h; exact put_parts h)
            have HBq := Lib.hid (HBq.out.below HO4.out.2 HBq.out.lt)
            have HBr := Lib.hid (HBr.out.below HO4.out.2 HBr.out.lt)
            have HW := Lib.hid (below_step HW.out HO4.out.2)
            have HLN : Hid ((T ++ L.take k).length = n + k) := Lib.hid (by rw [List.length_append, List.length_take, HN.out, HM.out]; omega)
            have HCP : Hid (n + k ≤ c4) := Lib.hid (by rw [← HLN.out]; exact (OwnR.cap HO4.out).1)
            go_upto_region 11 with (fail)
            clear y0 y1 y2
            refine wp_region_noPanic ?_
            refine wp_region_held_drew (S := fun W => Blk W gq 24 #[.int .i64 (R : Int), .bool false, .slice A n c] ∧ Below w.heap.size w W) (by kernel_rfl) (⟨HBq.out.drew, HW.out.drew⟩) (fun hS0 => ?_)
            change wpAnyH _ _ _ _ _ 8 #[false, false, false, false, false, false, false, false] _ (World.drew _)
            refine wpAnyH_take (i := 0) (v := .int .i64 (k : Int)) rfl (by kernel_rfl) (by kernel_rfl) (by kernel_rfl) (fun _ _ _ h => h) (Or.inl ⟨by rfl, fun w' hS' => by go_simp⟩) hS0 ?_
            change wpAnyH _ _ _ _ _ _ _ (Act.put _ (some 41) (.int .i64 (k : Int))) _
            simp only [Act.put, List.setIfInBounds_toArray, List.set_cons_zero, List.set_cons_succ]
            refine wpAnyH_take (i := 1) (v := .pointer (some ⟨gq, 0, none⟩)) rfl (by kernel_rfl) (by kernel_rfl) (by kernel_rfl) (fun _ _ _ h => h) (Or.inl ⟨by rfl, fun w' hS' => by go_simp⟩) hS0 ?_
            change wpAnyH _ _ _ _ _ _ _ (Act.put _ (some 42) (.pointer (some ⟨gq, 0, none⟩))) _
            simp only [Act.put, List.setIfInBounds_toArray, List.set_cons_zero, List.set_cons_succ]
            refine wpAnyH_take (i := 2) (v := .int .i64 (R : Int)) rfl (by kernel_rfl) (by kernel_rfl) (by kernel_rfl) (fun _ _ _ h => h) (Or.inl ⟨by rfl, fun w' hS' => by obtain ⟨y0, y1, y2⟩ := blk3 hS'.1; go_simp⟩) hS0 ?_
            change wpAnyH _ _ _ _ _ _ _ (Act.put _ (some 43) (.int .i64 (R : Int))) _
            simp only [Act.put, List.setIfInBounds_toArray, List.set_cons_zero, List.set_cons_succ]
            refine wpAnyH_take (i := 3) (v := .slice A4 (n + k) c4) rfl (by kernel_rfl) (by kernel_rfl) (by kernel_rfl) (fun _ _ _ h => h) (Or.inl ⟨by rfl, fun w' hS' => by go_simp⟩) hS0 ?_
            change wpAnyH _ _ _ _ _ _ _ (Act.put _ (some 44) (.slice A4 (n + k) c4)) _
            simp only [Act.put, List.setIfInBounds_toArray, List.set_cons_zero, List.set_cons_succ]
            refine wpAnyH_take (i := 4) (v := .agg #[.int .i64 (R : Int), .bool false, .slice A4 (n + k) c4]) rfl (by kernel_rfl) (by kernel_rfl) (by kernel_rfl) (fun _ _ _ h => h) (Or.inl ⟨by rfl, fun w' hS' => by go_simp⟩) hS0 ?_
            change wpAnyH _ _ _ _ _ _ _ (Act.put _ (some 45) (.agg #[.int .i64 (R : Int), .bool false, .slice A4 (n + k) c4])) _
            simp only [Act.put, List.setIfInBounds_toArray, List.set_cons_zero, List.set_cons_succ]
            refine wpAnyH_take (i := 5) (v := .int .i64 (k : Int)) rfl (by kernel_rfl) (by kernel_rfl) (by kernel_rfl) (fun _ _ _ h => h) (Or.inl ⟨by rfl, fun w' hS' => by go_simp⟩) hS0 ?_
            change wpAnyH _ _ _ _ _ _ _ (Act.put _ (some 4) (.int .i64 (k : Int))) _
            simp only [Act.put, List.setIfInBounds_toArray, List.set_cons_zero, List.set_cons_succ]
            refine wpAnyH_ready (rs := [6]) (by kernel_rfl) (by simp) (AllReadyH.cons rfl (fun K hK => ?_) (AllReadyH.nil))
            · skip
              have hkr := HBr.out.drew
              obtain ⟨W6, hr6, hk6, hg6⟩ := op_storeQ hkr (R : Int) false A4 (n + k) c4
              refine step_op_skip (hr6 _ _ _ _ rfl rfl rfl) rfl ?_
              refine hK.out _ _ ⟨Blk.grown hS0.1 hg6 (fun e => HNrq.out (Option.some.inj e).symm), grown_below hS0.2 hg6 hS0.2.size HGr.out⟩ (fun hS6 => ?_)
              clear hK K
              change wpAnyH _ _ _ _ _ _ _ (Act.put _ none (undef)) _
              simp only [Act.put]
              refine wpAnyH_take (i := 7) (v := .int .i64 0) rfl (by kernel_rfl) (by kernel_rfl) (by kernel_rfl) (fun _ _ _ h => h) (Or.inl ⟨by rfl, fun w' hS' => by go_simp⟩) hS6 ?_
              change wpAnyH _ _ _ _ _ _ _ (Act.put _ (some 6) (.int .i64 0)) _
              simp only [Act.put, List.setIfInBounds_toArray, List.set_cons_zero, List.set_cons_succ]
              refine wpAnyH_done (by kernel_rfl) ?_ _
              refine NoPanic.normal ?_
              obtain ⟨z0, z1, z2⟩ := blk3 hk6
              have hn6 := (own_new HO4.out).drew.grown hg6 (fun g e => by injection e with e; rw [← e]; exact HLR.out)
              have hb6 := hS6.2
              clear hr6 hg6
              go_wp2_with fail
              refine bodyPost_ret (v := .tuple #[.int .i64 (k : Int), .agg #[.int .i64 (R : Int), .bool false, .slice A4 (n + k) c4], .int .i64 0]) (by simp [results, Try.results14, go_sem, z0, z1, z2]) rfl ?_
              rw [HT.out.1, HT.out.2.1, HT.out.2.2.1, HT.out.2.2.2.1, HT.out.2.2.2.2]
              exact ⟨A4, n + k, c4, rfl, HLN.out, HCP.out, hn6.at_, hb6⟩

        · have t1 : decide ((k : Int) < (m : Int)) = false := decide_eq_false (by omega)
          have HT : Hid (k0 = k ∧ r0 = (R : Int) ∧ b0 = false ∧ T0 = T ++ L.take k ∧ e0 = 0) := Lib.hid (by
            have h := HT.out
            have hco : comes ⟨(R : Int), false, T⟩ L.length = k := by unfold comes; simp only [HM.out, HN.out, Int.toNat_natCast]; omega
            rw [put_ok HBO.out rfl] at h; simp only [hco] at h; exact put_parts h)
          have HBq := Lib.hid (HBq.out.below HO4.out.2 HBq.out.lt)
          have HBr := Lib.hid (HBr.out.below HO4.out.2 HBr.out.lt)
          have HW := Lib.hid (below_step HW.out HO4.out.2)
          have HLN : Hid ((T ++ L.take k).length = n + k) := Lib.hid (by rw [List.length_append, List.length_take, HN.out, HM.out]; omega)
          have HCP : Hid (n + k ≤ c4) := Lib.hid (by rw [← HLN.out]; exact (OwnR.cap HO4.out).1)
          go_upto_region 11 with (fail)
          clear y0 y1 y2
          refine wp_region_noPanic ?_
          refine wp_region_held_drew (S := fun W => Blk W gq 24 #[.int .i64 (R : Int), .bool false, .slice A n c] ∧ Below w.heap.size w W) (by kernel_rfl) (⟨HBq.out.drew, HW.out.drew⟩) (fun hS0 => ?_)
          change wpAnyH _ _ _ _ _ 8 #[false, false, false, false, false, false, false, false] _ (World.drew _)
          refine wpAnyH_take (i := 0) (v := .int .i64 (k : Int)) rfl (by kernel_rfl) (by kernel_rfl) (by kernel_rfl) (fun _ _ _ h => h) (Or.inl ⟨by rfl, fun w' hS' => by go_simp⟩) hS0 ?_
          change wpAnyH _ _ _ _ _ _ _ (Act.put _ (some 41) (.int .i64 (k : Int))) _
          simp only [Act.put, List.setIfInBounds_toArray, List.set_cons_zero, List.set_cons_succ]
          refine wpAnyH_take (i := 1) (v := .pointer (some ⟨gq, 0, none⟩)) rfl (by kernel_rfl) (by kernel_rfl) (by kernel_rfl) (fun _ _ _ h => h) (Or.inl ⟨by rfl, fun w' hS' => by go_simp⟩) hS0 ?_
          change wpAnyH _ _ _ _ _ _ _ (Act.put _ (some 42) (.pointer (some ⟨gq, 0, none⟩))) _
          simp only [Act.put, List.setIfInBounds_toArray, List.set_cons_zero, List.set_cons_succ]
          refine wpAnyH_take (i := 2) (v := .int .i64 (R : Int)) rfl (by kernel_rfl) (by kernel_rfl) (by kernel_rfl) (fun _ _ _ h => h) (Or.inl ⟨by rfl, fun w' hS' => by obtain ⟨y0, y1, y2⟩ := blk3 hS'.1; go_simp⟩) hS0 ?_
          change wpAnyH _ _ _ _ _ _ _ (Act.put _ (some 43) (.int .i64 (R : Int))) _
          simp only [Act.put, List.setIfInBounds_toArray, List.set_cons_zero, List.set_cons_succ]
          refine wpAnyH_take (i := 3) (v := .slice A4 (n + k) c4) rfl (by kernel_rfl) (by kernel_rfl) (by kernel_rfl) (fun _ _ _ h => h) (Or.inl ⟨by rfl, fun w' hS' => by go_simp⟩) hS0 ?_
          change wpAnyH _ _ _ _ _ _ _ (Act.put _ (some 44) (.slice A4 (n + k) c4)) _
          simp only [Act.put, List.setIfInBounds_toArray, List.set_cons_zero, List.set_cons_succ]
          refine wpAnyH_take (i := 4) (v := .agg #[.int .i64 (R : Int), .bool false, .slice A4 (n + k) c4]) rfl (by kernel_rfl) (by kernel_rfl) (by kernel_rfl) (fun _ _ _ h => h) (Or.inl ⟨by rfl, fun w' hS' => by go_simp⟩) hS0 ?_
          change wpAnyH _ _ _ _ _ _ _ (Act.put _ (some 45) (.agg #[.int .i64 (R : Int), .bool false, .slice A4 (n + k) c4])) _
          simp only [Act.put, List.setIfInBounds_toArray, List.set_cons_zero, List.set_cons_succ]
          refine wpAnyH_take (i := 5) (v := .int .i64 (k : Int)) rfl (by kernel_rfl) (by kernel_rfl) (by kernel_rfl) (fun _ _ _ h => h) (Or.inl ⟨by rfl, fun w' hS' => by go_simp⟩) hS0 ?_
          change wpAnyH _ _ _ _ _ _ _ (Act.put _ (some 4) (.int .i64 (k : Int))) _
          simp only [Act.put, List.setIfInBounds_toArray, List.set_cons_zero, List.set_cons_succ]
          refine wpAnyH_ready (rs := [6]) (by kernel_rfl) (by simp) (AllReadyH.cons rfl (fun K hK => ?_) (AllReadyH.nil))
          · skip
            have hkr := HBr.out.drew
            obtain ⟨W6, hr6, hk6, hg6⟩ := op_storeQ hkr (R : Int) false A4 (n + k) c4
            refine step_op_skip (hr6 _ _ _ _ rfl rfl rfl) rfl ?_
            refine hK.out _ _ ⟨Blk.grown hS0.1 hg6 (fun e => HNrq.out (Option.some.inj e).symm), grown_below hS0.2 hg6 hS0.2.size HGr.out⟩ (fun hS6 => ?_)
            clear hK K
            change wpAnyH _ _ _ _ _ _ _ (Act.put _ none (undef)) _
            simp only [Act.put]
            refine wpAnyH_take (i := 7) (v := .int .i64 0) rfl (by kernel_rfl) (by kernel_rfl) (by kernel_rfl) (fun _ _ _ h => h) (Or.inl ⟨by rfl, fun w' hS' => by go_simp⟩) hS6 ?_
            change wpAnyH _ _ _ _ _ _ _ (Act.put _ (some 6) (.int .i64 0)) _
            simp only [Act.put, List.setIfInBounds_toArray, List.set_cons_zero, List.set_cons_succ]
            refine wpAnyH_done (by kernel_rfl) ?_ _
            refine NoPanic.normal ?_
            obtain ⟨z0, z1, z2⟩ := blk3 hk6
            have hn6 := (own_new HO4.out).drew.grown hg6 (fun g e => by injection e with e; rw [← e]; exact HLR.out)
            have hb6 := hS6.2
            clear hr6 hg6
            go_wp2_with fail
            refine bodyPost_ret (v := .tuple #[.int .i64 (k : Int), .agg #[.int .i64 (R : Int), .bool false, .slice A4 (n + k) c4], .int .i64 0]) (by simp [results, Try.results14, go_sem, z0, z1, z2]) rfl ?_
            rw [HT.out.1, HT.out.2.1, HT.out.2.2.1, HT.out.2.2.2.1, HT.out.2.2.2.2]
            exact ⟨A4, n + k, c4, rfl, HLN.out, HCP.out, hn6.at_, hb6⟩

end Go.Proofs.Ytaelenjnjoeheaa
