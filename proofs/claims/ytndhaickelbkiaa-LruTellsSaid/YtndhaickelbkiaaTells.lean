/-
  LruTells returns true, if package lru is as chapter 13 says: which slots may be, which there are, what is asked for, and put, is as the document says. Nothing that was there is changed.
-/
import Derived.Test.YtndhaickelbkiaaOrder
import Derived.Lib.MinMax
namespace Go.Proofs.Ytndhaickelbkiaa
open Go.RowKit

/-- two lists, written out -/
theorem op_lists2 (W : World) (A B : Option Addr) (n m c d : Nat) :
    ∃ g W1, (∀ (o : Oper) (x : Act) (p q : Nat), o.op = Op.buildSlice 31 2 #[(0, .tmp p), (1, .tmp q)] → x.eval (.tmp p) = .slice A n c → x.eval (.tmp q) = .slice B m d → (execOp x.eval o).run Try.prog W = .ok (.value (.slice (some ⟨g, 0, none⟩) 2 2)) W1) ∧
      Blk W1 g 22 #[.slice A n c, .slice B m d] ∧ Below W.heap.size W W1 := by
  refine ⟨W.heap.size, W.alloc (.cells #[.slice A n c, .slice B m d] 22), fun o x p q ho hx hy => ?_, Blk.new _ _ _, (Below.refl _ _).alloc (Nat.le_refl _) _⟩
  have hx' : x.tmps[p]?.getD undef = .slice A n c := by simpa [Act.eval] using hx
  have hy' : x.tmps[q]?.getD undef = .slice B m d := by simpa [Act.eval] using hy
  simp only [execOp, ho]
  go_simp
theorem take_slots {w : World} {A : Option Addr} {L : List Sl} (h : SlotsAt w A L) (k : Nat) : SlotsAt w A (L.take k) := RowAt.take h k
theorem bne_same (b : Bool) : (b != b) = false := by cases b <;> rfl

set_option maxHeartbeats 16000000 in
set_option maxRecDepth 100000 in
theorem tells_any (H : LruOk) (A0 A : Option Addr) (X : List Sl) (zs : List Int) (n0 c0 n c : Nat) (o : Sl) (key room : Int) (w : World) (hX : SlotsAt w A0 X) (hn0 : X.length = n0) (hc0 : n0 ≤ c0) (hfX : FitS X) (hfo : FitS [o])
    (ha : IntsAt w A zs) (hn : zs.length = n) (h1 : n ≤ 9223372036854775807) (hz : InRange zs)
    (k1 : -9223372036854775808 ≤ key) (k2 : key ≤ 9223372036854775807) (r1 : -9223372036854775808 ≤ room) (r2 : room ≤ 9223372036854775807) :
    Calls Try.prog 3 #[.slice A0 n0 c0, .slice A n c, .agg #[.int .u64 o.sum, .int .i64 o.len, .string o.left, .string o.right, .string o.val], .int .i64 key, .int .i64 room] w fun e w' => e = .returned (.bool true) ∧ Below w.heap.size w w' := by
  subst hn

  have HZ := Lib.hid ha
  have HI := Lib.hid hz
  have HX := Lib.hid hX
  have HFX := Lib.hid hfX
  have HFO := Lib.hid hfo
  obtain ⟨nx, hnx⟩ : ∃ nx : Nat, min (n0 : Int) 12 = (nx : Int) := ⟨min n0 12, by omega⟩
  have b1 : nx ≤ 12 := by omega
  have b2 : nx ≤ n0 := by omega
  have b3 : nx ≤ c0 := by omega
  have HNX := Lib.hid hnx
  have HXL : Hid ((X.take nx).length = nx) := Lib.hid (by rw [List.length_take, hn0]; omega)
  obtain ⟨p, hp⟩ : ∃ p, pickI room 10 = p := ⟨_, rfl⟩
  obtain ⟨p1, p2⟩ := pickI_range room 10 (by omega)
  rw [hp] at p1 p2
  have HP := Lib.hid hp
  obtain ⟨s, hs⟩ : ∃ s, s = slotOf key ⟨#[120]⟩ := ⟨_, rfl⟩
  have Hs := Lib.hid hs
  have HFS := Lib.hid (show FitS [s] by rw [hs]; exact fit_slotOf _ _ (by show 1 ≤ _; omega))
  clear ha hz hX hfX hfo hnx hp hs hn0
  go_enter Try.func3, Try.ntmps3
  go_wp2_with fail
  have hbk := Blk.new w 28 #[.int .u64 o.sum, .int .i64 o.len, .string o.left, .string o.right, .string o.val]
  have hal : Below w.heap.size w (w.alloc (.cells #[.int .u64 o.sum, .int .i64 o.len, .string o.left, .string o.right, .string o.val] 28)) := (Below.refl _ _).alloc (Nat.le_refl _) _
  obtain ⟨w0, hW⟩ : ∃ W, W = w.alloc (.cells #[.int .u64 o.sum, .int .i64 o.len, .string o.left, .string o.right, .string o.val] 28) := ⟨_, rfl⟩
  obtain ⟨g7, hg⟩ : ∃ g, g = w.heap.size := ⟨_, rfl⟩
  rw [← hW] at hbk hal ⊢
  rw [← hg] at hbk ⊢
  have K7 := Lib.hid hbk
  have HB0 := Lib.hid hal
  clear hbk hal hW hg
  refine (awake_any H _).mono ?_
  rintro e wA ⟨rfl, hB⟩
  have HBA := Lib.hid hB
  clear hB
  have JZ := Lib.hid (HZ.out.up (below_step HB0.out HBA.out))
  have JX := Lib.hid (HX.out.up (below_step HB0.out HBA.out))
  have JK := Lib.hid (Blk.below K7.out HBA.out K7.out.lt)
  have JW := Lib.hid (below_step HB0.out HBA.out)
  go_wp2_with fail
  refine wp_region_noPanic ?_
  refine wp_region_held_drew (S := fun W => Below wA.heap.size wA W) (by kernel_rfl) ((Below.refl wA.heap.size wA).drew) (fun hS0 => ?_)
  change wpAnyH _ _ _ _ _ 10 #[false, false, false, false, false, false, false, false, false, false] _ (World.drew _)
  refine wpAnyH_take (i := 0) (v := .slice A0 n0 c0) rfl (by kernel_rfl) (by kernel_rfl) (by kernel_rfl) (fun _ _ _ h => h) (Or.inl ⟨by rfl, fun w' hS' => by exact op_move rfl rfl⟩) hS0 ?_
  change wpAnyH _ _ _ _ _ _ _ (Act.put _ (some 34) (.slice A0 n0 c0)) _
  simp only [Act.put, List.setIfInBounds_toArray, List.set_cons_zero, List.set_cons_succ]
  refine wpAnyH_take (i := 1) (v := .slice A0 n0 c0) rfl (by kernel_rfl) (by kernel_rfl) (by kernel_rfl) (fun _ _ _ h => h) (Or.inl ⟨by rfl, fun w' hS' => by exact op_move rfl rfl⟩) hS0 ?_
  change wpAnyH _ _ _ _ _ _ _ (Act.put _ (some 35) (.slice A0 n0 c0)) _
  simp only [Act.put, List.setIfInBounds_toArray, List.set_cons_zero, List.set_cons_succ]
  refine wpAnyH_take (i := 2) (v := .int .i64 (n0 : Int)) rfl (by kernel_rfl) (by kernel_rfl) (by kernel_rfl) (fun _ _ _ h => h) (Or.inl ⟨by rfl, fun w' hS' => by go_simp⟩) hS0 ?_
  change wpAnyH _ _ _ _ _ _ _ (Act.put _ (some 36) (.int .i64 (n0 : Int))) _
  simp only [Act.put, List.setIfInBounds_toArray, List.set_cons_zero, List.set_cons_succ]
  refine wpAnyH_take (i := 3) (v := .int .i64 (nx : Int)) rfl (by kernel_rfl) (by kernel_rfl) (by kernel_rfl) (fun _ _ _ h => h) (Or.inl ⟨by rfl, fun w' hS' => by rw [← HNX.out]; go_simp⟩) hS0 ?_
  change wpAnyH _ _ _ _ _ _ _ (Act.put _ (some 37) (.int .i64 (nx : Int))) _
  simp only [Act.put, List.setIfInBounds_toArray, List.set_cons_zero, List.set_cons_succ]
  refine wpAnyH_take (i := 4) (v := .slice A0 nx c0) rfl (by kernel_rfl) (by kernel_rfl) (by kernel_rfl) (fun _ _ _ h => h) (Or.inl ⟨by rfl, fun w' hS' => by go_simp⟩) hS0 ?_
  change wpAnyH _ _ _ _ _ _ _ (Act.put _ (some 38) (.slice A0 nx c0)) _
  simp only [Act.put, List.setIfInBounds_toArray, List.set_cons_zero, List.set_cons_succ]
  refine wpAnyH_take (i := 5) (v := .slice A zs.length c) rfl (by kernel_rfl) (by kernel_rfl) (by kernel_rfl) (fun _ _ _ h => h) (Or.inl ⟨by rfl, fun w' hS' => by exact op_move rfl rfl⟩) hS0 ?_
  change wpAnyH _ _ _ _ _ _ _ (Act.put _ (some 39) (.slice A zs.length c)) _
  simp only [Act.put, List.setIfInBounds_toArray, List.set_cons_zero, List.set_cons_succ]
  refine wpAnyH_take (i := 9) (v := .int .i64 0) rfl (by kernel_rfl) (by kernel_rfl) (by kernel_rfl) (fun _ _ _ h => h) (Or.inl ⟨by rfl, fun w' hS' => by exact op_move rfl rfl⟩) hS0 ?_
  change wpAnyH _ _ _ _ _ _ _ (Act.put _ (some 43) (.int .i64 0)) _
  simp only [Act.put, List.setIfInBounds_toArray, List.set_cons_zero, List.set_cons_succ]
  refine wpAnyH_ready (rs := [6]) (by kernel_rfl) (by simp) (AllReadyH.cons rfl (fun K hK => ?_) (AllReadyH.nil))
  · skip
    go_simp
    refine (list_any A zs zs.length c _ (JZ.out.up hS0) rfl (by omega) HI.out).mono ?_
    rintro e wL ⟨Al, L, cl, rfl, hL, hLr, hL9, hLf, hBl⟩
    have HL := Lib.hid hL
    have HF := Lib.hid hLf
    refine hK.out _ _ (hS0.trans (hBl.mono hS0.size)) (fun hS1 => ?_)
    clear hL hLr hLf
    clear hK K
    simp only [List.setIfInBounds_toArray, List.set_cons_zero, List.set_cons_succ]
    refine wpAnyH_ready (rs := [7]) (by kernel_rfl) (by simp) (AllReadyH.cons rfl (fun K hK => ?_) (AllReadyH.nil))
    · skip
      obtain ⟨ga, w2, hr2, hb2, hB2⟩ := op_lists2 wL A0 Al nx L.length c0 cl
      refine step_op_run (hr2 _ _ _ _ rfl rfl rfl) rfl ?_
      refine hK.out _ _ (hS1.trans (hB2.mono hS1.size)) (fun hS2 => ?_)
      clear hK K
      change wpAnyH _ _ _ _ _ _ _ (Act.put _ (some 41) (.slice (some ⟨ga, 0, none⟩) 2 2)) _
      simp only [Act.put, List.setIfInBounds_toArray, List.set_cons_zero, List.set_cons_succ]
      refine wpAnyH_take (i := 8) (v := .int .i64 2) rfl (by kernel_rfl) (by kernel_rfl) (by kernel_rfl) (fun _ _ _ h => h) (Or.inl ⟨by rfl, fun w' hS' => by go_simp⟩) hS2 ?_
      change wpAnyH _ _ _ _ _ _ _ (Act.put _ (some 42) (.int .i64 2)) _
      simp only [Act.put, List.setIfInBounds_toArray, List.set_cons_zero, List.set_cons_succ]
      refine wpAnyH_done (by kernel_rfl) ?_ _
      refine NoPanic.normal ?_
      have HB2 := Lib.hid hS2
      have HT : Hid (∀ k : Nat, k < 2 → ∃ (A1 : Option Addr) (L1 : List Sl) (n1 c1 : Nat), (∀ W, Below w2.heap.size w2 W → W.cell? ⟨ga, k, none⟩ = some (.slice A1 n1 c1)) ∧ L1.length = n1 ∧ n1 ≤ 12 ∧ SlotsAt w2 A1 L1 ∧ FitS L1) := Lib.hid fun k hk => by
        rcases (show k = 0 ∨ k = 1 by omega) with rfl | rfl
        · exact ⟨A0, X.take nx, nx, c0, fun W hW => (Blk.below hb2 hW hb2.lt).cell 0, HXL.out, b1, RowAt.up (take_slots JX.out nx) HB2.out, HFX.out.take nx⟩
        · exact ⟨Al, L, L.length, cl, fun W hW => (Blk.below hb2 hW hb2.lt).cell 1, rfl, by omega, RowAt.up HL.out hB2, HF.out⟩
      have K2 := Lib.hid (Blk.below JK.out HB2.out JK.out.lt)
      have HZW := Lib.hid (below_step JW.out HB2.out)
      clear hr2 hb2 hB2 hBl hS0 hS1 hS2
      go_wp2_with fail
      go_loopw [43] (fun i wv => ∃ k : Nat, k ≤ 2 ∧ i = .int .i64 k ∧ Below w2.heap.size w2 wv) (fun i _ => 2 - (intOf i).toNat)
      case atStart => exact ⟨0, Nat.zero_le _, rfl, Below.refl _ _⟩
      case round =>
        obtain ⟨ko, hkko, rfl, hB⟩ := hrel
        obtain ⟨w3, rfl⟩ : ∃ w3, w3 = wr := ⟨_, rfl⟩
        have HB3 := Lib.hid hB
        clear hB
        by_cases gko : ko < 2
        case neg =>
          go_wp2_with fail
          go_ret
          exact ⟨rfl, below_step HZW.out HB3.out⟩
        obtain ⟨A1, L1, n1, c1, hcell, hn1, hn12, hL1, hF1⟩ := HT.out ko gko
        have hc1 := hcell _ HB3.out
        have H1 := Lib.hid (RowAt.up hL1 HB3.out)
        have HF1 := Lib.hid hF1
        subst hn1
        obtain ⟨rb, hrb⟩ : ∃ rb, rightB L1 = rb := ⟨_, rfl⟩
        have HRB := Lib.hid hrb
        have nb := bne_same rb
        clear hcell hL1 hF1 hrb
        go_wp2_with fail
        refine (H.keys A1 L1 L1.length c1 _ H1.out rfl (by omega)).mono ?_
        rintro e w4 ⟨Ak, nk, ck, rfl, hnk, hK, hB⟩
        subst hnk
        have HKA := Lib.hid hK
        have HB4 := Lib.hid hB
        clear hK hB hc1
        go_wp2_with fail
        refine (rkeys_any A1 L1 L1.length c1 _ (H1.out.up HB4.out) rfl (by omega)).mono ?_
        rintro e w5 ⟨vk, rfl, hO⟩
        obtain ⟨Aq, cq, rfl⟩ := hO.slice
        have HKB := Lib.hid (OwnR.at_ k_len hO rfl)
        have HB5 := Lib.hid hO.2
        have HKL := Lib.hid (keys_length L1)
        clear hO
        rw [HKL.out]
        go_wp2_with fail
        refine (H.right A1 L1 L1.length c1 _ rb HRB.out (H1.out.up (below_step HB4.out HB5.out)) rfl (by omega) HF1.out).mono ?_
        rintro e w6 ⟨rfl, hB⟩
        have HB6 := Lib.hid hB
        clear hB
        go_wp2_with fail
        refine (rright_v A1 L1 L1.length c1 _ (H1.out.up (below_step (below_step HB4.out HB5.out) HB6.out)) rfl (by omega) rb HRB.out).mono ?_
        rintro e w7 ⟨rfl, q7, hw7⟩
        have HB7 : Hid (Below w6.heap.size w6 w7) := Lib.hid (by rw [hw7]; exact below_drewN (Below.refl _ _) _)
        clear hw7
        go_wp2_with fail
        have J1 := Lib.hid (HKA.out.up (below_step (below_step HB5.out HB6.out) HB7.out))
        have J2 := Lib.hid (HKB.out.up (below_step HB6.out HB7.out))
        go_loopw [16] (fun i wv => ∃ k3 : Nat, k3 ≤ L1.length ∧ i = .int .i64 k3 ∧ ∃ qd, wv = w7.drewN qd) (fun i _ => L1.length - (intOf i).toNat)
        case atStart => exact ⟨0, Nat.zero_le _, rfl, 0, rfl⟩
        case round =>
          obtain ⟨k3, hk3', rfl, qd, rfl⟩ := hrel
          by_cases g5 : k3 < L1.length
          · obtain ⟨kk, hkk⟩ : ∃ kk, (keysL L1)[k3]? = some kk := ⟨_, List.getElem?_eq_getElem (by rw [keys_length]; exact g5)⟩
            obtain ⟨y1, ey1, _, d0, d1⟩ := keys_fields J1.out hkk
            subst ey1
            obtain ⟨y2, ey2, _, d2, d3⟩ := keys_fields J2.out hkk
            subst ey2
            clear hkk
            go_wp2_with fail
            go_quiet (fail)
            go_wp2_with fail
            go_roundw
            case rel => exact ⟨k3 + 1, by omega, by go_num, qd + nq, rfl⟩
            case measure => simp [intOf]; omega
          obtain ⟨w8, hw8⟩ : ∃ w8, w8 = w7.drewN qd := ⟨_, rfl⟩
          have HB8 : Hid (Below w7.heap.size w7 w8) := Lib.hid (by rw [hw8]; exact below_drewN (Below.refl _ _) _)
          rw [← hw8]
          clear hw8
          have HC7 : Hid (∀ W, Below w8.heap.size w8 W → W.cell? ⟨g7, 0, none⟩ = some (.int .u64 o.sum) ∧ W.cell? ⟨g7, 1, none⟩ = some (.int .i64 o.len) ∧ W.cell? ⟨g7, 2, none⟩ = some (.string o.left) ∧ W.cell? ⟨g7, 3, none⟩ = some (.string o.right) ∧ W.cell? ⟨g7, 4, none⟩ = some (.string o.val)) := Lib.hid fun W hW => blk_cells (Blk.below K2.out (below_step (below_step (below_step (below_step (below_step HB3.out HB4.out) HB5.out) HB6.out) HB7.out) HB8.out) K2.out.lt) hW
          go_wp2_with fail
          refine wp_region_noPanic ?_
          refine wp_region_held_drew (S := fun W => Below w8.heap.size w8 W) (by kernel_rfl) ((Below.refl w8.heap.size w8).drew) (fun hT0 => ?_)
          change wpAnyH _ _ _ _ _ 6 #[false, false, false, false, false, false] _ (World.drew _)
          refine wpAnyH_take (i := 0) (v := .agg #[.int .u64 o.sum, .int .i64 o.len, .string o.left, .string o.right, .string o.val]) rfl (by kernel_rfl) (by kernel_rfl) (by kernel_rfl) (fun _ _ _ h => h) (Or.inl ⟨by rfl, fun w' hS' => by obtain ⟨y0, y1, y2, y3, y4⟩ := HC7.out _ hS'; go_simp⟩) hT0 ?_
          change wpAnyH _ _ _ _ _ _ _ (Act.put _ (some 78) (.agg #[.int .u64 o.sum, .int .i64 o.len, .string o.left, .string o.right, .string o.val])) _
          simp only [Act.put, List.setIfInBounds_toArray, List.set_cons_zero, List.set_cons_succ]
          refine wpAnyH_take (i := 1) (v := .int .i64 key) rfl (by kernel_rfl) (by kernel_rfl) (by kernel_rfl) (fun _ _ _ h => h) (Or.inl ⟨by rfl, fun w' hS' => by exact op_move rfl rfl⟩) hT0 ?_
          change wpAnyH _ _ _ _ _ _ _ (Act.put _ (some 79) (.int .i64 key)) _
          simp only [Act.put, List.setIfInBounds_toArray, List.set_cons_zero, List.set_cons_succ]
          refine wpAnyH_take (i := 5) (v := .int .i64 0) rfl (by kernel_rfl) (by kernel_rfl) (by kernel_rfl) (fun _ _ _ h => h) (Or.inl ⟨by rfl, fun w' hS' => by exact op_move rfl rfl⟩) hT0 ?_
          change wpAnyH _ _ _ _ _ _ _ (Act.put _ (some 83) (.int .i64 0)) _
          simp only [Act.put, List.setIfInBounds_toArray, List.set_cons_zero, List.set_cons_succ]
          refine wpAnyH_ready (rs := [2]) (by kernel_rfl) (by simp) (AllReadyH.cons rfl (fun K hK => ?_) (AllReadyH.nil))
          · skip
            go_simp
            refine (slot_any key ⟨#[120]⟩ _ k1 k2).mono ?_
            rintro e w9 ⟨rfl, hB9⟩
            rw [← Hs.out]
            refine hK.out _ _ (hT0.trans (hB9.mono hT0.size)) (fun hT1 => ?_)
            clear hK K
            simp only [List.setIfInBounds_toArray, List.set_cons_zero, List.set_cons_succ]
            refine wpAnyH_ready (rs := [3]) (by kernel_rfl) (by simp) (AllReadyH.cons rfl (fun K hK => ?_) (AllReadyH.nil))
            · skip
              obtain ⟨gs, w10, hr10, ho10⟩ := op_slice2 o s w9
              refine step_op_run (hr10 _ _ _ _ rfl rfl rfl) rfl ?_
              refine hK.out _ _ (hT1.trans (ho10.2.mono hT1.size)) (fun hT2 => ?_)
              clear hK K
              change wpAnyH _ _ _ _ _ _ _ (Act.put _ (some 81) (.slice (some ⟨gs, 0, none⟩) 2 2)) _
              simp only [Act.put, List.setIfInBounds_toArray, List.set_cons_zero, List.set_cons_succ]
              refine wpAnyH_take (i := 4) (v := .int .i64 2) rfl (by kernel_rfl) (by kernel_rfl) (by kernel_rfl) (fun _ _ _ h => h) (Or.inl ⟨by rfl, fun w' hS' => by go_simp⟩) hT2 ?_
              change wpAnyH _ _ _ _ _ _ _ (Act.put _ (some 82) (.int .i64 2)) _
              simp only [Act.put, List.setIfInBounds_toArray, List.set_cons_zero, List.set_cons_succ]
              refine wpAnyH_done (by kernel_rfl) ?_ _
              refine NoPanic.normal ?_
              have HB10 := Lib.hid hT2
              have HLIT := Lib.hid (OwnR.at_ sl_len ho10 rfl)
              clear hr10 ho10 hB9 hT0 hT1 hT2
              go_wp2_with fail
              go_loopw [83] (fun i wv => ∃ k : Nat, k ≤ 2 ∧ i = .int .i64 k ∧ Below w10.heap.size w10 wv) (fun i _ => 2 - (intOf i).toNat)
              case atStart => exact ⟨0, Nat.zero_le _, rfl, Below.refl _ _⟩
              case round =>
                obtain ⟨km, hkkm, rfl, hB⟩ := hrel
                obtain ⟨w11, rfl⟩ : ∃ w11, w11 = wr := ⟨_, rfl⟩
                have HB11 := Lib.hid hB
                clear hB
                by_cases gkm : km < 2
                case neg =>
                  go_wp2_with fail
                  go_roundw
                  case rel => exact ⟨ko + 1, by omega, by go_num, (below_step (below_step (below_step (below_step (below_step (below_step (below_step HB3.out HB4.out) HB5.out) HB6.out) HB7.out) HB8.out) HB10.out) HB11.out)⟩
                  case measure => simp [intOf]; omega
                obtain ⟨x, hx, hfx⟩ : ∃ x, [o, s][km]? = some x ∧ FitS [x] := by
                  rcases (show km = 0 ∨ km = 1 by omega) with rfl | rfl
                  · exact ⟨o, rfl, HFO.out⟩
                  · exact ⟨s, rfl, HFS.out⟩
                obtain ⟨a1, ea1, _, d0, d1, d2, d3, d4⟩ := slots_fields (HLIT.out.up HB11.out) hx
                injection ea1 with ea1
                subst ea1
                rw [add_zero_block] at d0 d1 d2 d3 d4
                have HFXX := Lib.hid hfx
                clear hx hfx
                go_upto_region 17 with (fail)
                have hbk := Blk.new w11 28 #[.int .u64 x.sum, .int .i64 x.len, .string x.left, .string x.right, .string x.val]
                have hal : Below w11.heap.size w11 (w11.alloc (.cells #[.int .u64 x.sum, .int .i64 x.len, .string x.left, .string x.right, .string x.val] 28)) := (Below.refl _ _).alloc (Nat.le_refl _) _
                obtain ⟨w12, hW⟩ : ∃ W, W = w11.alloc (.cells #[.int .u64 x.sum, .int .i64 x.len, .string x.left, .string x.right, .string x.val] 28) := ⟨_, rfl⟩
                obtain ⟨g18, hg⟩ : ∃ g, g = w11.heap.size := ⟨_, rfl⟩
                rw [← hW] at hbk hal ⊢
                rw [← hg] at hbk ⊢
                have K18 := Lib.hid hbk
                have HB12 := Lib.hid hal
                clear hbk hal hW hg
                clear d0 d1 d2 d3 d4
                obtain ⟨⟨y, M, hc⟩, hg⟩ : ∃ r, getM L1 (x.sum, x.len) = r := ⟨_, rfl⟩
                have HGM := Lib.hid hg
                have nc : (hc != hc) = false := by simp
                clear hg
                have u0 := Blk.cell K18.out 0
                have u1 := Blk.cell K18.out 1
                have u2 := Blk.cell K18.out 2
                have u3 := Blk.cell K18.out 3
                have u4 := Blk.cell K18.out 4
                simp only [List.getElem?_toArray, List.getElem?_cons_zero, List.getElem?_cons_succ] at u0 u1 u2 u3 u4
                have ul := Blk.lt K18.out
                go_wp2_with fail
                clear u0 u1 u2 u3 u4 ul
                refine (H.get A1 L1 L1.length c1 x.sum x.len _ y M hc HGM.out (H1.out.up (below_step (below_step (below_step (below_step (below_step (below_step (below_step HB4.out HB5.out) HB6.out) HB7.out) HB8.out) HB10.out) HB11.out) HB12.out)) rfl (by omega) HF1.out).mono ?_
                rintro e wa ⟨Aa, na, ca, rfl, hna, hM, hB⟩
                have HNa := Lib.hid hM
                have HBa := Lib.hid hB
                clear hM hB
                subst hna
                go_upto_region 18 with (fail)
                have hbk := Blk.new wa 28 #[.int .u64 y.sum, .int .i64 y.len, .string y.left, .string y.right, .string y.val]
                have hal : Below wa.heap.size wa (wa.alloc (.cells #[.int .u64 y.sum, .int .i64 y.len, .string y.left, .string y.right, .string y.val] 28)) := (Below.refl _ _).alloc (Nat.le_refl _) _
                obtain ⟨w13, hW⟩ : ∃ W, W = wa.alloc (.cells #[.int .u64 y.sum, .int .i64 y.len, .string y.left, .string y.right, .string y.val] 28) := ⟨_, rfl⟩
                obtain ⟨g19, hg⟩ : ∃ g, g = wa.heap.size := ⟨_, rfl⟩
                rw [← hW] at hbk hal ⊢
                rw [← hg] at hbk ⊢
                have K19 := Lib.hid hbk
                have HB13 := Lib.hid hal
                clear hbk hal hW hg
                have u0 := Blk.cell (Blk.below K18.out (below_step HBa.out HB13.out) K18.out.lt) 0
                have u1 := Blk.cell (Blk.below K18.out (below_step HBa.out HB13.out) K18.out.lt) 1
                have u2 := Blk.cell (Blk.below K18.out (below_step HBa.out HB13.out) K18.out.lt) 2
                have u3 := Blk.cell (Blk.below K18.out (below_step HBa.out HB13.out) K18.out.lt) 3
                have u4 := Blk.cell (Blk.below K18.out (below_step HBa.out HB13.out) K18.out.lt) 4
                simp only [List.getElem?_toArray, List.getElem?_cons_zero, List.getElem?_cons_succ] at u0 u1 u2 u3 u4
                have ul := Blk.lt (Blk.below K18.out (below_step HBa.out HB13.out) K18.out.lt)
                go_wp2_with fail
                clear u0 u1 u2 u3 u4 ul
                refine (rget_any A1 L1 L1.length c1 x.sum x.len _ y M hc HGM.out (H1.out.up (below_step (below_step (below_step (below_step (below_step (below_step (below_step (below_step (below_step HB4.out HB5.out) HB6.out) HB7.out) HB8.out) HB10.out) HB11.out) HB12.out) HBa.out) HB13.out)) rfl (by omega)).mono ?_
                rintro e wb ⟨Ab, nb2, cb, rfl, hnb, hM, hB⟩
                subst hnb
                have HNb := Lib.hid hM
                have HBb := Lib.hid hB
                clear hM hB
                have hml : M.length ≤ 100 := by
                  have h := HGM.out
                  unfold getM at h
                  cases hr : rightB L1 with
                  | false => rw [hr] at h; simp only [Bool.false_eq_true, if_false, Prod.mk.injEq] at h; rw [← h.2.1]; simp
                  | true =>
                    rcases getM_cases HGM.out hr with ⟨_, hM, hy, _⟩ | ⟨_, hM, _, _⟩
                    · rw [hM]; have := P13.length_got (rightB_iff.1 hr) hy; have e : (y :: withoutS L1 y.key).length = L1.length := this; omega
                    · rw [hM]; simp
                go_upto_region 19 with (fail)
                have hbk := Blk.new wb 28 #[.int .u64 y.sum, .int .i64 y.len, .string y.left, .string y.right, .string y.val]
                have hal : Below wb.heap.size wb (wb.alloc (.cells #[.int .u64 y.sum, .int .i64 y.len, .string y.left, .string y.right, .string y.val] 28)) := (Below.refl _ _).alloc (Nat.le_refl _) _
                obtain ⟨w14, hW⟩ : ∃ W, W = wb.alloc (.cells #[.int .u64 y.sum, .int .i64 y.len, .string y.left, .string y.right, .string y.val] 28) := ⟨_, rfl⟩
                obtain ⟨g22, hg⟩ : ∃ g, g = wb.heap.size := ⟨_, rfl⟩
                rw [← hW] at hbk hal ⊢
                rw [← hg] at hbk ⊢
                have K22 := Lib.hid hbk
                have HB14 := Lib.hid hal
                clear hbk hal hW hg
                have u0 := Blk.cell (Blk.below K19.out (below_step HBb.out HB14.out) K19.out.lt) 0
                have u1 := Blk.cell (Blk.below K19.out (below_step HBb.out HB14.out) K19.out.lt) 1
                have u2 := Blk.cell (Blk.below K19.out (below_step HBb.out HB14.out) K19.out.lt) 2
                have u3 := Blk.cell (Blk.below K19.out (below_step HBb.out HB14.out) K19.out.lt) 3
                have u4 := Blk.cell (Blk.below K19.out (below_step HBb.out HB14.out) K19.out.lt) 4
                simp only [List.getElem?_toArray, List.getElem?_cons_zero, List.getElem?_cons_succ] at u0 u1 u2 u3 u4
                have ul := Blk.lt (Blk.below K19.out (below_step HBb.out HB14.out) K19.out.lt)
                have v0 := Blk.cell K22.out 0
                have v1 := Blk.cell K22.out 1
                have v2 := Blk.cell K22.out 2
                have v3 := Blk.cell K22.out 3
                have v4 := Blk.cell K22.out 4
                simp only [List.getElem?_toArray, List.getElem?_cons_zero, List.getElem?_cons_succ] at v0 v1 v2 v3 v4
                have vl := Blk.lt K22.out
                go_wp2_with fail
                clear u0 u1 u2 u3 u4 ul v0 v1 v2 v3 v4 vl
                refine (same_true Aa Ab M M.length M.length ca cb _ (HNa.out.up (below_step (below_step HB13.out HBb.out) HB14.out)) (HNb.out.up HB14.out) rfl rfl (by omega)).mono ?_
                rintro e w15 ⟨rfl, q15, hw15⟩
                have HB15 : Hid (Below w14.heap.size w14 w15) := Lib.hid (by rw [hw15]; exact below_drewN (Below.refl _ _) _)
                clear hw15
                go_wp2_with fail
                refine (pick_any room 10 _ r1 r2 (by omega) (by omega)).mono ?_
                rintro e wpk ⟨rfl, rfl⟩
                rw [HP.out]
                go_wp2_with fail
                have hbk := Blk.new w15 3 #[.int .i64 room, .int .i64 p]
                have hal : Below w15.heap.size w15 (w15.alloc (.cells #[.int .i64 room, .int .i64 p] 3)) := (Below.refl _ _).alloc (Nat.le_refl _) _
                obtain ⟨w16, hW⟩ : ∃ W, W = w15.alloc (.cells #[.int .i64 room, .int .i64 p] 3) := ⟨_, rfl⟩
                obtain ⟨gr, hg⟩ : ∃ g, g = w15.heap.size := ⟨_, rfl⟩
                rw [← hW] at hbk hal ⊢
                rw [← hg] at hbk ⊢
                have KR := Lib.hid hbk
                have HB16 := Lib.hid hal
                clear hbk hal hW hg
                have HR2 : Hid (∀ k : Nat, k < 2 → ∃ r : Int, (∀ W, Below w16.heap.size w16 W → W.cell? ⟨gr, k, none⟩ = some (.int .i64 r)) ∧ -9223372036854775808 ≤ r ∧ r ≤ 9223372036854775807) := Lib.hid fun k hk => by
                  rcases (show k = 0 ∨ k = 1 by omega) with rfl | rfl
                  · exact ⟨room, fun W hW => (Blk.below KR.out hW KR.out.lt).cell 0, r1, r2⟩
                  · exact ⟨p, fun W hW => (Blk.below KR.out hW KR.out.lt).cell 1, by omega, by omega⟩
                go_loopw [122] (fun i wv => ∃ k : Nat, k ≤ 2 ∧ i = .int .i64 k ∧ Below w16.heap.size w16 wv) (fun i _ => 2 - (intOf i).toNat)
                case atStart => exact ⟨0, Nat.zero_le _, rfl, Below.refl _ _⟩
                case round =>
                  obtain ⟨k, hkk, rfl, hB⟩ := hrel
                  obtain ⟨w17, rfl⟩ : ∃ w17, w17 = wr := ⟨_, rfl⟩
                  have HB17 := Lib.hid hB
                  clear hB
                  by_cases gk : k < 2
                  case neg =>
                    go_wp2_with fail
                    go_roundw
                    case rel => exact ⟨km + 1, by omega, by go_num, (below_step (below_step (below_step (below_step (below_step (below_step (below_step (below_step HB11.out HB12.out) HBa.out) HB13.out) HBb.out) HB14.out) HB15.out) HB16.out) HB17.out)⟩
                    case measure => simp [intOf]; omega
                  obtain ⟨r, hcell, rr1, rr2⟩ := HR2.out k gk
                  have hc1 := hcell _ HB17.out
                  obtain ⟨⟨N, O, pc⟩, hpm⟩ : ∃ v, putM L1 r x = v := ⟨_, rfl⟩
                  have HPM := Lib.hid hpm
                  have npc : (pc != pc) = false := by simp
                  clear hcell hpm
                  have hNO : N.length ≤ 100 ∧ O.length ≤ 100 := by
                    have h := HPM.out
                    unfold putM at h
                    have hl := allS_len L1 x
                    cases hr : rightB L1 with
                    | false => rw [hr] at h; simp only [Bool.false_eq_true, if_false, Prod.mk.injEq] at h; rw [← h.1, ← h.2.1]; simp
                    | true => rw [hr] at h; simp only [if_true, Prod.mk.injEq] at h; rw [← h.1, ← h.2.1, List.length_take, List.length_drop]; omega
                  obtain ⟨hNl, hOl⟩ := hNO
                  have u0 := Blk.cell (Blk.below K18.out (below_step (below_step (below_step (below_step (below_step (below_step HBa.out HB13.out) HBb.out) HB14.out) HB15.out) HB16.out) HB17.out) K18.out.lt) 0
                  have u1 := Blk.cell (Blk.below K18.out (below_step (below_step (below_step (below_step (below_step (below_step HBa.out HB13.out) HBb.out) HB14.out) HB15.out) HB16.out) HB17.out) K18.out.lt) 1
                  have u2 := Blk.cell (Blk.below K18.out (below_step (below_step (below_step (below_step (below_step (below_step HBa.out HB13.out) HBb.out) HB14.out) HB15.out) HB16.out) HB17.out) K18.out.lt) 2
                  have u3 := Blk.cell (Blk.below K18.out (below_step (below_step (below_step (below_step (below_step (below_step HBa.out HB13.out) HBb.out) HB14.out) HB15.out) HB16.out) HB17.out) K18.out.lt) 3
                  have u4 := Blk.cell (Blk.below K18.out (below_step (below_step (below_step (below_step (below_step (below_step HBa.out HB13.out) HBb.out) HB14.out) HB15.out) HB16.out) HB17.out) K18.out.lt) 4
                  simp only [List.getElem?_toArray, List.getElem?_cons_zero, List.getElem?_cons_succ] at u0 u1 u2 u3 u4
                  have ul := Blk.lt (Blk.below K18.out (below_step (below_step (below_step (below_step (below_step (below_step HBa.out HB13.out) HBb.out) HB14.out) HB15.out) HB16.out) HB17.out) K18.out.lt)
                  go_wp2_with fail
                  clear hc1
                  clear u0 u1 u2 u3 u4 ul
                  refine (H.put A1 L1 L1.length c1 r x _ N O pc HPM.out (H1.out.up (below_step (below_step (below_step (below_step (below_step (below_step (below_step (below_step (below_step (below_step (below_step (below_step (below_step (below_step HB4.out HB5.out) HB6.out) HB7.out) HB8.out) HB10.out) HB11.out) HB12.out) HBa.out) HB13.out) HBb.out) HB14.out) HB15.out) HB16.out) HB17.out)) rfl (by omega) HF1.out HFXX.out (by omega) (by omega)).mono ?_
                  rintro e wc ⟨Ac, Bc, nc, mc, cc, dc, rfl, hnc, hmc, hN, hO, hB⟩
                  have HNc := Lib.hid hN
                  have HOc := Lib.hid hO
                  have HBc := Lib.hid hB
                  clear hN hO hB
                  subst hnc hmc
                  have u0 := Blk.cell (Blk.below K18.out (below_step (below_step (below_step (below_step (below_step (below_step (below_step HBa.out HB13.out) HBb.out) HB14.out) HB15.out) HB16.out) HB17.out) HBc.out) K18.out.lt) 0
                  have u1 := Blk.cell (Blk.below K18.out (below_step (below_step (below_step (below_step (below_step (below_step (below_step HBa.out HB13.out) HBb.out) HB14.out) HB15.out) HB16.out) HB17.out) HBc.out) K18.out.lt) 1
                  have u2 := Blk.cell (Blk.below K18.out (below_step (below_step (below_step (below_step (below_step (below_step (below_step HBa.out HB13.out) HBb.out) HB14.out) HB15.out) HB16.out) HB17.out) HBc.out) K18.out.lt) 2
                  have u3 := Blk.cell (Blk.below K18.out (below_step (below_step (below_step (below_step (below_step (below_step (below_step HBa.out HB13.out) HBb.out) HB14.out) HB15.out) HB16.out) HB17.out) HBc.out) K18.out.lt) 3
                  have u4 := Blk.cell (Blk.below K18.out (below_step (below_step (below_step (below_step (below_step (below_step (below_step HBa.out HB13.out) HBb.out) HB14.out) HB15.out) HB16.out) HB17.out) HBc.out) K18.out.lt) 4
                  simp only [List.getElem?_toArray, List.getElem?_cons_zero, List.getElem?_cons_succ] at u0 u1 u2 u3 u4
                  have ul := Blk.lt (Blk.below K18.out (below_step (below_step (below_step (below_step (below_step (below_step (below_step HBa.out HB13.out) HBb.out) HB14.out) HB15.out) HB16.out) HB17.out) HBc.out) K18.out.lt)
                  go_wp2_with fail
                  clear u0 u1 u2 u3 u4 ul
                  refine (rput_any A1 L1 L1.length c1 r x _ N O pc HPM.out (H1.out.up (below_step (below_step (below_step (below_step (below_step (below_step (below_step (below_step (below_step (below_step (below_step (below_step (below_step (below_step (below_step HB4.out HB5.out) HB6.out) HB7.out) HB8.out) HB10.out) HB11.out) HB12.out) HBa.out) HB13.out) HBb.out) HB14.out) HB15.out) HB16.out) HB17.out) HBc.out)) rfl (by omega) rr1 rr2).mono ?_
                  rintro e wd ⟨Ad, Bd, nd, md, cd, dd, rfl, hnd, hmd, hN, hO, hB⟩
                  subst hnd hmd
                  have HNd := Lib.hid hN
                  have HOd := Lib.hid hO
                  have HBd := Lib.hid hB
                  clear hN hO hB
                  go_wp2_with fail
                  refine (same_true Ac Ad N N.length N.length cc cd _ (HNc.out.up HBd.out) HNd.out rfl rfl (by omega)).mono ?_
                  rintro e we ⟨rfl, qe, hwe⟩
                  have HBe : Hid (Below wd.heap.size wd we) := Lib.hid (by rw [hwe]; exact below_drewN (Below.refl _ _) _)
                  clear hwe
                  go_wp2_with fail
                  refine (same_true Bc Bd O O.length O.length dc dd _ (HOc.out.up (below_step HBd.out HBe.out)) (HOd.out.up HBe.out) rfl rfl (by omega)).mono ?_
                  rintro e wf ⟨rfl, qf, hwf⟩
                  have HBf : Hid (Below we.heap.size we wf) := Lib.hid (by rw [hwf]; exact below_drewN (Below.refl _ _) _)
                  clear hwf
                  go_wp2_with fail
                  go_roundw
                  case rel => exact ⟨k + 1, by omega, by go_num, (below_step (below_step (below_step (below_step HB17.out HBc.out) HBd.out) HBe.out) HBf.out)⟩
                  case measure => simp [intOf]; omega

end Go.Proofs.Ytndhaickelbkiaa
