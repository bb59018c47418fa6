/-
  Package lru: front: a list with one slot first, be it in the list or not, and the others behind it, in new memory. Nothing that was there is changed.
-/
import Derived.Test.YtjifmfgfmciaeaaImpD
namespace Go.Proofs.Ytjifmfgfmciaeaa
open Go.RowKit

theorem sl_eq {z y : Sl} (t0 : (z.sum == y.sum) = true) (t1 : (z.len == y.len) = true) (t2 : (z.left.toList == y.left.toList) = true) (t3 : (z.right.toList == y.right.toList) = true) (t4 : (z.val.toList == y.val.toList) = true) : z = y := by
  have h : ∀ {a b : ByteArray}, (a.toList == b.toList) = true → a = b := fun {a b} h => by
    have e := eq_of_beq h
    rw [Lib.toList_data, Lib.toList_data] at e
    exact ByteArray.ext (Array.toList_inj.1 e)
  cases z
  cases y
  simp only [beq_iff_eq] at t0 t1
  have e2 := h t2
  have e3 := h t3
  have e4 := h t4
  simp only at t0 t1 e2 e3 e4
  subst t0 t1 e2 e3 e4
  rfl

theorem op_make0 (n : Nat) (hn : n ≤ 1048577) (W : World) :
    ∃ g W1, (∀ (o : Oper) (a : Act) (q : Nat), o.op = Op.makeSlice 58 (.const (.int .i64 0)) (.tmp q) → a.eval (.tmp q) = .int .i64 (n : Int) → (execOp a.eval o).run Try.prog W = .ok (.value (.slice (some ⟨g, 0, none⟩) 0 n)) W1) ∧
      OwnS W W1 (.slice (some ⟨g, 0, none⟩) 0 n) [] := by
  obtain ⟨i0, hi, hz0, hz1, hz2⟩ := info_parts infoS
  have hr := run_make (P := Try.prog) W 58 63 i0 _ Try.underlying58 hi hz0 .i64 .i64 (0 : Int) (n : Int) (Int.le_refl _) (by omega) (by rw [hz2]; omega) (by omega)
  rw [hz1] at hr
  have e0 : Int.toNat 0 = 0 := rfl
  simp only [Int.toNat_natCast, e0] at hr
  obtain ⟨cs, hcs, hr⟩ : ∃ cs : Array Value, cs.size = n * 5 ∧ (Instr.makeSlice 58 (.int .i64 0) (.int .i64 (n : Int))).run Try.prog W = .ok (.slice (some ⟨W.heap.size, 0, none⟩) 0 n) (W.alloc (.cells cs 63)) := ⟨_, size_madeCells _ _, hr⟩
  refine ⟨W.heap.size, W.alloc (.cells cs 63), fun o a q ho hq => ?_, ⟨World.ownsRow_made W _ n (Nat.le_refl _) (by unfold maxLen; omega) hcs, (Below.refl _ _).alloc (Nat.le_refl _) _⟩⟩
  simp only [execOp, ho, hq]
  simp [Act.eval, hr]

/-- the slots that are unlike one -/
abbrev neS (L : List Sl) (x : Sl) : List Sl := L.filter (fun y => decide (y ≠ x))
theorem ne_take_same {L : List Sl} {x y : Sl} {k : Nat} (h : L[k]? = some y) (e : x = y) : neS (L.take (k + 1)) x = neS (L.take k) x := by
  obtain ⟨hk, rfl⟩ := List.getElem?_eq_some_iff.1 h
  unfold neS
  rw [List.take_succ_eq_append_getElem hk, List.filter_append]
  simp [e]
theorem ne_take_other {L : List Sl} {x y : Sl} {k : Nat} (h : L[k]? = some y) (e : y ≠ x) : x :: neS (L.take (k + 1)) x = (x :: neS (L.take k) x) ++ [y] := by
  obtain ⟨hk, rfl⟩ := List.getElem?_eq_some_iff.1 h
  unfold neS
  rw [List.take_succ_eq_append_getElem hk, List.filter_append]
  simp [e]
def FrontTold (L : List Sl) (x : Sl) (w : World) (e : Ending) (w' : World) : Prop := ∃ v, e = .returned v ∧ OwnS w w' v (x :: neS L x)
def FrontIn (w1 : World) (x : Sl) (v : Value) (wx : World) : Prop := ∃ A c, v = .slice A [x].length c ∧ OwnS w1 wx (.slice A [x].length c) [x]

set_option maxHeartbeats 4000000 in
theorem front_any (A : Option Addr) (L : List Sl) (n c : Nat) (x : Sl) (w : World) (ha : SlotsAt w A L) (hn : L.length = n) (h1 : L.length ≤ 1000000) :
    Calls Try.prog 54 #[.slice A n c, .agg #[.int .u64 x.sum, .int .i64 x.len, .string x.left, .string x.right, .string x.val]] w (FrontTold L x w) := by
  subst hn
  have HA0 := Lib.hid ha
  clear ha
  go_enter Try.func54, Try.ntmps54
  go_wp2_with fail
  have hb0 : Blk (w.alloc (.cells #[.int .u64 x.sum, .int .i64 x.len, .string x.left, .string x.right, .string x.val] 63)) w.heap.size 63 #[.int .u64 x.sum, .int .i64 x.len, .string x.left, .string x.right, .string x.val] := Blk.new w _ _
  have hw0 : Below w.heap.size w (w.alloc (.cells #[.int .u64 x.sum, .int .i64 x.len, .string x.left, .string x.right, .string x.val] 63)) := (Below.refl _ _).alloc (Nat.le_refl _) _
  obtain ⟨w1, hw1⟩ : ∃ w1, w1 = w.alloc (.cells #[.int .u64 x.sum, .int .i64 x.len, .string x.left, .string x.right, .string x.val] 63) := ⟨_, rfl⟩
  obtain ⟨g, hg⟩ : ∃ g, g = w.heap.size := ⟨_, rfl⟩
  rw [← hw1] at hb0 hw0 ⊢
  rw [← hg] at hb0 ⊢
  have HA := Lib.hid (HA0.out.up hw0)
  have HB := Lib.hid hb0
  have HW := Lib.hid hw0
  have HC : Hid (∀ W, Below w1.heap.size w1 W → W.cell? ⟨g, 0, none⟩ = some (.int .u64 x.sum) ∧ W.cell? ⟨g, 1, none⟩ = some (.int .i64 x.len) ∧ W.cell? ⟨g, 2, none⟩ = some (.string x.left) ∧ W.cell? ⟨g, 3, none⟩ = some (.string x.right) ∧ W.cell? ⟨g, 4, none⟩ = some (.string x.val)) :=
    Lib.hid fun W hW => blk_cells HB.out hW
  clear hb0 hw0 hw1 hg HA0
  have hw64 : IntKind.i64.wrap ((L.length : Int) + 1) = (L.length : Int) + 1 := IntWalk.i64_in _ (by omega)
  go_cut [5] (fun s5 wx => FrontIn w1 x s5 wx)
  case first =>
    refine wp_region_noPanic ?_
    refine wp_region_held_drew (S := fun W => Below w1.heap.size w1 W) (by kernel_rfl) ((Below.refl w1.heap.size w1).drew) (fun hS0 => ?_)
    change wpAnyH _ _ _ _ _ 8 #[false, false, false, false, false, false, false, false] _ (World.drew _)
    refine wpAnyH_take (i := 0) (v := .slice A L.length c) rfl (by kernel_rfl) (by kernel_rfl) (by kernel_rfl) (fun _ _ _ h => h) (Or.inl ⟨by rfl, fun w' hS' => by exact op_move rfl rfl⟩) hS0 ?_
    change wpAnyH _ _ _ _ _ _ _ (Act.put _ (some 8) (.slice A L.length c)) _
    simp only [Act.put, List.setIfInBounds_toArray, List.set_cons_zero, List.set_cons_succ]
    refine wpAnyH_take (i := 1) (v := .int .i64 (L.length : Int)) rfl (by kernel_rfl) (by kernel_rfl) (by kernel_rfl) (fun _ _ _ h => h) (Or.inl ⟨by rfl, fun w' hS' => by go_simp⟩) hS0 ?_
    change wpAnyH _ _ _ _ _ _ _ (Act.put _ (some 9) (.int .i64 (L.length : Int))) _
    simp only [Act.put, List.setIfInBounds_toArray, List.set_cons_zero, List.set_cons_succ]
    refine wpAnyH_take (i := 2) (v := .int .i64 ((L.length : Int) + 1)) rfl (by kernel_rfl) (by kernel_rfl) (by kernel_rfl) (fun _ _ _ h => h) (Or.inl ⟨by rfl, fun w' hS' => by go_simp⟩) hS0 ?_
    change wpAnyH _ _ _ _ _ _ _ (Act.put _ (some 10) (.int .i64 ((L.length : Int) + 1))) _
    simp only [Act.put, List.setIfInBounds_toArray, List.set_cons_zero, List.set_cons_succ]
    refine wpAnyH_take (i := 4) (v := .agg #[.int .u64 x.sum, .int .i64 x.len, .string x.left, .string x.right, .string x.val]) rfl (by kernel_rfl) (by kernel_rfl) (by kernel_rfl) (fun _ _ _ h => h) (Or.inl ⟨by rfl, fun w' hS' => by obtain ⟨y0, y1, y2, y3, y4⟩ := HC.out _ hS'; go_simp⟩) hS0 ?_
    change wpAnyH _ _ _ _ _ _ _ (Act.put _ (some 12) (.agg #[.int .u64 x.sum, .int .i64 x.len, .string x.left, .string x.right, .string x.val])) _
    simp only [Act.put, List.setIfInBounds_toArray, List.set_cons_zero, List.set_cons_succ]
    refine wpAnyH_ready (rs := [3, 5]) (by kernel_rfl) (by simp) (AllReadyH.cons rfl (fun K hK => ?_) (AllReadyH.cons rfl (fun K hK => ?_) (AllReadyH.nil)))
    · skip
      obtain ⟨g2, W1, hr5, ho4⟩ := op_make0 (L.length + 1) (by omega) w1.drew
      refine step_op_run (hr5 _ _ _ rfl (by go_num)) rfl ?_
      refine hK.out _ _ (hS0.trans (ho4.2.mono hS0.size)) (fun hS3 => ?_)
      clear hK K
      change wpAnyH _ _ _ _ _ _ _ (Act.put _ (some 11) (.slice (some ⟨g2, 0, none⟩) 0 (L.length + 1))) _
      simp only [Act.put, List.setIfInBounds_toArray, List.set_cons_zero, List.set_cons_succ]
      refine wpAnyH_ready (rs := [5]) (by kernel_rfl) (by simp) (AllReadyH.cons rfl (fun K hK => ?_) (AllReadyH.nil))
      · skip
        obtain ⟨g7, W6, hr10, ho9⟩ := op_slice1 x W1
        refine step_op_run (hr10 _ _ _ rfl rfl) rfl ?_
        refine hK.out _ _ (hS3.trans (ho9.2.mono hS3.size)) (fun hS8 => ?_)
        clear hK K
        change wpAnyH _ _ _ _ _ _ _ (Act.put _ (some 13) (.slice (some ⟨g7, 0, none⟩) 1 1)) _
        simp only [Act.put, List.setIfInBounds_toArray, List.set_cons_zero, List.set_cons_succ]
        refine wpAnyH_ready (rs := [6]) (by kernel_rfl) (by simp) (AllReadyH.cons rfl (fun K hK => ?_) (AllReadyH.nil))
        · skip
          obtain ⟨A14, c15, W11, hr16, ho13, _⟩ := append_slots (ho4.up ho9.2) 1 1 (OwnR.at_ sl_len ho9 rfl) rfl [x] rfl (by simp)
          refine step_append_run2 hr16 rfl rfl rfl rfl rfl ?_
          refine hK.out _ _ ((hS0).trans (ho13.2.mono (hS0).size)) (fun hS12 => ?_)
          clear hK K
          change wpAnyH _ _ _ _ _ _ _ (Act.put _ (some 14) (.slice A14 [x].length c15)) _
          simp only [Act.put, List.setIfInBounds_toArray, List.set_cons_zero, List.set_cons_succ]
          refine wpAnyH_take (i := 7) (v := .slice A14 [x].length c15) rfl (by kernel_rfl) (by kernel_rfl) (by kernel_rfl) (fun _ _ _ h => h) (Or.inl ⟨by rfl, fun w' hS' => by exact op_assign rfl rfl⟩) hS12 ?_
          change wpAnyH _ _ _ _ _ _ _ (Act.put _ (some 5) (.slice A14 [x].length c15)) _
          simp only [Act.put, List.setIfInBounds_toArray, List.set_cons_zero, List.set_cons_succ]
          refine wpAnyH_done (by kernel_rfl) ?_ _
          refine NoPanic.normal ?_
          go_wp2_with fail
          go_meet
          exact ⟨A14, c15, rfl, ho13.base (Below.refl w1.heap.size w1).drew⟩
    · skip
      obtain ⟨g18, W17, hr21, ho20⟩ := op_slice1 x w1.drew
      refine step_op_run (hr21 _ _ _ rfl rfl) rfl ?_
      refine hK.out _ _ (hS0.trans (ho20.2.mono hS0.size)) (fun hS19 => ?_)
      clear hK K
      change wpAnyH _ _ _ _ _ _ _ (Act.put _ (some 13) (.slice (some ⟨g18, 0, none⟩) 1 1)) _
      simp only [Act.put, List.setIfInBounds_toArray, List.set_cons_zero, List.set_cons_succ]
      refine wpAnyH_ready (rs := [3]) (by kernel_rfl) (by simp) (AllReadyH.cons rfl (fun K hK => ?_) (AllReadyH.nil))
      · skip
        obtain ⟨g23, W22, hr26, ho25⟩ := op_make0 (L.length + 1) (by omega) W17
        refine step_op_run (hr26 _ _ _ rfl (by go_num)) rfl ?_
        refine hK.out _ _ (hS19.trans (ho25.2.mono hS19.size)) (fun hS24 => ?_)
        clear hK K
        change wpAnyH _ _ _ _ _ _ _ (Act.put _ (some 11) (.slice (some ⟨g23, 0, none⟩) 0 (L.length + 1))) _
        simp only [Act.put, List.setIfInBounds_toArray, List.set_cons_zero, List.set_cons_succ]
        refine wpAnyH_ready (rs := [6]) (by kernel_rfl) (by simp) (AllReadyH.cons rfl (fun K hK => ?_) (AllReadyH.nil))
        · skip
          obtain ⟨A30, c31, W27, hr32, ho29, _⟩ := append_slots (ho25.base ho20.2) 1 1 ((OwnR.at_ sl_len ho20 rfl).up ho25.2) rfl [x] rfl (by simp)
          refine step_append_run2 hr32 rfl rfl rfl rfl rfl ?_
          refine hK.out _ _ ((hS0).trans (ho29.2.mono (hS0).size)) (fun hS28 => ?_)
          clear hK K
          change wpAnyH _ _ _ _ _ _ _ (Act.put _ (some 14) (.slice A30 [x].length c31)) _
          simp only [Act.put, List.setIfInBounds_toArray, List.set_cons_zero, List.set_cons_succ]
          refine wpAnyH_take (i := 7) (v := .slice A30 [x].length c31) rfl (by kernel_rfl) (by kernel_rfl) (by kernel_rfl) (fun _ _ _ h => h) (Or.inl ⟨by rfl, fun w' hS' => by exact op_assign rfl rfl⟩) hS28 ?_
          change wpAnyH _ _ _ _ _ _ _ (Act.put _ (some 5) (.slice A30 [x].length c31)) _
          simp only [Act.put, List.setIfInBounds_toArray, List.set_cons_zero, List.set_cons_succ]
          refine wpAnyH_done (by kernel_rfl) ?_ _
          refine NoPanic.normal ?_
          go_wp2_with fail
          go_meet
          exact ⟨A30, c31, rfl, ho29.base (Below.refl w1.heap.size w1).drew⟩

  case rest =>
    obtain ⟨A5, c5, rfl, hO⟩ := hcut
    have HO0 := Lib.hid hO
    clear hO hw64
    go_wp2_with fail
    go_loopw [5, 17] (fun v i wr => ∃ k : Nat, k ≤ L.length ∧ i = .int .i64 k ∧ OwnS w1 wr v (x :: neS (L.take k) x)) (fun _ i _ => L.length - (intOf i).toNat)
    case atStart => exact ⟨0, Nat.zero_le _, rfl, HO0.out⟩
    case round =>
      obtain ⟨k, hk, rfl, hO⟩ := hrel
      have HO := Lib.hid hO
      clear hO
      by_cases g1 : k < L.length
      · obtain ⟨y, hy⟩ : ∃ y, L[k]? = some y := ⟨_, List.getElem?_eq_getElem g1⟩
        obtain ⟨a, rfl, hal, c0, c1, c2, c3, c4⟩ := slots_fields (HA.out.up HO.out.2) hy
        have HX := Lib.hid hy
        clear hy
        obtain ⟨w3, rfl⟩ : ∃ w3, w3 = wr := ⟨_, rfl⟩
        go_upto_region 5 with (fail)
        have hbq : Blk (w3.alloc (.cells #[.int .u64 y.sum, .int .i64 y.len, .string y.left, .string y.right, .string y.val] 63)) w3.heap.size 63 #[.int .u64 y.sum, .int .i64 y.len, .string y.left, .string y.right, .string y.val] := Blk.new w3 _ _
        have hwq : Below w3.heap.size w3 (w3.alloc (.cells #[.int .u64 y.sum, .int .i64 y.len, .string y.left, .string y.right, .string y.val] 63)) := (Below.refl _ _).alloc (Nat.le_refl _) _
        obtain ⟨wq, hq⟩ : ∃ wq, wq = w3.alloc (.cells #[.int .u64 y.sum, .int .i64 y.len, .string y.left, .string y.right, .string y.val] 63) := ⟨_, rfl⟩
        obtain ⟨gq, hgq⟩ : ∃ gq, gq = w3.heap.size := ⟨_, rfl⟩
        rw [← hq] at hbq hwq ⊢
        rw [← hgq] at hbq ⊢
        have HQ := Lib.hid hwq
        have HBQ := Lib.hid hbq
        have hle : (neS (L.take k) x).length ≤ k := Nat.le_trans (List.length_filter_le _ _) (List.length_take_le _ _)
        obtain ⟨N, hN⟩ : ∃ N, (x :: neS (L.take k) x).length + 1 = N := ⟨_, rfl⟩
        have hN2 : N ≤ 1048576 := by rw [← hN, List.length_cons]; omega
        obtain ⟨A7, c7, W7, hrun7, hO7, _⟩ := push_slot (HO.out.up HQ.out) y N hN hN2
        have HR7 := Lib.hid hrun7
        have HO7 := Lib.hid hO7
        clear hq hgq hbq hwq hrun7 hO7 hN hN2 hle c0 c1 c2 c3 c4 hal
        obtain ⟨x0, x1, x2, x3, x4⟩ := HC.out _ (HO.out.2.trans (HQ.out.mono HO.out.2.size))
        have y0 := Blk.cell HBQ.out 0
        have y1 := Blk.cell HBQ.out 1
        have y2 := Blk.cell HBQ.out 2
        have y3 := Blk.cell HBQ.out 3
        have y4 := Blk.cell HBQ.out 4
        simp only [List.getElem?_toArray, List.getElem?_cons_zero, List.getElem?_cons_succ] at y0 y1 y2 y3 y4
        cases t0 : (y.sum == x.sum) with
        | false =>
          have HE : Hid (y ≠ x) := Lib.hid (by rintro rfl; simp at t0)
          have HT := Lib.hid (ne_take_other HX.out HE.out)
          go_wp2_with (at_builtin; refine wpList_append_run rfl rfl (by simp [Region.wanted]) rfl rfl HR7.out ?_)
          go_roundw
          case rel => exact ⟨k + 1, by omega, by go_num, by rw [HT.out]; exact HO7.out⟩
          case measure => simp [intOf]; omega
        | true =>
          cases t1 : (y.len == x.len) with
          | false =>
            have HE : Hid (y ≠ x) := Lib.hid (by rintro rfl; simp at t1)
            have HT := Lib.hid (ne_take_other HX.out HE.out)
            go_wp2_with (at_builtin; refine wpList_append_run rfl rfl (by simp [Region.wanted]) rfl rfl HR7.out ?_)
            go_roundw
            case rel => exact ⟨k + 1, by omega, by go_num, by rw [HT.out]; exact HO7.out⟩
            case measure => simp [intOf]; omega
          | true =>
            cases t2 : (y.left.toList == x.left.toList) with
            | false =>
              have HE : Hid (y ≠ x) := Lib.hid (by rintro rfl; simp at t2)
              have HT := Lib.hid (ne_take_other HX.out HE.out)
              go_wp2_with (at_builtin; refine wpList_append_run rfl rfl (by simp [Region.wanted]) rfl rfl HR7.out ?_)
              go_roundw
              case rel => exact ⟨k + 1, by omega, by go_num, by rw [HT.out]; exact HO7.out⟩
              case measure => simp [intOf]; omega
            | true =>
              cases t3 : (y.right.toList == x.right.toList) with
              | false =>
                have HE : Hid (y ≠ x) := Lib.hid (by rintro rfl; simp at t3)
                have HT := Lib.hid (ne_take_other HX.out HE.out)
                go_wp2_with (at_builtin; refine wpList_append_run rfl rfl (by simp [Region.wanted]) rfl rfl HR7.out ?_)
                go_roundw
                case rel => exact ⟨k + 1, by omega, by go_num, by rw [HT.out]; exact HO7.out⟩
                case measure => simp [intOf]; omega
              | true =>
                cases t4 : (y.val.toList == x.val.toList) with
                | false =>
                  have HE : Hid (y ≠ x) := Lib.hid (by rintro rfl; simp at t4)
                  have HT := Lib.hid (ne_take_other HX.out HE.out)
                  go_wp2_with (at_builtin; refine wpList_append_run rfl rfl (by simp [Region.wanted]) rfl rfl HR7.out ?_)
                  go_roundw
                  case rel => exact ⟨k + 1, by omega, by go_num, by rw [HT.out]; exact HO7.out⟩
                  case measure => simp [intOf]; omega
                | true =>
                  have HE : Hid (y = x) := Lib.hid (sl_eq t0 t1 t2 t3 t4)
                  have HT := Lib.hid (ne_take_same HX.out HE.out.symm)
                  go_wp2_with fail
                  go_roundw
                  case rel => exact ⟨k + 1, by omega, by go_num, by rw [HT.out]; exact HO.out.up HQ.out⟩
                  case measure => simp [intOf]; omega

      · go_wp2_with fail
        go_ret
        exact ⟨_, rfl, by have := HO.out; rw [List.take_of_length_le (by omega)] at this; exact this.base HW.out⟩

end Go.Proofs.Ytjifmfgfmciaeaa
