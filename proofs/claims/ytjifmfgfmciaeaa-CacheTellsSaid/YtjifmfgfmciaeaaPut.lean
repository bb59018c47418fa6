/-
  collatorref13.Put: chapter 13's own answer. What it makes is new memory; nothing that was there is changed.
-/
import Derived.Test.YtjifmfgfmciaeaaOps
namespace Go.Proofs.Ytjifmfgfmciaeaa
open Go.RowKit

abbrev allS (L : List Sl) (s : Sl) : List Sl := P13.all Sl.key L s
theorem allS_eq (L : List Sl) (s : Sl) : allS L s = [s] ++ withoutS L (s.sum, s.len) := rfl
theorem allS_len (L : List Sl) (s : Sl) : (allS L s).length ≤ L.length + 1 := by
  have := without_le L (s.sum, s.len)
  rw [allS_eq, List.length_append, List.length_singleton]
  omega
theorem own_newP {w0 w : World} {A : Option Addr} {n c : Nat} {L : List Sl} (o : OwnS w0 w (.slice A n c) L) : ∀ a, A = some a → w0.heap.size ≤ a.block := fun a ha => by
  subst ha
  exact (o.1.lt a.block rfl).1
def PutTold (N O : List Sl) (b : Int) (w : World) (e : Ending) (w' : World) : Prop :=
  ∃ (A B : Option Addr) (n m c d : Nat), e = .returned (.tuple #[.slice A n c, .slice B m d, .int .i64 b]) ∧ N.length = n ∧ O.length = m ∧ SlotsAt w' A N ∧ SlotsAt w' B O ∧ Below w.heap.size w w' ∧ n ≤ c ∧ m ≤ d ∧ ∀ a, A = some a → w.heap.size ≤ a.block
/-- what is put: what is there, what is out, and the error -/
def putM (L : List Sl) (room : Int) (s : Sl) : List Sl × List Sl × Int := if rightB L then ((allS L s).take room.toNat, (allS L s).drop room.toNat, 0) else ([], [], 1)
/-- all slots that there are when one is put -/
def AllMade (w : World) (Y : List Sl) (s : Value) (wx : World) : Prop := ∃ A c, s = .slice A Y.length c ∧ SlotsAt wx A Y ∧ Below w.heap.size w wx ∧ Y.length ≤ c ∧ c ≤ maxLen ∧ ∀ a, A = some a → w.heap.size ≤ a.block
theorem rright_v (A : Option Addr) (L : List Sl) (n c : Nat) (w : World) (ha : SlotsAt w A L) (hn : L.length = n) (h1 : L.length ≤ 140737488355328) (b : Bool) (hb : rightB L = b) :
    Calls Try.prog 31 #[.slice A n c] w fun e w' => e = .returned (.bool b) ∧ ∃ q, w' = w.drewN q := by
  subst hb
  exact rright_any A L n c w ha hn h1

set_option maxHeartbeats 4000000 in
set_option maxRecDepth 100000 in
theorem rput_ok (A : Option Addr) (L : List Sl) (n c : Nat) (room : Int) (s : Sl) (w : World) (ha : SlotsAt w A L) (hn : L.length = n) (h1 : L.length ≤ 999999) (r1 : -9223372036854775808 ≤ room) (r2 : room ≤ 9223372036854775807) (hr : rightB L = true) :
    Calls Try.prog 44 #[.slice A n c, .int .i64 room, .agg #[.int .u64 s.sum, .int .i64 s.len, .string s.left, .string s.right, .string s.val]] w (PutTold ((allS L s).take room.toNat) ((allS L s).drop room.toNat) 0 w) := by
  subst hn
  have HA0 := Lib.hid ha
  have HR := Lib.hid hr
  clear ha hr
  obtain ⟨Y, hY⟩ : ∃ Y, Y = allS L s := ⟨_, rfl⟩
  have HY : Hid (Y = [s] ++ withoutS L (s.sum, s.len)) := Lib.hid hY
  have HYA := Lib.hid hY
  have hyl : Y.length ≤ 1000000 := by rw [hY]; have := allS_len L s; omega
  have HYL : Hid (Y.length ≤ 1048576) := Lib.hid (by omega)
  have hy0 : 0 < Y.length := by rw [hY, allS_eq]; simp
  clear hY
  go_enter Try.func44, Try.ntmps44
  go_wp2_with fail
  have hbx := Blk.new w 63 #[.int .u64 s.sum, .int .i64 s.len, .string s.left, .string s.right, .string s.val]
  have hal : Below w.heap.size w (w.alloc (.cells #[.int .u64 s.sum, .int .i64 s.len, .string s.left, .string s.right, .string s.val] 63)) := (Below.refl _ _).alloc (Nat.le_refl _) _
  obtain ⟨w1, hw1⟩ : ∃ w1, w1 = w.alloc (.cells #[.int .u64 s.sum, .int .i64 s.len, .string s.left, .string s.right, .string s.val] 63) := ⟨_, rfl⟩
  obtain ⟨g, hg⟩ : ∃ g, g = w.heap.size := ⟨_, rfl⟩
  rw [← hw1] at hbx hal ⊢
  rw [← hg] at hbx ⊢
  refine (rright_v A L L.length c _ (HA0.out.up hal) rfl (by omega) true HR.out).mono ?_
  rintro e wd ⟨rfl, q, hwd⟩
  have hd : Below w1.heap.size w1 wd := by rw [hwd]; exact below_drewN (Below.refl _ _) q
  have HA := Lib.hid ((HA0.out.up hal).up hd)
  have HW := Lib.hid (hal.trans (hd.mono hal.size))
  have HC : Hid (∀ W, Below wd.heap.size wd W → W.cell? ⟨g, 0, none⟩ = some (.int .u64 s.sum) ∧ W.cell? ⟨g, 1, none⟩ = some (.int .i64 s.len) ∧ W.cell? ⟨g, 2, none⟩ = some (.string s.left) ∧ W.cell? ⟨g, 3, none⟩ = some (.string s.right) ∧ W.cell? ⟨g, 4, none⟩ = some (.string s.val)) :=
    Lib.hid fun W hW => blk_cells (Blk.below hbx hd hbx.lt) hW
  clear hw1 hg hbx hal hwd hd HA0
  go_wp2_with fail
  go_cut [10] (fun s10 wx => AllMade wd Y s10 wx)
  case first =>
    refine wp_region_noPanic ?_
    refine wp_region_held_drew (S := fun W => Below wd.heap.size wd W) (by kernel_rfl) ((Below.refl wd.heap.size wd).drew) (fun hS0 => ?_)
    change wpAnyH _ _ _ _ _ 8 #[false, false, false, false, false, false, false, false] _ (World.drew _)
    refine wpAnyH_take (i := 0) (v := .agg #[.int .u64 s.sum, .int .i64 s.len, .string s.left, .string s.right, .string s.val]) rfl (by kernel_rfl) (by kernel_rfl) (by kernel_rfl) (fun _ _ _ h => h) (Or.inl ⟨by rfl, fun w' hS' => by obtain ⟨y0, y1, y2, y3, y4⟩ := HC.out _ hS'; go_simp⟩) hS0 ?_
    change wpAnyH _ _ _ _ _ _ _ (Act.put _ (some 15) (.agg #[.int .u64 s.sum, .int .i64 s.len, .string s.left, .string s.right, .string s.val])) _
    simp only [Act.put, List.setIfInBounds_toArray, List.set_cons_zero, List.set_cons_succ]
    refine wpAnyH_take (i := 2) (v := .slice A L.length c) rfl (by kernel_rfl) (by kernel_rfl) (by kernel_rfl) (fun _ _ _ h => h) (Or.inl ⟨by rfl, fun w' hS' => by exact op_move rfl rfl⟩) hS0 ?_
    change wpAnyH _ _ _ _ _ _ _ (Act.put _ (some 17) (.slice A L.length c)) _
    simp only [Act.put, List.setIfInBounds_toArray, List.set_cons_zero, List.set_cons_succ]
    refine wpAnyH_take (i := 3) (v := .pointer (some ⟨g, 0, none⟩)) rfl (by kernel_rfl) (by kernel_rfl) (by kernel_rfl) (fun _ _ _ h => h) (Or.inl ⟨by rfl, fun w' hS' => by go_simp⟩) hS0 ?_
    change wpAnyH _ _ _ _ _ _ _ (Act.put _ (some 18) (.pointer (some ⟨g, 0, none⟩))) _
    simp only [Act.put, List.setIfInBounds_toArray, List.set_cons_zero, List.set_cons_succ]
    refine wpAnyH_take (i := 4) (v := .agg #[.int .u64 s.sum, .int .i64 s.len]) rfl (by kernel_rfl) (by kernel_rfl) (by kernel_rfl) (fun _ _ _ h => h) (Or.inl ⟨by rfl, fun w' hS' => by obtain ⟨y0, y1, y2, y3, y4⟩ := HC.out _ hS'; go_simp⟩) hS0 ?_
    change wpAnyH _ _ _ _ _ _ _ (Act.put _ (some 19) (.agg #[.int .u64 s.sum, .int .i64 s.len])) _
    simp only [Act.put, List.setIfInBounds_toArray, List.set_cons_zero, List.set_cons_succ]
    refine wpAnyH_ready (rs := [1, 5]) (by kernel_rfl) (by simp) (AllReadyH.cons rfl (fun K hK => ?_) (AllReadyH.cons rfl (fun K hK => ?_) (AllReadyH.nil)))
    · skip
      obtain ⟨g2, W1, hr5, ho4⟩ := op_slice1 s wd.drew
      refine step_op_run (hr5 _ _ _ rfl rfl) rfl ?_
      refine hK.out _ _ (hS0.trans (ho4.2.mono hS0.size)) (fun hS3 => ?_)
      clear hK K
      change wpAnyH _ _ _ _ _ _ _ (Act.put _ (some 16) (.slice (some ⟨g2, 0, none⟩) 1 1)) _
      simp only [Act.put, List.setIfInBounds_toArray, List.set_cons_zero, List.set_cons_succ]
      refine wpAnyH_ready (rs := [5]) (by kernel_rfl) (by simp) (AllReadyH.cons rfl (fun K hK => ?_) (AllReadyH.nil))
      · skip
        go_simp
        refine (rwithout_any A L L.length c s.sum s.len _ (HA.out.up hS3) rfl (by omega)).mono ?_
        rintro e W6 ⟨v, rfl, ho9⟩
        obtain ⟨A10, c11, rfl⟩ := ho9.slice
        refine hK.out _ _ (hS3.trans (ho9.2.mono hS3.size)) (fun hS8 => ?_)
        clear hK K
        simp only [List.setIfInBounds_toArray, List.set_cons_zero, List.set_cons_succ]
        refine wpAnyH_ready (rs := [6]) (by kernel_rfl) (by simp) (AllReadyH.cons rfl (fun K hK => ?_) (AllReadyH.nil))
        · skip
          obtain ⟨A15, c16, W12, hr17, ho14, _⟩ := append_slots (ho4.up ho9.2) (withoutS L (s.sum, s.len)).length c11 (OwnR.at_ sl_len ho9 rfl) rfl Y HY.out HYL.out
          refine step_append_run2 hr17 rfl rfl rfl rfl rfl ?_
          refine hK.out _ _ (hS0.trans (ho14.2.mono hS0.size)) (fun hS13 => ?_)
          clear hK K
          change wpAnyH _ _ _ _ _ _ _ (Act.put _ (some 21) (.slice A15 Y.length c16)) _
          simp only [Act.put, List.setIfInBounds_toArray, List.set_cons_zero, List.set_cons_succ]
          refine wpAnyH_take (i := 7) (v := .slice A15 Y.length c16) rfl (by kernel_rfl) (by kernel_rfl) (by kernel_rfl) (fun _ _ _ h => h) (Or.inl ⟨by rfl, fun w' hS' => by exact op_assign rfl rfl⟩) hS13 ?_
          change wpAnyH _ _ _ _ _ _ _ (Act.put _ (some 10) (.slice A15 Y.length c16)) _
          simp only [Act.put, List.setIfInBounds_toArray, List.set_cons_zero, List.set_cons_succ]
          refine wpAnyH_done (by kernel_rfl) ?_ _
          refine NoPanic.normal ?_
          go_wp2_with fail
          go_meet
          exact ⟨A15, c16, rfl, OwnR.at_ sl_len ho14 rfl, hS13, (OwnR.cap ho14).1, (OwnR.cap ho14).2, fun a ha => own_newP ho14 a ha⟩
    · skip
      go_simp
      refine (rwithout_any A L L.length c s.sum s.len _ (HA.out.up hS0) rfl (by omega)).mono ?_
      rintro e W18 ⟨v, rfl, ho21⟩
      obtain ⟨A22, c23, rfl⟩ := ho21.slice
      refine hK.out _ _ (hS0.trans (ho21.2.mono hS0.size)) (fun hS20 => ?_)
      clear hK K
      simp only [List.setIfInBounds_toArray, List.set_cons_zero, List.set_cons_succ]
      refine wpAnyH_ready (rs := [1]) (by kernel_rfl) (by simp) (AllReadyH.cons rfl (fun K hK => ?_) (AllReadyH.nil))
      · skip
        obtain ⟨g25, W24, hr28, ho27⟩ := op_slice1 s W18
        refine step_op_run (hr28 _ _ _ rfl rfl) rfl ?_
        refine hK.out _ _ (hS20.trans (ho27.2.mono hS20.size)) (fun hS26 => ?_)
        clear hK K
        change wpAnyH _ _ _ _ _ _ _ (Act.put _ (some 16) (.slice (some ⟨g25, 0, none⟩) 1 1)) _
        simp only [Act.put, List.setIfInBounds_toArray, List.set_cons_zero, List.set_cons_succ]
        refine wpAnyH_ready (rs := [6]) (by kernel_rfl) (by simp) (AllReadyH.cons rfl (fun K hK => ?_) (AllReadyH.nil))
        · skip
          obtain ⟨A32, c33, W29, hr34, ho31, _⟩ := append_slots ho27 (withoutS L (s.sum, s.len)).length c23 ((OwnR.at_ sl_len ho21 rfl).up ho27.2) rfl Y HY.out HYL.out
          refine step_append_run2 hr34 rfl rfl rfl rfl rfl ?_
          refine hK.out _ _ (hS20.trans (ho31.2.mono hS20.size)) (fun hS30 => ?_)
          clear hK K
          change wpAnyH _ _ _ _ _ _ _ (Act.put _ (some 21) (.slice A32 Y.length c33)) _
          simp only [Act.put, List.setIfInBounds_toArray, List.set_cons_zero, List.set_cons_succ]
          refine wpAnyH_take (i := 7) (v := .slice A32 Y.length c33) rfl (by kernel_rfl) (by kernel_rfl) (by kernel_rfl) (fun _ _ _ h => h) (Or.inl ⟨by rfl, fun w' hS' => by exact op_assign rfl rfl⟩) hS30 ?_
          change wpAnyH _ _ _ _ _ _ _ (Act.put _ (some 10) (.slice A32 Y.length c33)) _
          simp only [Act.put, List.setIfInBounds_toArray, List.set_cons_zero, List.set_cons_succ]
          refine wpAnyH_done (by kernel_rfl) ?_ _
          refine NoPanic.normal ?_
          go_wp2_with fail
          go_meet
          exact ⟨A32, c33, rfl, OwnR.at_ sl_len ho31 rfl, hS30, (OwnR.cap ho31).1, (OwnR.cap ho31).2, fun a ha => Nat.le_trans hS20.size (own_newP ho31 a ha)⟩
  case rest =>
    obtain ⟨A6, c6, rfl, hA6, hB6, hc6, hm6, hnw6⟩ := hcut
    have HNW : Hid (∀ a, A6 = some a → w.heap.size ≤ a.block) := Lib.hid fun a ha => Nat.le_trans HW.out.size (hnw6 a ha)
    clear hnw6
    have HA6 := Lib.hid hA6
    have HB6 := Lib.hid (HW.out.trans (hB6.mono HW.out.size))
    unfold maxLen at hm6
    clear hA6 hB6
    by_cases g1 : room < 0
    · have ht : room.toNat = 0 := by omega
      go_wp2_with fail
      go_ret3
      refine ⟨none, A6, 0, Y.length, 0, c6, rfl, ?_, ?_, ?_, ?_, HB6.out, by omega, by omega, fun a ha => by cases ha⟩
      · rw [ht]; rfl
      · rw [ht, List.drop_zero, ← HYA.out]
      · rw [ht, List.take_zero]; exact RowAt.nil
      · rw [ht, List.drop_zero, ← HYA.out]; exact HA6.out
    · obtain ⟨r, rfl⟩ := Int.eq_ofNat_of_zero_le (show 0 ≤ room by omega)
      by_cases g2 : Y.length ≤ r
      · go_wp2_with fail
        go_ret3
        refine ⟨A6, none, Y.length, 0, c6, 0, rfl, ?_, ?_, ?_, ?_, HB6.out, by omega, by omega, HNW.out⟩
        · rw [List.take_of_length_le (by rw [← HYA.out]; exact g2), ← HYA.out]
        · rw [List.drop_eq_nil_of_le (by rw [← HYA.out]; exact g2)]; rfl
        · rw [List.take_of_length_le (by rw [← HYA.out]; exact g2), ← HYA.out]; exact HA6.out
        · rw [List.drop_eq_nil_of_le (by rw [← HYA.out]; exact g2)]; exact RowAt.nil
      · have g3 : r ≤ Y.length := by omega
        have g4 : r ≤ c6 := by omega
        have g5 : ¬ c6 = r := by omega
        have HD : Hid (SlotsAt wc (if c6 = r then A6 else A6.map (·.add (r * 5))) (Y.drop r)) := Lib.hid (HA6.out.drop r c6 g3 hc6)
        have HT : Hid (SlotsAt wc A6 (Y.take r)) := Lib.hid (HA6.out.take r)
        go_wp2_with fail
        go_quiet (fail)
        go_wp2_with fail
        go_ret3
        refine ⟨A6, A6.map (fun x => x.add (r * 5)), r, Y.length - r, c6, c6 - r, rfl, ?_, ?_, ?_, ?_, below_drewN HB6.out _, by omega, by omega, HNW.out⟩
        · rw [← HYA.out, List.length_take]; omega
        · show ((allS L s).drop r).length = _
          rw [← HYA.out, List.length_drop]
        · rw [← HYA.out]; exact HT.out
        · rw [← HYA.out]; have := HD.out; rw [if_neg g5] at this; exact this

set_option maxHeartbeats 4000000 in
theorem rput_bad (A : Option Addr) (L : List Sl) (n c : Nat) (room : Int) (s : Sl) (w : World) (ha : SlotsAt w A L) (hn : L.length = n) (h1 : L.length ≤ 999999) (hr : rightB L = false) :
    Calls Try.prog 44 #[.slice A n c, .int .i64 room, .agg #[.int .u64 s.sum, .int .i64 s.len, .string s.left, .string s.right, .string s.val]] w (PutTold [] [] 1 w) := by
  subst hn
  have HA0 := Lib.hid ha
  have HR := Lib.hid hr
  clear ha hr
  go_enter Try.func44, Try.ntmps44
  go_wp2_with fail
  have hal : Below w.heap.size w (w.alloc (.cells #[.int .u64 s.sum, .int .i64 s.len, .string s.left, .string s.right, .string s.val] 63)) := (Below.refl _ _).alloc (Nat.le_refl _) _
  refine (rright_v A L L.length c _ (HA0.out.up hal) rfl (by omega) false HR.out).mono ?_
  rintro e wd ⟨rfl, q, rfl⟩
  have HD := Lib.hid (below_drewN hal q)
  clear hal
  go_wp2_with fail
  go_ret3
  exact ⟨none, none, 0, 0, 0, 0, rfl, rfl, rfl, RowAt.nil, RowAt.nil, HD.out, Nat.le_refl _, Nat.le_refl _, fun a ha => by cases ha⟩
/-- what collatorref13.Put answers -/
theorem rput_any (A : Option Addr) (L : List Sl) (n c : Nat) (room : Int) (s : Sl) (w : World) (N O : List Sl) (b : Int) (hm : putM L room s = (N, O, b)) (ha : SlotsAt w A L) (hn : L.length = n) (h1 : L.length ≤ 999999) (r1 : -9223372036854775808 ≤ room) (r2 : room ≤ 9223372036854775807) :
    Calls Try.prog 44 #[.slice A n c, .int .i64 room, .agg #[.int .u64 s.sum, .int .i64 s.len, .string s.left, .string s.right, .string s.val]] w (PutTold N O b w) := by
  unfold putM at hm
  cases hr : rightB L with
  | true =>
    rw [hr] at hm
    simp only [if_true, Prod.mk.injEq] at hm
    obtain ⟨rfl, rfl, rfl⟩ := hm
    exact rput_ok A L n c room s w ha hn h1 r1 r2 hr
  | false =>
    rw [hr] at hm
    simp only [Bool.false_eq_true, if_false, Prod.mk.injEq] at hm
    obtain ⟨rfl, rfl, rfl⟩ := hm
    exact rput_bad A L n c room s w ha hn h1 hr

end Go.Proofs.Ytjifmfgfmciaeaa
