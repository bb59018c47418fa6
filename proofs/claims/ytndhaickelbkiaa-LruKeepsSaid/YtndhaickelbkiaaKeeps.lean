/-
  LruKeeps returns true, if package lru is as chapter 13 says: what is put is there, if there is room, and is the first one; all others are there, or out. Nothing that was there is changed.
-/
import Derived.Test.YtndhaickelbkiaaAgain
namespace Go.Proofs.Ytndhaickelbkiaa
open Go.RowKit

theorem slots_head {w : World} {A : Option Addr} {L : List Sl} (h : SlotsAt w A L) {x : Sl} (hk : L[0]? = some x) :
    ∃ a, A = some a ∧ a.block < w.heap.size ∧ ∀ W, Below w.heap.size w W → W.cell? a = some (.int .u64 x.sum) ∧ W.cell? ⟨a.block, a.off + 1, none⟩ = some (.int .i64 x.len) ∧
      W.cell? ⟨a.block, a.off + 2, none⟩ = some (.string x.left) ∧ W.cell? ⟨a.block, a.off + 3, none⟩ = some (.string x.right) ∧ W.cell? ⟨a.block, a.off + 4, none⟩ = some (.string x.val) := by
  obtain ⟨a, e, hl, c0, c1, c2, c3, c4⟩ := slots_fields h hk
  rw [Nat.zero_mul, show a.add 0 = a by simp [Addr.add]] at c0 c1 c2 c3 c4
  exact ⟨a, e, hl, fun W hW => ⟨(hW.cell hl).trans c0, (hW.cell (p := ⟨_, _, none⟩) hl).trans c1, (hW.cell (p := ⟨_, _, none⟩) hl).trans c2, (hW.cell (p := ⟨_, _, none⟩) hl).trans c3, (hW.cell (p := ⟨_, _, none⟩) hl).trans c4⟩⟩
/-- how often y has been seen, if it has another key -/
def timesN (Y : List Sl) (s y : Sl) (k : Nat) : Nat := if y.key = s.key then 0 else (Y.take k).count y
theorem times_le (Y : List Sl) (s y : Sl) (k : Nat) : timesN Y s y k ≤ k := by
  unfold timesN
  split
  · exact Nat.zero_le _
  · exact count_take_le Y k y
theorem times_other {Y : List Sl} {s y z : Sl} {k : Nat} (h : Y[k]? = some z) (e : z ≠ y) : timesN Y s y (k + 1) = timesN Y s y k := by
  unfold timesN
  rw [count_take_succ h, if_neg e]
  rfl
theorem times_key {Y : List Sl} {s y : Sl} {k j : Nat} (e : y.key = s.key) : timesN Y s y k = timesN Y s y j := by
  unfold timesN
  rw [if_pos e, if_pos e]
theorem times_same {Y : List Sl} {s y : Sl} {k : Nat} (h : Y[k]? = some y) (e : y.key ≠ s.key) : timesN Y s y (k + 1) = timesN Y s y k + 1 := by
  unfold timesN
  rw [if_neg e, if_neg e, count_take_succ h, if_pos rfl]

set_option maxHeartbeats 16000000 in
set_option maxRecDepth 100000 in
theorem keeps_any (H : LruOk) (A : Option Addr) (zs : List Int) (n c : Nat) (key room : Int) (w : World) (ha : IntsAt w A zs) (hn : zs.length = n) (h1 : n ≤ 9223372036854775807) (hz : InRange zs)
    (k1 : -9223372036854775808 ≤ key) (k2 : key ≤ 9223372036854775807) (r1 : -9223372036854775808 ≤ room) (r2 : room ≤ 9223372036854775807) :
    Calls Try.prog 6 #[.slice A n c, .int .i64 key, .int .i64 room] w fun e w' => e = .returned (.bool true) ∧ Below w.heap.size w w' := by
  subst hn
  have HZ := Lib.hid ha
  have HI := Lib.hid hz
  clear ha hz
  obtain ⟨p, hp⟩ : ∃ p, pickI room 11 = p := ⟨_, rfl⟩
  obtain ⟨p1, p2⟩ := pickI_range room 11 (by omega)
  rw [hp] at p1 p2
  have HP := Lib.hid hp
  obtain ⟨s, hs⟩ : ∃ s, s = slotOf key ⟨#[110, 101, 119]⟩ := ⟨_, rfl⟩
  have Hs := Lib.hid hs
  clear hp hs
  go_enter Try.func6, Try.ntmps6
  go_wp2_with fail
  refine (awake_any H _).mono ?_
  rintro e wA ⟨rfl, hB⟩
  have HBA := Lib.hid hB
  clear hB
  go_wp2_with fail
  refine (list_any A zs zs.length c _ (HZ.out.up HBA.out) rfl (by omega) HI.out).mono ?_
  rintro e wL ⟨Al, L, cl, rfl, hL, hLr, hL9, hLf, hB⟩
  have HL := Lib.hid hL
  have HR := Lib.hid hLr
  have HF := Lib.hid hLf
  have HBL := Lib.hid hB
  clear hL hLr hLf hB
  go_wp2_with fail
  refine (slot_any key ⟨#[110, 101, 119]⟩ _ k1 k2).mono ?_
  rintro e wS ⟨rfl, hB⟩
  rw [← Hs.out]
  have HBS := Lib.hid hB
  clear hB
  go_upto_region 4 with (fail)
  have hbk := Blk.new wS 28 #[.int .u64 s.sum, .int .i64 s.len, .string s.left, .string s.right, .string s.val]
  have hal : Below wS.heap.size wS (wS.alloc (.cells #[.int .u64 s.sum, .int .i64 s.len, .string s.left, .string s.right, .string s.val] 28)) := (Below.refl _ _).alloc (Nat.le_refl _) _
  obtain ⟨wb, hW⟩ : ∃ W, W = wS.alloc (.cells #[.int .u64 s.sum, .int .i64 s.len, .string s.left, .string s.right, .string s.val] 28) := ⟨_, rfl⟩
  obtain ⟨g9, hg⟩ : ∃ g, g = wS.heap.size := ⟨_, rfl⟩
  rw [← hW] at hbk hal ⊢
  rw [← hg] at hbk ⊢
  have K9 := Lib.hid hbk
  have HBwb := Lib.hid hal
  clear hbk hal hW hg
  go_wp2_with fail
  refine (pick_any room 11 _ r1 r2 (by omega) (by omega)).mono ?_
  rintro e wp ⟨rfl, rfl⟩
  rw [HP.out]
  have x0 := Blk.cell K9.out 0
  have x1 := Blk.cell K9.out 1
  have x2 := Blk.cell K9.out 2
  have x3 := Blk.cell K9.out 3
  have x4 := Blk.cell K9.out 4
  simp only [List.getElem?_toArray, List.getElem?_cons_zero, List.getElem?_cons_succ] at x0 x1 x2 x3 x4
  have xl := Blk.lt K9.out
  go_wp2_with fail
  clear x0 x1 x2 x3 x4 xl
  obtain ⟨N1, hN1⟩ : ∃ N1, (p - 1).toNat = N1 := ⟨_, rfl⟩
  obtain ⟨Y, hY⟩ : ∃ Y, Y = allS L s := ⟨_, rfl⟩
  obtain ⟨N, hN⟩ : ∃ N, N = Y.take N1 := ⟨_, rfl⟩
  obtain ⟨O, hO⟩ : ∃ O, O = Y.drop N1 := ⟨_, rfl⟩
  have HFS := Lib.hid (show FitS [s] by rw [Hs.out]; exact fit_slotOf _ _ (by show 3 ≤ _; omega))
  have q1 : Hid (putM L (p - 1) s = (N, O, 0)) := Lib.hid (by rw [putM_right HR.out, hN, hO, hY, hN1])
  have q2 : N.length ≤ N1 := by rw [hN, List.length_take]; omega
  have q2d : decide (N1 < N.length) = false := by rw [decide_eq_false_iff_not]; omega
  have q3 : Hid (N ++ O = Y) := Lib.hid (by rw [hN, hO, List.take_append_drop])
  have q4f : Hid (FitS Y) := Lib.hid (by rw [hY]; exact HF.out.all HFS.out)
  have q4 : Hid (rightB Y = true) := Lib.hid (by rw [hY]; exact rightB_iff.2 ((rightB_iff.1 HR.out).all s))
  have q5 : Y.length ≤ 10 := by rw [hY]; have := allS_len L s; omega
  have q6 : Hid (∀ y ∈ L, y.key ≠ s.key → Y.count y = 1) := Lib.hid (fun y hy hk => by rw [hY]; exact P13.count_all (rightB_iff.1 HR.out) hy s hk)
  have q7 : Hid (0 < N1 → N[0]? = some s) := Lib.hid (fun h => by rw [hN, hY, allS_eq]; obtain ⟨m, rfl⟩ : ∃ m, N1 = m + 1 := ⟨N1 - 1, by omega⟩; simp)
  have HMX : Hid (max (p - 1) 0 = (N1 : Int)) := Lib.hid (by omega)
  have q8 : Hid (N1 = 0 → N.length = 0) := Lib.hid (fun h => by omega)
  have q10 : Hid ((p - 1).toNat = N1) := Lib.hid hN1
  clear hN hO hY hN1
  refine (H.put Al L L.length cl (p - 1) s _ N O 0 q1.out (HL.out.up (below_step HBS.out HBwb.out)) rfl (by omega) HF.out HFS.out (by omega) (by omega)).mono ?_
  rintro e wa ⟨Aa, Ba, na, ma, ca, da, rfl, hna, hma, hN, hO, hB⟩
  have HNa := Lib.hid hN
  have HOa := Lib.hid hO
  have HBa := Lib.hid hB
  clear hN hO hB
  by_cases gp : 1 < p
  · have g4 : 0 < N.length := by have := (List.getElem?_eq_some_iff.1 (q7.out (by have := q10.out; omega))).1; exact this
    have g5 : ¬ N = [] := by intro e; rw [e] at g4; simp at g4
    subst hna
    obtain ⟨aN, eN, _, hcN⟩ := slots_head HNa.out (q7.out (by have := q10.out; omega))
    subst eN
    have HHD := Lib.hid hcN
    have HK9 : Hid (∀ W, Below wa.heap.size wa W → W.cell? ⟨g9, 0, none⟩ = some (.int .u64 s.sum) ∧ W.cell? ⟨g9, 1, none⟩ = some (.int .i64 s.len) ∧ W.cell? ⟨g9, 2, none⟩ = some (.string s.left) ∧ W.cell? ⟨g9, 3, none⟩ = some (.string s.right) ∧ W.cell? ⟨g9, 4, none⟩ = some (.string s.val)) := Lib.hid fun W hW => blk_cells (Blk.below K9.out HBa.out K9.out.lt) hW
    clear hcN
    go_wp2_with fail
    refine wp_region_noPanic ?_
    refine wp_region_held_drew (S := fun W => Below wa.heap.size wa W) (by kernel_rfl) ((Below.refl wa.heap.size wa).drew) (fun hS0 => ?_)
    change wpAnyH _ _ _ _ _ 25 #[false, false, false, false, false, false, false, false, false, false, false, false, false, false, false, false, false, false, false, false, false, false, false, false, false] _ (World.drew _)
    refine wpAnyH_take (i := 0) (v := .int .i64 0) rfl (by kernel_rfl) (by kernel_rfl) (by kernel_rfl) (fun _ _ _ h => h) (Or.inl ⟨by rfl, fun w' hS' => by exact op_move rfl rfl⟩) hS0 ?_
    change wpAnyH _ _ _ _ _ _ _ (Act.put _ (some 34) (.int .i64 0)) _
    simp only [Act.put, List.setIfInBounds_toArray, List.set_cons_zero, List.set_cons_succ]
    refine wpAnyH_take (i := 1) (v := .bool false) rfl (by kernel_rfl) (by kernel_rfl) (by kernel_rfl) (fun _ _ _ h => h) (Or.inl ⟨by rfl, fun w' hS' => by go_simp⟩) hS0 ?_
    change wpAnyH _ _ _ _ _ _ _ (Act.put _ (some 35) (.bool false)) _
    simp only [Act.put, List.setIfInBounds_toArray, List.set_cons_zero, List.set_cons_succ]
    refine wpAnyH_take (i := 2) (v := .bool false) rfl (by kernel_rfl) (by kernel_rfl) (by kernel_rfl) (fun _ _ _ h => h) (Or.inl ⟨by rfl, fun w' hS' => by exact op_move rfl rfl⟩) hS0 ?_
    change wpAnyH _ _ _ _ _ _ _ (Act.put _ (some 36) (.bool false)) _
    simp only [Act.put, List.setIfInBounds_toArray, List.set_cons_zero, List.set_cons_succ]
    refine wpAnyH_take (i := 3) (v := .slice (some aN) N.length ca) rfl (by kernel_rfl) (by kernel_rfl) (by kernel_rfl) (fun _ _ _ h => h) (Or.inl ⟨by rfl, fun w' hS' => by exact op_move rfl rfl⟩) hS0 ?_
    change wpAnyH _ _ _ _ _ _ _ (Act.put _ (some 37) (.slice (some aN) N.length ca)) _
    simp only [Act.put, List.setIfInBounds_toArray, List.set_cons_zero, List.set_cons_succ]
    refine wpAnyH_take (i := 4) (v := .int .i64 ((N.length : Nat) : Int)) rfl (by kernel_rfl) (by kernel_rfl) (by kernel_rfl) (fun _ _ _ h => h) (Or.inl ⟨by rfl, fun w' hS' => by go_simp⟩) hS0 ?_
    change wpAnyH _ _ _ _ _ _ _ (Act.put _ (some 38) (.int .i64 ((N.length : Nat) : Int))) _
    simp only [Act.put, List.setIfInBounds_toArray, List.set_cons_zero, List.set_cons_succ]
    refine wpAnyH_take (i := 5) (v := .int .i64 (p - 1)) rfl (by kernel_rfl) (by kernel_rfl) (by kernel_rfl) (fun _ _ _ h => h) (Or.inl ⟨by rfl, fun w' hS' => by exact op_move rfl rfl⟩) hS0 ?_
    change wpAnyH _ _ _ _ _ _ _ (Act.put _ (some 39) (.int .i64 (p - 1))) _
    simp only [Act.put, List.setIfInBounds_toArray, List.set_cons_zero, List.set_cons_succ]
    refine wpAnyH_take (i := 6) (v := .int .i64 (N1 : Int)) rfl (by kernel_rfl) (by kernel_rfl) (by kernel_rfl) (fun _ _ _ h => h) (Or.inl ⟨by rfl, fun w' hS' => by rw [← HMX.out]; go_simp⟩) hS0 ?_
    change wpAnyH _ _ _ _ _ _ _ (Act.put _ (some 40) (.int .i64 (N1 : Int))) _
    simp only [Act.put, List.setIfInBounds_toArray, List.set_cons_zero, List.set_cons_succ]
    refine wpAnyH_take (i := 7) (v := .bool false) rfl (by kernel_rfl) (by kernel_rfl) (by kernel_rfl) (fun _ _ _ h => h) (Or.inl ⟨by rfl, fun w' hS' => by go_simp⟩) hS0 ?_
    change wpAnyH _ _ _ _ _ _ _ (Act.put _ (some 41) (.bool false)) _
    simp only [Act.put, List.setIfInBounds_toArray, List.set_cons_zero, List.set_cons_succ]
    refine wpAnyH_take (i := 8) (v := .bool false) rfl (by kernel_rfl) (by kernel_rfl) (by kernel_rfl) (fun _ _ _ h => h) (Or.inl ⟨by rfl, fun w' hS' => by go_simp⟩) hS0 ?_
    change wpAnyH _ _ _ _ _ _ _ (Act.put _ (some 42) (.bool false)) _
    simp only [Act.put, List.setIfInBounds_toArray, List.set_cons_zero, List.set_cons_succ]
    refine wpAnyH_take (i := 9) (v := .bool false) rfl (by kernel_rfl) (by kernel_rfl) (by kernel_rfl) (fun _ _ _ h => h) (Or.inl ⟨by rfl, fun w' hS' => by exact op_move rfl rfl⟩) hS0 ?_
    change wpAnyH _ _ _ _ _ _ _ (Act.put _ (some 43) (.bool false)) _
    simp only [Act.put, List.setIfInBounds_toArray, List.set_cons_zero, List.set_cons_succ]
    refine wpAnyH_take (i := 10) (v := .int .i64 (p - 1)) rfl (by kernel_rfl) (by kernel_rfl) (by kernel_rfl) (fun _ _ _ h => h) (Or.inl ⟨by rfl, fun w' hS' => by exact op_move rfl rfl⟩) hS0 ?_
    change wpAnyH _ _ _ _ _ _ _ (Act.put _ (some 44) (.int .i64 (p - 1))) _
    simp only [Act.put, List.setIfInBounds_toArray, List.set_cons_zero, List.set_cons_succ]
    refine wpAnyH_take (i := 11) (v := .bool true) rfl (by kernel_rfl) (by kernel_rfl) (by kernel_rfl) (fun _ _ _ h => h) (Or.inl ⟨by rfl, fun w' hS' => by go_simp⟩) hS0 ?_
    change wpAnyH _ _ _ _ _ _ _ (Act.put _ (some 45) (.bool true)) _
    simp only [Act.put, List.setIfInBounds_toArray, List.set_cons_zero, List.set_cons_succ]
    refine wpAnyH_take (i := 12) (v := .bool true) rfl (by kernel_rfl) (by kernel_rfl) (by kernel_rfl) (fun _ _ _ h => h) (Or.inl ⟨by rfl, fun w' hS' => by exact op_move rfl rfl⟩) hS0 ?_
    change wpAnyH _ _ _ _ _ _ _ (Act.put _ (some 46) (.bool true)) _
    simp only [Act.put, List.setIfInBounds_toArray, List.set_cons_zero, List.set_cons_succ]
    refine wpAnyH_take (i := 13) (v := .slice (some aN) N.length ca) rfl (by kernel_rfl) (by kernel_rfl) (by kernel_rfl) (fun _ _ _ h => h) (Or.inl ⟨by rfl, fun w' hS' => by exact op_move rfl rfl⟩) hS0 ?_
    change wpAnyH _ _ _ _ _ _ _ (Act.put _ (some 47) (.slice (some aN) N.length ca)) _
    simp only [Act.put, List.setIfInBounds_toArray, List.set_cons_zero, List.set_cons_succ]
    refine wpAnyH_take (i := 14) (v := .int .i64 ((N.length : Nat) : Int)) rfl (by kernel_rfl) (by kernel_rfl) (by kernel_rfl) (fun _ _ _ h => h) (Or.inl ⟨by rfl, fun w' hS' => by go_simp⟩) hS0 ?_
    change wpAnyH _ _ _ _ _ _ _ (Act.put _ (some 48) (.int .i64 ((N.length : Nat) : Int))) _
    simp only [Act.put, List.setIfInBounds_toArray, List.set_cons_zero, List.set_cons_succ]
    refine wpAnyH_take (i := 15) (v := .bool false) rfl (by kernel_rfl) (by kernel_rfl) (by kernel_rfl) (fun _ _ _ h => h) (Or.inl ⟨by rfl, fun w' hS' => by go_simp⟩) hS0 ?_
    change wpAnyH _ _ _ _ _ _ _ (Act.put _ (some 49) (.bool false)) _
    simp only [Act.put, List.setIfInBounds_toArray, List.set_cons_zero, List.set_cons_succ]
    refine wpAnyH_take (i := 16) (v := .bool false) rfl (by kernel_rfl) (by kernel_rfl) (by kernel_rfl) (fun _ _ _ h => h) (Or.inl ⟨by rfl, fun w' hS' => by exact op_move rfl rfl⟩) hS0 ?_
    change wpAnyH _ _ _ _ _ _ _ (Act.put _ (some 50) (.bool false)) _
    simp only [Act.put, List.setIfInBounds_toArray, List.set_cons_zero, List.set_cons_succ]
    refine wpAnyH_take (i := 17) (v := .slice (some aN) N.length ca) rfl (by kernel_rfl) (by kernel_rfl) (by kernel_rfl) (fun _ _ _ h => h) (Or.inl ⟨by rfl, fun w' hS' => by exact op_move rfl rfl⟩) hS0 ?_
    change wpAnyH _ _ _ _ _ _ _ (Act.put _ (some 51) (.slice (some aN) N.length ca)) _
    simp only [Act.put, List.setIfInBounds_toArray, List.set_cons_zero, List.set_cons_succ]
    refine wpAnyH_take (i := 18) (v := .pointer (some aN)) rfl (by kernel_rfl) (by kernel_rfl) (by kernel_rfl) (fun _ _ _ h => h) (Or.inl ⟨by rfl, fun w' hS' => by go_simp⟩) hS0 ?_
    change wpAnyH _ _ _ _ _ _ _ (Act.put _ (some 52) (.pointer (some aN))) _
    simp only [Act.put, List.setIfInBounds_toArray, List.set_cons_zero, List.set_cons_succ]
    refine wpAnyH_take (i := 19) (v := .agg #[.int .u64 s.sum, .int .i64 s.len, .string s.left, .string s.right, .string s.val]) rfl (by kernel_rfl) (by kernel_rfl) (by kernel_rfl) (fun _ _ _ h => h) (Or.inl ⟨by rfl, fun w' hS' => by obtain ⟨y0, y1, y2, y3, y4⟩ := HHD.out _ hS'; go_simp⟩) hS0 ?_
    change wpAnyH _ _ _ _ _ _ _ (Act.put _ (some 53) (.agg #[.int .u64 s.sum, .int .i64 s.len, .string s.left, .string s.right, .string s.val])) _
    simp only [Act.put, List.setIfInBounds_toArray, List.set_cons_zero, List.set_cons_succ]
    refine wpAnyH_take (i := 20) (v := .agg #[.int .u64 s.sum, .int .i64 s.len, .string s.left, .string s.right, .string s.val]) rfl (by kernel_rfl) (by kernel_rfl) (by kernel_rfl) (fun _ _ _ h => h) (Or.inl ⟨by rfl, fun w' hS' => by obtain ⟨y0, y1, y2, y3, y4⟩ := HK9.out _ hS'; go_simp⟩) hS0 ?_
    change wpAnyH _ _ _ _ _ _ _ (Act.put _ (some 54) (.agg #[.int .u64 s.sum, .int .i64 s.len, .string s.left, .string s.right, .string s.val])) _
    simp only [Act.put, List.setIfInBounds_toArray, List.set_cons_zero, List.set_cons_succ]
    refine wpAnyH_take (i := 21) (v := .bool false) rfl (by kernel_rfl) (by kernel_rfl) (by kernel_rfl) (fun _ _ _ h => h) (Or.inl ⟨by rfl, fun w' hS' => by go_simp⟩) hS0 ?_
    change wpAnyH _ _ _ _ _ _ _ (Act.put _ (some 55) (.bool false)) _
    simp only [Act.put, List.setIfInBounds_toArray, List.set_cons_zero, List.set_cons_succ]
    refine wpAnyH_take (i := 22) (v := .bool false) rfl (by kernel_rfl) (by kernel_rfl) (by kernel_rfl) (fun _ _ _ h => h) (Or.inl ⟨by rfl, fun w' hS' => by go_simp⟩) hS0 ?_
    change wpAnyH _ _ _ _ _ _ _ (Act.put _ (some 56) (.bool false)) _
    simp only [Act.put, List.setIfInBounds_toArray, List.set_cons_zero, List.set_cons_succ]
    refine wpAnyH_take (i := 23) (v := .bool false) rfl (by kernel_rfl) (by kernel_rfl) (by kernel_rfl) (fun _ _ _ h => h) (Or.inl ⟨by rfl, fun w' hS' => by go_simp⟩) hS0 ?_
    change wpAnyH _ _ _ _ _ _ _ (Act.put _ (some 57) (.bool false)) _
    simp only [Act.put, List.setIfInBounds_toArray, List.set_cons_zero, List.set_cons_succ]
    refine wpAnyH_take (i := 24) (v := .bool false) rfl (by kernel_rfl) (by kernel_rfl) (by kernel_rfl) (fun _ _ _ h => h) (Or.inl ⟨by rfl, fun w' hS' => by go_simp⟩) hS0 ?_
    change wpAnyH _ _ _ _ _ _ _ (Act.put _ (some 58) (.bool false)) _
    simp only [Act.put, List.setIfInBounds_toArray, List.set_cons_zero, List.set_cons_succ]
    refine wpAnyH_done (by kernel_rfl) ?_ _
    refine NoPanic.normal ?_
    obtain ⟨wd, hwd⟩ : ∃ wd, wd = wa.drew := ⟨_, rfl⟩
    have HBd : Hid (Below wa.heap.size wa wd) := Lib.hid (by rw [hwd]; exact (Below.refl wa.heap.size wa).drew)
    rw [← hwd]
    clear hwd
    obtain ⟨Ax, cx, wx, hrx, hox, _⟩ := append_slots (OwnR.nil wd) N.length ca (HNa.out.up HBd.out) rfl N (by simp) (by have := congrArg List.length q3.out; simp at this; omega)
    obtain ⟨Ay, cy, wy, hry, hoy, _⟩ := append_slots hox ma da ((HOa.out.up HBd.out).up hox.2) hma Y q3.out.symm (by omega)
    have HRX := Lib.hid hrx
    have HRY := Lib.hid hry
    have HOY := Lib.hid (OwnR.at_ sl_len hoy rfl)
    have HBy := Lib.hid hoy.2
    clear hrx hry hox hoy
    go_wp2_with (at_builtin; first | refine wpList_append_run (o := ⟨some 60, _, _, _, _, _⟩) rfl rfl (by rfl) rfl rfl HRX.out ?_ | refine wpList_append_run (o := ⟨some 62, _, _, _, _, _⟩) rfl rfl (by rfl) rfl rfl HRY.out ?_)
    have JL := Lib.hid (HL.out.up (below_step (below_step (below_step (below_step HBS.out HBwb.out) HBa.out) HBd.out) HBy.out))
    have JK := Lib.hid (Blk.below K9.out (below_step (below_step HBa.out HBd.out) HBy.out) K9.out.lt)
    go_loopw [15] (fun i wr => ∃ k : Nat, k ≤ L.length ∧ i = .int .i64 k ∧ ∃ q, wr = wy.drewN q) (fun i _ => L.length - (intOf i).toNat)
    case atStart => exact ⟨0, Nat.zero_le _, rfl, 0, rfl⟩
    case round =>
      obtain ⟨k, hk, rfl, q, rfl⟩ := hrel
      by_cases g1 : k < L.length
      · obtain ⟨y, hy⟩ : ∃ y, L[k]? = some y := ⟨_, List.getElem?_eq_getElem g1⟩
        have HY := Lib.hid hy
        clear hy
        go_wp2_with fail
        go_loopw [16, 17] (fun m j wr => ∃ k2 ct : Nat, k2 ≤ Y.length ∧ ct ≤ k2 ∧ j = .int .i64 k2 ∧ m = .int .i64 ct ∧ Hid (timesN Y s y k2 = ct) ∧ ∃ q, wr = wy.drewN q) (fun _ j _ => Y.length - (intOf j).toNat)
        case atStart => exact ⟨0, 0, Nat.zero_le _, Nat.le_refl _, rfl, rfl, Lib.hid (by unfold timesN; split <;> simp), q, rfl⟩
        case round =>
          obtain ⟨k2, ct, hk2, hct, rfl, rfl, HC, q', rfl⟩ := hrel
          by_cases g2 : k2 < Y.length
          · obtain ⟨z, hz⟩ : ∃ z, Y[k2]? = some z := ⟨_, List.getElem?_eq_getElem g2⟩
            obtain ⟨a1, ea1, _, c0, c1, c2, c3, c4⟩ := slots_fields HOY.out hz
            subst ea1
            obtain ⟨a2, ea2, _, d0, d1, d2, d3, d4⟩ := slots_fields JL.out HY.out
            subst ea2
            have u0 := Blk.cell JK.out 0
            have u1 := Blk.cell JK.out 1
            simp only [List.getElem?_toArray, List.getElem?_cons_zero, List.getElem?_cons_succ] at u0 u1
            have HZK := Lib.hid hz
            clear hz
            cases t0 : (z.sum == y.sum) with
            | false =>
              have HE : Hid (z ≠ y) := Lib.hid (by rintro rfl; simp at t0)
              go_wp2_with fail
              go_quiet (fail)
              go_wp2_with fail
              go_roundw
              case rel => exact ⟨k2 + 1, ct, by omega, by omega, by go_num, rfl, Lib.hid (by rw [times_other HZK.out HE.out, HC.out]), q' + nq, rfl⟩
              case measure => simp [intOf]; omega
            | true =>
              cases t1 : (z.len == y.len) with
              | false =>
                have HE : Hid (z ≠ y) := Lib.hid (by rintro rfl; simp at t1)
                go_wp2_with fail
                go_quiet (fail)
                go_wp2_with fail
                go_roundw
                case rel => exact ⟨k2 + 1, ct, by omega, by omega, by go_num, rfl, Lib.hid (by rw [times_other HZK.out HE.out, HC.out]), q' + nq, rfl⟩
                case measure => simp [intOf]; omega
              | true =>
                cases t2 : (z.left.toList == y.left.toList) with
                | false =>
                  have HE : Hid (z ≠ y) := Lib.hid (by rintro rfl; simp at t2)
                  go_wp2_with fail
                  go_quiet (fail)
                  go_wp2_with fail
                  go_roundw
                  case rel => exact ⟨k2 + 1, ct, by omega, by omega, by go_num, rfl, Lib.hid (by rw [times_other HZK.out HE.out, HC.out]), q' + nq, rfl⟩
                  case measure => simp [intOf]; omega
                | true =>
                  cases t3 : (z.right.toList == y.right.toList) with
                  | false =>
                    have HE : Hid (z ≠ y) := Lib.hid (by rintro rfl; simp at t3)
                    go_wp2_with fail
                    go_quiet (fail)
                    go_wp2_with fail
                    go_roundw
                    case rel => exact ⟨k2 + 1, ct, by omega, by omega, by go_num, rfl, Lib.hid (by rw [times_other HZK.out HE.out, HC.out]), q' + nq, rfl⟩
                    case measure => simp [intOf]; omega
                  | true =>
                    cases t4 : (z.val.toList == y.val.toList) with
                    | false =>
                      have HE : Hid (z ≠ y) := Lib.hid (by rintro rfl; simp at t4)
                      go_wp2_with fail
                      go_quiet (fail)
                      go_wp2_with fail
                      go_roundw
                      case rel => exact ⟨k2 + 1, ct, by omega, by omega, by go_num, rfl, Lib.hid (by rw [times_other HZK.out HE.out, HC.out]), q' + nq, rfl⟩
                      case measure => simp [intOf]; omega
                    | true =>
                      have HE : Hid (z = y) := Lib.hid (sl_eq t0 t1 t2 t3 t4)
                      obtain rfl : y = z := HE.out.symm
                      cases t5 : (y.sum == s.sum) with
                      | false =>
                        have HE2 : Hid (y.key ≠ s.key) := Lib.hid (by intro e; have := congrArg Prod.fst e; simp [Sl.key] at this; simp [this] at t5)
                        go_wp2_with fail
                        go_quiet (fail)
                        go_wp2_with fail
                        go_roundw
                        case rel => exact ⟨k2 + 1, ct + 1, by omega, by omega, by go_num, by go_num, Lib.hid (by rw [times_same HZK.out HE2.out, HC.out]), q' + nq, rfl⟩
                        case measure => simp [intOf]; omega
                      | true =>
                        cases t6 : (y.len == s.len) with
                        | false =>
                          have HE2 : Hid (y.key ≠ s.key) := Lib.hid (by intro e; have := congrArg Prod.snd e; simp [Sl.key] at this; simp [this] at t6)
                          go_wp2_with fail
                          go_quiet (fail)
                          go_wp2_with fail
                          go_roundw
                          case rel => exact ⟨k2 + 1, ct + 1, by omega, by omega, by go_num, by go_num, Lib.hid (by rw [times_same HZK.out HE2.out, HC.out]), q' + nq, rfl⟩
                          case measure => simp [intOf]; omega
                        | true =>
                          have HE2 : Hid (y.key = s.key) := Lib.hid (Prod.ext (by show y.sum = s.sum; simpa using t5) (by show y.len = s.len; simpa using t6))
                          go_wp2_with fail
                          go_quiet (fail)
                          go_wp2_with fail
                          go_roundw
                          case rel => exact ⟨k2 + 1, ct, by omega, by omega, by go_num, rfl, Lib.hid (by rw [times_key HE2.out (j := k2), HC.out]), q' + nq, rfl⟩
                          case measure => simp [intOf]; omega
          · obtain ⟨a2, ea2, _, d0, d1, d2, d3, d4⟩ := slots_fields JL.out HY.out
            subst ea2
            have u0 := Blk.cell JK.out 0
            have u1 := Blk.cell JK.out 1
            simp only [List.getElem?_toArray, List.getElem?_cons_zero, List.getElem?_cons_succ] at u0 u1
            have HTT : Hid (timesN Y s y k2 = timesN Y s y Y.length) := Lib.hid (by rw [show k2 = Y.length by omega])
            cases t5 : (y.sum == s.sum) with
            | false =>
              have HE2 : Hid (y.key ≠ s.key) := Lib.hid (by intro e; have := congrArg Prod.fst e; simp [Sl.key] at this; simp [this] at t5)
              obtain rfl : ct = 1 := by have h := HTT.out; rw [HC.out] at h; rw [h]; unfold timesN; rw [if_neg HE2.out, List.take_of_length_le (Nat.le_refl _)]; exact q6.out y (List.mem_of_getElem? HY.out) HE2.out
              go_wp2_with fail
              go_quiet (fail)
              go_wp2_with fail
              go_roundw
              case rel => exact ⟨k + 1, by omega, by go_num, q' + nq, rfl⟩
              case measure => simp [intOf]; omega
            | true =>
              cases t6 : (y.len == s.len) with
              | false =>
                have HE2 : Hid (y.key ≠ s.key) := Lib.hid (by intro e; have := congrArg Prod.snd e; simp [Sl.key] at this; simp [this] at t6)
                obtain rfl : ct = 1 := by have h := HTT.out; rw [HC.out] at h; rw [h]; unfold timesN; rw [if_neg HE2.out, List.take_of_length_le (Nat.le_refl _)]; exact q6.out y (List.mem_of_getElem? HY.out) HE2.out
                go_wp2_with fail
                go_quiet (fail)
                go_wp2_with fail
                go_roundw
                case rel => exact ⟨k + 1, by omega, by go_num, q' + nq, rfl⟩
                case measure => simp [intOf]; omega
              | true =>
                have HE2 : Hid (y.key = s.key) := Lib.hid (Prod.ext (by show y.sum = s.sum; simpa using t5) (by show y.len = s.len; simpa using t6))
                obtain rfl : ct = 0 := by have h := HTT.out; rw [HC.out] at h; rw [h]; unfold timesN; rw [if_pos HE2.out]
                go_wp2_with fail
                go_quiet (fail)
                go_wp2_with fail
                go_roundw
                case rel => exact ⟨k + 1, by omega, by go_num, q' + nq, rfl⟩
                case measure => simp [intOf]; omega
      · obtain ⟨wz, hwz⟩ : ∃ wz, wz = wy.drewN q := ⟨_, rfl⟩
        have HBz : Hid (Below wy.heap.size wy wz) := Lib.hid (by rw [hwz]; exact below_drewN (Below.refl _ _) _)
        rw [← hwz]
        clear hwz
        go_wp2_with fail
        refine (H.right Ay Y Y.length cy _ true q4.out (HOY.out.up HBz.out) rfl (by omega) q4f.out).mono ?_
        rintro e wu ⟨rfl, hB⟩
        have HBu := Lib.hid hB
        clear hB
        go_wp2_with fail
        go_ret
        exact ⟨rfl, (below_step (below_step (below_step (below_step (below_step (below_step (below_step (below_step HBA.out HBL.out) HBS.out) HBwb.out) HBa.out) HBd.out) HBy.out) HBz.out) HBu.out)⟩
  · obtain rfl : 0 = na := by rw [← hna]; exact (q8.out (by have := q10.out; omega)).symm
    have HNA := Lib.hid hna
    clear hna
    have HK9 : Hid (∀ W, Below wa.heap.size wa W → W.cell? ⟨g9, 0, none⟩ = some (.int .u64 s.sum) ∧ W.cell? ⟨g9, 1, none⟩ = some (.int .i64 s.len) ∧ W.cell? ⟨g9, 2, none⟩ = some (.string s.left) ∧ W.cell? ⟨g9, 3, none⟩ = some (.string s.right) ∧ W.cell? ⟨g9, 4, none⟩ = some (.string s.val)) := Lib.hid fun W hW => blk_cells (Blk.below K9.out HBa.out K9.out.lt) hW
    skip
    go_wp2_with fail
    refine wp_region_noPanic ?_
    refine wp_region_held_drew (S := fun W => Below wa.heap.size wa W) (by kernel_rfl) ((Below.refl wa.heap.size wa).drew) (fun hS0 => ?_)
    change wpAnyH _ _ _ _ _ 25 #[false, false, false, false, false, false, false, false, false, false, false, false, false, false, false, false, false, false, false, false, false, false, false, false, false] _ (World.drew _)
    refine wpAnyH_take (i := 0) (v := .int .i64 0) rfl (by kernel_rfl) (by kernel_rfl) (by kernel_rfl) (fun _ _ _ h => h) (Or.inl ⟨by rfl, fun w' hS' => by exact op_move rfl rfl⟩) hS0 ?_
    change wpAnyH _ _ _ _ _ _ _ (Act.put _ (some 34) (.int .i64 0)) _
    simp only [Act.put, List.setIfInBounds_toArray, List.set_cons_zero, List.set_cons_succ]
    refine wpAnyH_take (i := 1) (v := .bool false) rfl (by kernel_rfl) (by kernel_rfl) (by kernel_rfl) (fun _ _ _ h => h) (Or.inl ⟨by rfl, fun w' hS' => by go_simp⟩) hS0 ?_
    change wpAnyH _ _ _ _ _ _ _ (Act.put _ (some 35) (.bool false)) _
    simp only [Act.put, List.setIfInBounds_toArray, List.set_cons_zero, List.set_cons_succ]
    refine wpAnyH_take (i := 2) (v := .bool false) rfl (by kernel_rfl) (by kernel_rfl) (by kernel_rfl) (fun _ _ _ h => h) (Or.inl ⟨by rfl, fun w' hS' => by exact op_move rfl rfl⟩) hS0 ?_
    change wpAnyH _ _ _ _ _ _ _ (Act.put _ (some 36) (.bool false)) _
    simp only [Act.put, List.setIfInBounds_toArray, List.set_cons_zero, List.set_cons_succ]
    refine wpAnyH_take (i := 3) (v := .slice Aa 0 ca) rfl (by kernel_rfl) (by kernel_rfl) (by kernel_rfl) (fun _ _ _ h => h) (Or.inl ⟨by rfl, fun w' hS' => by exact op_move rfl rfl⟩) hS0 ?_
    change wpAnyH _ _ _ _ _ _ _ (Act.put _ (some 37) (.slice Aa 0 ca)) _
    simp only [Act.put, List.setIfInBounds_toArray, List.set_cons_zero, List.set_cons_succ]
    refine wpAnyH_take (i := 4) (v := .int .i64 0) rfl (by kernel_rfl) (by kernel_rfl) (by kernel_rfl) (fun _ _ _ h => h) (Or.inl ⟨by rfl, fun w' hS' => by go_simp⟩) hS0 ?_
    change wpAnyH _ _ _ _ _ _ _ (Act.put _ (some 38) (.int .i64 0)) _
    simp only [Act.put, List.setIfInBounds_toArray, List.set_cons_zero, List.set_cons_succ]
    refine wpAnyH_take (i := 5) (v := .int .i64 (p - 1)) rfl (by kernel_rfl) (by kernel_rfl) (by kernel_rfl) (fun _ _ _ h => h) (Or.inl ⟨by rfl, fun w' hS' => by exact op_move rfl rfl⟩) hS0 ?_
    change wpAnyH _ _ _ _ _ _ _ (Act.put _ (some 39) (.int .i64 (p - 1))) _
    simp only [Act.put, List.setIfInBounds_toArray, List.set_cons_zero, List.set_cons_succ]
    refine wpAnyH_take (i := 6) (v := .int .i64 (N1 : Int)) rfl (by kernel_rfl) (by kernel_rfl) (by kernel_rfl) (fun _ _ _ h => h) (Or.inl ⟨by rfl, fun w' hS' => by rw [← HMX.out]; go_simp⟩) hS0 ?_
    change wpAnyH _ _ _ _ _ _ _ (Act.put _ (some 40) (.int .i64 (N1 : Int))) _
    simp only [Act.put, List.setIfInBounds_toArray, List.set_cons_zero, List.set_cons_succ]
    refine wpAnyH_take (i := 7) (v := .bool false) rfl (by kernel_rfl) (by kernel_rfl) (by kernel_rfl) (fun _ _ _ h => h) (Or.inl ⟨by rfl, fun w' hS' => by go_simp⟩) hS0 ?_
    change wpAnyH _ _ _ _ _ _ _ (Act.put _ (some 41) (.bool false)) _
    simp only [Act.put, List.setIfInBounds_toArray, List.set_cons_zero, List.set_cons_succ]
    refine wpAnyH_take (i := 8) (v := .bool false) rfl (by kernel_rfl) (by kernel_rfl) (by kernel_rfl) (fun _ _ _ h => h) (Or.inl ⟨by rfl, fun w' hS' => by go_simp⟩) hS0 ?_
    change wpAnyH _ _ _ _ _ _ _ (Act.put _ (some 42) (.bool false)) _
    simp only [Act.put, List.setIfInBounds_toArray, List.set_cons_zero, List.set_cons_succ]
    refine wpAnyH_take (i := 9) (v := .bool false) rfl (by kernel_rfl) (by kernel_rfl) (by kernel_rfl) (fun _ _ _ h => h) (Or.inl ⟨by rfl, fun w' hS' => by exact op_move rfl rfl⟩) hS0 ?_
    change wpAnyH _ _ _ _ _ _ _ (Act.put _ (some 43) (.bool false)) _
    simp only [Act.put, List.setIfInBounds_toArray, List.set_cons_zero, List.set_cons_succ]
    refine wpAnyH_take (i := 10) (v := .int .i64 (p - 1)) rfl (by kernel_rfl) (by kernel_rfl) (by kernel_rfl) (fun _ _ _ h => h) (Or.inl ⟨by rfl, fun w' hS' => by exact op_move rfl rfl⟩) hS0 ?_
    change wpAnyH _ _ _ _ _ _ _ (Act.put _ (some 44) (.int .i64 (p - 1))) _
    simp only [Act.put, List.setIfInBounds_toArray, List.set_cons_zero, List.set_cons_succ]
    refine wpAnyH_take (i := 11) (v := .bool false) rfl (by kernel_rfl) (by kernel_rfl) (by kernel_rfl) (fun _ _ _ h => h) (Or.inl ⟨by rfl, fun w' hS' => by go_simp⟩) hS0 ?_
    change wpAnyH _ _ _ _ _ _ _ (Act.put _ (some 45) (.bool false)) _
    simp only [Act.put, List.setIfInBounds_toArray, List.set_cons_zero, List.set_cons_succ]
    refine wpAnyH_take (i := 12) (v := .bool false) rfl (by kernel_rfl) (by kernel_rfl) (by kernel_rfl) (fun _ _ _ h => h) (Or.inl ⟨by rfl, fun w' hS' => by exact op_move rfl rfl⟩) hS0 ?_
    change wpAnyH _ _ _ _ _ _ _ (Act.put _ (some 46) (.bool false)) _
    simp only [Act.put, List.setIfInBounds_toArray, List.set_cons_zero, List.set_cons_succ]
    refine wpAnyH_take (i := 13) (v := undef) rfl (by kernel_rfl) (by kernel_rfl) (by kernel_rfl) (fun _ _ _ h => h) (Or.inr ⟨by rfl, rfl⟩) hS0 ?_
    change wpAnyH _ _ _ _ _ _ _ (Act.put _ (some 47) (undef)) _
    simp only [Act.put, List.setIfInBounds_toArray, List.set_cons_zero, List.set_cons_succ]
    refine wpAnyH_take (i := 14) (v := undef) rfl (by kernel_rfl) (by kernel_rfl) (by kernel_rfl) (fun _ _ _ h => h) (Or.inr ⟨by rfl, rfl⟩) hS0 ?_
    change wpAnyH _ _ _ _ _ _ _ (Act.put _ (some 48) (undef)) _
    simp only [Act.put, List.setIfInBounds_toArray, List.set_cons_zero, List.set_cons_succ]
    refine wpAnyH_take (i := 15) (v := undef) rfl (by kernel_rfl) (by kernel_rfl) (by kernel_rfl) (fun _ _ _ h => h) (Or.inr ⟨by rfl, rfl⟩) hS0 ?_
    change wpAnyH _ _ _ _ _ _ _ (Act.put _ (some 49) (undef)) _
    simp only [Act.put, List.setIfInBounds_toArray, List.set_cons_zero, List.set_cons_succ]
    refine wpAnyH_take (i := 16) (v := undef) rfl (by kernel_rfl) (by kernel_rfl) (by kernel_rfl) (fun _ _ _ h => h) (Or.inr ⟨by rfl, rfl⟩) hS0 ?_
    change wpAnyH _ _ _ _ _ _ _ (Act.put _ (some 50) (undef)) _
    simp only [Act.put, List.setIfInBounds_toArray, List.set_cons_zero, List.set_cons_succ]
    refine wpAnyH_take (i := 17) (v := undef) rfl (by kernel_rfl) (by kernel_rfl) (by kernel_rfl) (fun _ _ _ h => h) (Or.inr ⟨by rfl, rfl⟩) hS0 ?_
    change wpAnyH _ _ _ _ _ _ _ (Act.put _ (some 51) (undef)) _
    simp only [Act.put, List.setIfInBounds_toArray, List.set_cons_zero, List.set_cons_succ]
    refine wpAnyH_take (i := 18) (v := undef) rfl (by kernel_rfl) (by kernel_rfl) (by kernel_rfl) (fun _ _ _ h => h) (Or.inr ⟨by rfl, rfl⟩) hS0 ?_
    change wpAnyH _ _ _ _ _ _ _ (Act.put _ (some 52) (undef)) _
    simp only [Act.put, List.setIfInBounds_toArray, List.set_cons_zero, List.set_cons_succ]
    refine wpAnyH_take (i := 19) (v := undef) rfl (by kernel_rfl) (by kernel_rfl) (by kernel_rfl) (fun _ _ _ h => h) (Or.inr ⟨by rfl, rfl⟩) hS0 ?_
    change wpAnyH _ _ _ _ _ _ _ (Act.put _ (some 53) (undef)) _
    simp only [Act.put, List.setIfInBounds_toArray, List.set_cons_zero, List.set_cons_succ]
    refine wpAnyH_take (i := 20) (v := undef) rfl (by kernel_rfl) (by kernel_rfl) (by kernel_rfl) (fun _ _ _ h => h) (Or.inr ⟨by rfl, rfl⟩) hS0 ?_
    change wpAnyH _ _ _ _ _ _ _ (Act.put _ (some 54) (undef)) _
    simp only [Act.put, List.setIfInBounds_toArray, List.set_cons_zero, List.set_cons_succ]
    refine wpAnyH_take (i := 21) (v := undef) rfl (by kernel_rfl) (by kernel_rfl) (by kernel_rfl) (fun _ _ _ h => h) (Or.inr ⟨by rfl, rfl⟩) hS0 ?_
    change wpAnyH _ _ _ _ _ _ _ (Act.put _ (some 55) (undef)) _
    simp only [Act.put, List.setIfInBounds_toArray, List.set_cons_zero, List.set_cons_succ]
    refine wpAnyH_take (i := 22) (v := undef) rfl (by kernel_rfl) (by kernel_rfl) (by kernel_rfl) (fun _ _ _ h => h) (Or.inr ⟨by rfl, rfl⟩) hS0 ?_
    change wpAnyH _ _ _ _ _ _ _ (Act.put _ (some 56) (undef)) _
    simp only [Act.put, List.setIfInBounds_toArray, List.set_cons_zero, List.set_cons_succ]
    refine wpAnyH_take (i := 23) (v := .bool false) rfl (by kernel_rfl) (by kernel_rfl) (by kernel_rfl) (fun _ _ _ h => h) (Or.inl ⟨by rfl, fun w' hS' => by go_simp⟩) hS0 ?_
    change wpAnyH _ _ _ _ _ _ _ (Act.put _ (some 57) (.bool false)) _
    simp only [Act.put, List.setIfInBounds_toArray, List.set_cons_zero, List.set_cons_succ]
    refine wpAnyH_take (i := 24) (v := .bool false) rfl (by kernel_rfl) (by kernel_rfl) (by kernel_rfl) (fun _ _ _ h => h) (Or.inl ⟨by rfl, fun w' hS' => by go_simp⟩) hS0 ?_
    change wpAnyH _ _ _ _ _ _ _ (Act.put _ (some 58) (.bool false)) _
    simp only [Act.put, List.setIfInBounds_toArray, List.set_cons_zero, List.set_cons_succ]
    refine wpAnyH_done (by kernel_rfl) ?_ _
    refine NoPanic.normal ?_
    obtain ⟨wd, hwd⟩ : ∃ wd, wd = wa.drew := ⟨_, rfl⟩
    have HBd : Hid (Below wa.heap.size wa wd) := Lib.hid (by rw [hwd]; exact (Below.refl wa.heap.size wa).drew)
    rw [← hwd]
    clear hwd
    obtain ⟨Ax, cx, wx, hrx, hox, _⟩ := append_slots (OwnR.nil wd) 0 ca (HNa.out.up HBd.out) HNA.out N (by simp) (by have := congrArg List.length q3.out; simp at this; omega)
    obtain ⟨Ay, cy, wy, hry, hoy, _⟩ := append_slots hox ma da ((HOa.out.up HBd.out).up hox.2) hma Y q3.out.symm (by omega)
    have HRX := Lib.hid hrx
    have HRY := Lib.hid hry
    have HOY := Lib.hid (OwnR.at_ sl_len hoy rfl)
    have HBy := Lib.hid hoy.2
    clear hrx hry hox hoy
    go_wp2_with (at_builtin; first | refine wpList_append_run (o := ⟨some 60, _, _, _, _, _⟩) rfl rfl (by rfl) rfl rfl HRX.out ?_ | refine wpList_append_run (o := ⟨some 62, _, _, _, _, _⟩) rfl rfl (by rfl) rfl rfl HRY.out ?_)
    have JL := Lib.hid (HL.out.up (below_step (below_step (below_step (below_step HBS.out HBwb.out) HBa.out) HBd.out) HBy.out))
    have JK := Lib.hid (Blk.below K9.out (below_step (below_step HBa.out HBd.out) HBy.out) K9.out.lt)
    go_loopw [15] (fun i wr => ∃ k : Nat, k ≤ L.length ∧ i = .int .i64 k ∧ ∃ q, wr = wy.drewN q) (fun i _ => L.length - (intOf i).toNat)
    case atStart => exact ⟨0, Nat.zero_le _, rfl, 0, rfl⟩
    case round =>
      obtain ⟨k, hk, rfl, q, rfl⟩ := hrel
      by_cases g1 : k < L.length
      · obtain ⟨y, hy⟩ : ∃ y, L[k]? = some y := ⟨_, List.getElem?_eq_getElem g1⟩
        have HY := Lib.hid hy
        clear hy
        go_wp2_with fail
        go_loopw [16, 17] (fun m j wr => ∃ k2 ct : Nat, k2 ≤ Y.length ∧ ct ≤ k2 ∧ j = .int .i64 k2 ∧ m = .int .i64 ct ∧ Hid (timesN Y s y k2 = ct) ∧ ∃ q, wr = wy.drewN q) (fun _ j _ => Y.length - (intOf j).toNat)
        case atStart => exact ⟨0, 0, Nat.zero_le _, Nat.le_refl _, rfl, rfl, Lib.hid (by unfold timesN; split <;> simp), q, rfl⟩
        case round =>
          obtain ⟨k2, ct, hk2, hct, rfl, rfl, HC, q', rfl⟩ := hrel
          by_cases g2 : k2 < Y.length
          · obtain ⟨z, hz⟩ : ∃ z, Y[k2]? = some z := ⟨_, List.getElem?_eq_getElem g2⟩
            obtain ⟨a1, ea1, _, c0, c1, c2, c3, c4⟩ := slots_fields HOY.out hz
            subst ea1
            obtain ⟨a2, ea2, _, d0, d1, d2, d3, d4⟩ := slots_fields JL.out HY.out
            subst ea2
            have u0 := Blk.cell JK.out 0
            have u1 := Blk.cell JK.out 1
            simp only [List.getElem?_toArray, List.getElem?_cons_zero, List.getElem?_cons_succ] at u0 u1
            have HZK := Lib.hid hz
            clear hz
            cases t0 : (z.sum == y.sum) with
            | false =>
              have HE : Hid (z ≠ y) := Lib.hid (by rintro rfl; simp at t0)
              go_wp2_with fail
              go_quiet (fail)
              go_wp2_with fail
              go_roundw
              case rel => exact ⟨k2 + 1, ct, by omega, by omega, by go_num, rfl, Lib.hid (by rw [times_other HZK.out HE.out, HC.out]), q' + nq, rfl⟩
              case measure => simp [intOf]; omega
            | true =>
              cases t1 : (z.len == y.len) with
              | false =>
                have HE : Hid (z ≠ y) := Lib.hid (by rintro rfl; simp at t1)
                go_wp2_with fail
                go_quiet (fail)
                go_wp2_with fail
                go_roundw
                case rel => exact ⟨k2 + 1, ct, by omega, by omega, by go_num, rfl, Lib.hid (by rw [times_other HZK.out HE.out, HC.out]), q' + nq, rfl⟩
                case measure => simp [intOf]; omega
              | true =>
                cases t2 : (z.left.toList == y.left.toList) with
                | false =>
                  have HE : Hid (z ≠ y) := Lib.hid (by rintro rfl; simp at t2)
                  go_wp2_with fail
                  go_quiet (fail)
                  go_wp2_with fail
                  go_roundw
                  case rel => exact ⟨k2 + 1, ct, by omega, by omega, by go_num, rfl, Lib.hid (by rw [times_other HZK.out HE.out, HC.out]), q' + nq, rfl⟩
                  case measure => simp [intOf]; omega
                | true =>
                  cases t3 : (z.right.toList == y.right.toList) with
                  | false =>
                    have HE : Hid (z ≠ y) := Lib.hid (by rintro rfl; simp at t3)
                    go_wp2_with fail
                    go_quiet (fail)
                    go_wp2_with fail
                    go_roundw
                    case rel => exact ⟨k2 + 1, ct, by omega, by omega, by go_num, rfl, Lib.hid (by rw [times_other HZK.out HE.out, HC.out]), q' + nq, rfl⟩
                    case measure => simp [intOf]; omega
                  | true =>
                    cases t4 : (z.val.toList == y.val.toList) with
                    | false =>
                      have HE : Hid (z ≠ y) := Lib.hid (by rintro rfl; simp at t4)
                      go_wp2_with fail
                      go_quiet (fail)
                      go_wp2_with fail
                      go_roundw
                      case rel => exact ⟨k2 + 1, ct, by omega, by omega, by go_num, rfl, Lib.hid (by rw [times_other HZK.out HE.out, HC.out]), q' + nq, rfl⟩
                      case measure => simp [intOf]; omega
                    | true =>
                      have HE : Hid (z = y) := Lib.hid (sl_eq t0 t1 t2 t3 t4)
                      obtain rfl : y = z := HE.out.symm
                      cases t5 : (y.sum == s.sum) with
                      | false =>
                        have HE2 : Hid (y.key ≠ s.key) := Lib.hid (by intro e; have := congrArg Prod.fst e; simp [Sl.key] at this; simp [this] at t5)
                        go_wp2_with fail
                        go_quiet (fail)
                        go_wp2_with fail
                        go_roundw
                        case rel => exact ⟨k2 + 1, ct + 1, by omega, by omega, by go_num, by go_num, Lib.hid (by rw [times_same HZK.out HE2.out, HC.out]), q' + nq, rfl⟩
                        case measure => simp [intOf]; omega
                      | true =>
                        cases t6 : (y.len == s.len) with
                        | false =>
                          have HE2 : Hid (y.key ≠ s.key) := Lib.hid (by intro e; have := congrArg Prod.snd e; simp [Sl.key] at this; simp [this] at t6)
                          go_wp2_with fail
                          go_quiet (fail)
                          go_wp2_with fail
                          go_roundw
                          case rel => exact ⟨k2 + 1, ct + 1, by omega, by omega, by go_num, by go_num, Lib.hid (by rw [times_same HZK.out HE2.out, HC.out]), q' + nq, rfl⟩
                          case measure => simp [intOf]; omega
                        | true =>
                          have HE2 : Hid (y.key = s.key) := Lib.hid (Prod.ext (by show y.sum = s.sum; simpa using t5) (by show y.len = s.len; simpa using t6))
                          go_wp2_with fail
                          go_quiet (fail)
                          go_wp2_with fail
                          go_roundw
                          case rel => exact ⟨k2 + 1, ct, by omega, by omega, by go_num, rfl, Lib.hid (by rw [times_key HE2.out (j := k2), HC.out]), q' + nq, rfl⟩
                          case measure => simp [intOf]; omega
          · obtain ⟨a2, ea2, _, d0, d1, d2, d3, d4⟩ := slots_fields JL.out HY.out
            subst ea2
            have u0 := Blk.cell JK.out 0
            have u1 := Blk.cell JK.out 1
            simp only [List.getElem?_toArray, List.getElem?_cons_zero, List.getElem?_cons_succ] at u0 u1
            have HTT : Hid (timesN Y s y k2 = timesN Y s y Y.length) := Lib.hid (by rw [show k2 = Y.length by omega])
            cases t5 : (y.sum == s.sum) with
            | false =>
              have HE2 : Hid (y.key ≠ s.key) := Lib.hid (by intro e; have := congrArg Prod.fst e; simp [Sl.key] at this; simp [this] at t5)
              obtain rfl : ct = 1 := by have h := HTT.out; rw [HC.out] at h; rw [h]; unfold timesN; rw [if_neg HE2.out, List.take_of_length_le (Nat.le_refl _)]; exact q6.out y (List.mem_of_getElem? HY.out) HE2.out
              go_wp2_with fail
              go_quiet (fail)
              go_wp2_with fail
              go_roundw
              case rel => exact ⟨k + 1, by omega, by go_num, q' + nq, rfl⟩
              case measure => simp [intOf]; omega
            | true =>
              cases t6 : (y.len == s.len) with
              | false =>
                have HE2 : Hid (y.key ≠ s.key) := Lib.hid (by intro e; have := congrArg Prod.snd e; simp [Sl.key] at this; simp [this] at t6)
                obtain rfl : ct = 1 := by have h := HTT.out; rw [HC.out] at h; rw [h]; unfold timesN; rw [if_neg HE2.out, List.take_of_length_le (Nat.le_refl _)]; exact q6.out y (List.mem_of_getElem? HY.out) HE2.out
                go_wp2_with fail
                go_quiet (fail)
                go_wp2_with fail
                go_roundw
                case rel => exact ⟨k + 1, by omega, by go_num, q' + nq, rfl⟩
                case measure => simp [intOf]; omega
              | true =>
                have HE2 : Hid (y.key = s.key) := Lib.hid (Prod.ext (by show y.sum = s.sum; simpa using t5) (by show y.len = s.len; simpa using t6))
                obtain rfl : ct = 0 := by have h := HTT.out; rw [HC.out] at h; rw [h]; unfold timesN; rw [if_pos HE2.out]
                go_wp2_with fail
                go_quiet (fail)
                go_wp2_with fail
                go_roundw
                case rel => exact ⟨k + 1, by omega, by go_num, q' + nq, rfl⟩
                case measure => simp [intOf]; omega
      · obtain ⟨wz, hwz⟩ : ∃ wz, wz = wy.drewN q := ⟨_, rfl⟩
        have HBz : Hid (Below wy.heap.size wy wz) := Lib.hid (by rw [hwz]; exact below_drewN (Below.refl _ _) _)
        rw [← hwz]
        clear hwz
        go_wp2_with fail
        refine (H.right Ay Y Y.length cy _ true q4.out (HOY.out.up HBz.out) rfl (by omega) q4f.out).mono ?_
        rintro e wu ⟨rfl, hB⟩
        have HBu := Lib.hid hB
        clear hB
        go_wp2_with fail
        go_ret
        exact ⟨rfl, (below_step (below_step (below_step (below_step (below_step (below_step (below_step (below_step HBA.out HBL.out) HBS.out) HBwb.out) HBa.out) HBd.out) HBy.out) HBz.out) HBu.out)⟩

end Go.Proofs.Ytndhaickelbkiaa
