/-
  LruStack returns true, if package lru is as chapter 13 says: with more room there is all that there is with less, in the same order, and more behind it. Nothing that was there is changed.
-/
import Derived.Test.YtndhaickelbkiaaLast
namespace Go.Proofs.Ytndhaickelbkiaa
open Go.RowKit

/-- one of three texts -/
def u3 (m : Nat) : ByteArray := if m = 0 then ⟨#[97]⟩ else if m = 1 then ⟨#[98]⟩ else ⟨#[99]⟩
theorem u3_at (m : Nat) (h : m < 3) : (#[.string ⟨#[97]⟩, .string ⟨#[98]⟩, .string ⟨#[99]⟩] : Array Value)[m]? = some (.string (u3 m)) := by
  rcases (show m = 0 ∨ m = 1 ∨ m = 2 by omega) with rfl | rfl | rfl <;> rfl
theorem u3_size (m : Nat) : (u3 m).size ≤ 140737488355328 := by
  unfold u3
  split
  · show 1 ≤ _; omega
  · split
    · show 1 ≤ _; omega
    · show 1 ≤ _; omega
/-- what holds of the two lists at the head of each round -/
structure SInv (w wr : World) (A1 A2 : Option Addr) (L1 L2 : List Sl) : Prop where
  at1 : SlotsAt wr A1 L1
  at2 : SlotsAt wr A2 L2
  right1 : rightB L1 = true
  right2 : rightB L2 = true
  fit1 : FitS L1
  fit2 : FitS L2
  pre : keysL L1 <+: keysL L2
  below : Below w.heap.size w wr
theorem SInv.up {w wr w' : World} {A1 A2 : Option Addr} {L1 L2 : List Sl} (h : SInv w wr A1 A2 L1 L2) (hb : Below wr.heap.size wr w') : SInv w w' A1 A2 L1 L2 :=
  ⟨h.at1.up hb, h.at2.up hb, h.right1, h.right2, h.fit1, h.fit2, h.pre, below_step h.below hb⟩
/-- a slot of a key, with another text -/
def gotS (x : Sl) : Sl := ⟨x.sum, x.len, ⟨#[]⟩, ⟨#[]⟩, ⟨#[103, 111, 116]⟩⟩
theorem fit_gotS (x : Sl) (hx : FitS [x]) : FitS [gotS x] := fun y hy => by
  have : y = gotS x := by simpa using hy
  subst this
  have h := hx x (List.mem_singleton.2 rfl)
  exact ⟨⟨by show (0 : Nat) ≤ _; omega, by show (0 : Nat) ≤ _; omega, by show (3 : Nat) ≤ _; omega⟩, h.2.1, h.2.2⟩
theorem right_got {L : List Sl} (h : rightB L = true) (y : Sl) : rightB (y :: withoutS L y.key) = true := rightB_iff.2 ((rightB_iff.1 h).got y)
theorem fit_got {L : List Sl} (h : FitS L) {y : Sl} (hy : y ∈ L) (k : Int × Int) : FitS (y :: withoutS L k) := (h.without k).cons (h.sub fun z hz => by rw [List.mem_singleton.1 hz]; exact hy)
theorem pre_at {K1 K2 : List (Int × Int)} (h : K1 <+: K2) {k : Nat} {x : Int × Int} (hx : K1[k]? = some x) : K2[k]? = some x := by
  obtain ⟨r, rfl⟩ := h
  obtain ⟨hk, rfl⟩ := List.getElem?_eq_some_iff.1 hx
  rw [List.getElem?_append_left hk]
  exact hx
theorem pre_len {L1 L2 : List Sl} (h : keysL L1 <+: keysL L2) : L1.length ≤ L2.length := by
  have := h.length_le
  rwa [keys_length, keys_length] at this

set_option maxHeartbeats 16000000 in
set_option maxRecDepth 100000 in
theorem stack_any (H : LruOk) (A B : Option Addr) (zs : List Int) (bs : List Bool) (n c m d : Nat) (room more : Int) (w : World) (ha : IntsAt w A zs) (hn : zs.length = n) (h1 : n ≤ 9223372036854775807) (hz : InRange zs)
    (hb : BoolsAt w B bs) (hm : bs.length = m) (h2 : m ≤ 9223372036854775807) (r1 : -9223372036854775808 ≤ room) (r2 : room ≤ 9223372036854775807) (s1 : -9223372036854775808 ≤ more) (s2 : more ≤ 9223372036854775807) :
    Calls Try.prog 8 #[.slice A n c, .slice B m d, .int .i64 room, .int .i64 more] w fun e w' => e = .returned (.bool true) ∧ Below w.heap.size w w' := by
  subst hn hm
  have HZ := Lib.hid ha
  have HI := Lib.hid hz
  have HBS0 := Lib.hid hb
  clear ha hz hb
  obtain ⟨p, hp⟩ : ∃ p, pickI room 6 = p := ⟨_, rfl⟩
  obtain ⟨p1, p2⟩ := pickI_range room 6 (by omega)
  rw [hp] at p1 p2
  have HP := Lib.hid hp
  obtain ⟨q, hq⟩ : ∃ q, pickI more 6 = q := ⟨_, rfl⟩
  obtain ⟨q1, q2⟩ := pickI_range more 6 (by omega)
  rw [hq] at q1 q2
  have HQ := Lib.hid hq
  clear hp hq
  go_enter Try.func8, Try.ntmps8
  go_wp2_with fail
  refine (awake_any H _).mono ?_
  rintro e wA ⟨rfl, hB⟩
  have HBA := Lib.hid hB
  clear hB
  go_wp2_with fail
  refine (pick_any room 6 _ r1 r2 (by omega) (by omega)).mono ?_
  rintro e wp ⟨rfl, rfl⟩
  rw [HP.out]
  go_wp2_with fail
  refine (pick_any more 6 _ s1 s2 (by omega) (by omega)).mono ?_
  rintro e wp ⟨rfl, rfl⟩
  rw [HQ.out]
  go_wp2_with fail
  go_loopw [12, 13, 14] (fun l1 l2 i wr => ∃ (k : Nat) (A1 A2 : Option Addr) (L1 L2 : List Sl) (c1 c2 : Nat), k ≤ 30 ∧ k ≤ zs.length ∧ i = .int .i64 k ∧ l1 = .slice A1 L1.length c1 ∧ l2 = .slice A2 L2.length c2 ∧ (L1.length : Int) ≤ p ∧ (L2.length : Int) ≤ p + q ∧ Hid (SInv w wr A1 A2 L1 L2)) (fun _ _ i _ => 30 - (intOf i).toNat)
  case atStart => exact ⟨0, none, none, [], [], 0, 0, by omega, Nat.zero_le _, rfl, rfl, rfl, p1, (by show (0 : Int) ≤ _; omega), Lib.hid ⟨RowAt.nil, RowAt.nil, by rfl, by rfl, FitS.nil, FitS.nil, List.prefix_refl _, HBA.out⟩⟩
  case round =>
    obtain ⟨k, A1, A2, L1, L2, c1, c2, hk, hkz, rfl, rfl, rfl, hL1, hL2, HV⟩ := hrel
    have hLa : L1.length ≤ 10 := by omega
    have hLb : L2.length ≤ 10 := by omega
    by_cases gk : k < zs.length ∧ k < 30
    case neg =>
      by_cases g1 : k < zs.length
      · have g2 : ¬ k < 30 := fun h => gk ⟨g1, h⟩
        clear gk
        go_wp2_with fail
        go_ret
        exact ⟨rfl, HV.out.below⟩
      · clear gk
        go_wp2_with fail
        go_ret
        exact ⟨rfl, HV.out.below⟩
    obtain ⟨g1, g2⟩ := gk
    obtain ⟨z, hzk⟩ : ∃ z, zs[k]? = some z := ⟨_, List.getElem?_eq_getElem g1⟩
    obtain ⟨hz1, hz2⟩ := HI.out z (List.mem_of_getElem? hzk)
    have HZ' := Lib.hid (HZ.out.up HV.out.below)
    have HZK := Lib.hid hzk
    obtain ⟨a, rfl, _, y0⟩ := ints_cell HZ'.out hzk
    obtain ⟨m, hm⟩ : ∃ m, k % 3 = m := ⟨_, rfl⟩
    have HM := Lib.hid hm
    have hk3 : m < 3 := by rw [← hm]; exact Nat.mod_lt _ (by omega)
    have hk3a : (0 : Int) ≤ (m : Int) := by omega
    have hk3b : (m : Int) < 3 := by omega
    obtain ⟨x, hx⟩ : ∃ x, x = slotOf z (u3 m) := ⟨_, rfl⟩
    have HS := Lib.hid hx
    have HFX := Lib.hid (show FitS [x] by rw [hx]; exact fit_slotOf _ _ (u3_size _))
    clear hzk hx hm
    go_wp2_with fail
    go_cut [15] (fun s15 wx => BoxMade wr x s15 wx)
    case first =>
        refine wp_region_noPanic ?_
        refine wp_region_held_drew (S := fun W => Below wr.heap.size wr W) (by kernel_rfl) ((Below.refl wr.heap.size wr).drew) (fun hS0 => ?_)
        change wpAnyH _ _ _ _ _ 12 #[false, false, false, false, false, false, false, false, false, false, false, false] _ (World.drew _)
        refine wpAnyH_take (i := 0) (v := .slice (some a) zs.length c) rfl (by kernel_rfl) (by kernel_rfl) (by kernel_rfl) (fun _ _ _ h => h) (Or.inl ⟨by rfl, fun w' hS' => by exact op_move rfl rfl⟩) hS0 ?_
        change wpAnyH _ _ _ _ _ _ _ (Act.put _ (some 48) (.slice (some a) zs.length c)) _
        simp only [Act.put, List.setIfInBounds_toArray, List.set_cons_zero, List.set_cons_succ]
        refine wpAnyH_take (i := 1) (v := .int .i64 (k : Int)) rfl (by kernel_rfl) (by kernel_rfl) (by kernel_rfl) (fun _ _ _ h => h) (Or.inl ⟨by rfl, fun w' hS' => by exact op_move rfl rfl⟩) hS0 ?_
        change wpAnyH _ _ _ _ _ _ _ (Act.put _ (some 49) (.int .i64 (k : Int))) _
        simp only [Act.put, List.setIfInBounds_toArray, List.set_cons_zero, List.set_cons_succ]
        refine wpAnyH_take (i := 2) (v := .pointer (some (a.add k))) rfl (by kernel_rfl) (by kernel_rfl) (by kernel_rfl) (fun _ _ _ h => h) (Or.inl ⟨by rfl, fun w' hS' => by go_simp⟩) hS0 ?_
        change wpAnyH _ _ _ _ _ _ _ (Act.put _ (some 50) (.pointer (some (a.add k)))) _
        simp only [Act.put, List.setIfInBounds_toArray, List.set_cons_zero, List.set_cons_succ]
        refine wpAnyH_take (i := 3) (v := .int .i64 z) rfl (by kernel_rfl) (by kernel_rfl) (by kernel_rfl) (fun _ _ _ h => h) (Or.inl ⟨by rfl, fun w' hS' => by obtain ⟨a', ea, _, y0⟩ := ints_cell (HZ'.out.up hS') HZK.out; injection ea with ea; subst ea; go_simp⟩) hS0 ?_
        change wpAnyH _ _ _ _ _ _ _ (Act.put _ (some 51) (.int .i64 z)) _
        simp only [Act.put, List.setIfInBounds_toArray, List.set_cons_zero, List.set_cons_succ]
        refine wpAnyH_take (i := 5) (v := .int .i64 (k : Int)) rfl (by kernel_rfl) (by kernel_rfl) (by kernel_rfl) (fun _ _ _ h => h) (Or.inl ⟨by rfl, fun w' hS' => by exact op_move rfl rfl⟩) hS0 ?_
        change wpAnyH _ _ _ _ _ _ _ (Act.put _ (some 53) (.int .i64 (k : Int))) _
        simp only [Act.put, List.setIfInBounds_toArray, List.set_cons_zero, List.set_cons_succ]
        refine wpAnyH_take (i := 6) (v := .int .i64 (m : Int)) rfl (by kernel_rfl) (by kernel_rfl) (by kernel_rfl) (fun _ _ _ h => h) (Or.inl ⟨by rfl, fun w' hS' => by rw [← HM.out]; exact op_rem k 3 (by omega) (by omega) rfl rfl⟩) hS0 ?_
        change wpAnyH _ _ _ _ _ _ _ (Act.put _ (some 54) (.int .i64 (m : Int))) _
        simp only [Act.put, List.setIfInBounds_toArray, List.set_cons_zero, List.set_cons_succ]
        refine wpAnyH_ready (rs := [4, 10]) (by kernel_rfl) (by simp) (AllReadyH.cons rfl (fun K hK => ?_) (AllReadyH.cons rfl (fun K hK => ?_) (AllReadyH.nil)))
        · skip
          obtain ⟨g2, W1, hr5, hb6, hB7⟩ := op_strs3 wr.drew ⟨#[97]⟩ ⟨#[98]⟩ ⟨#[99]⟩
          refine step_op_run (hr5 _ _ rfl) rfl ?_
          refine hK.out _ _ (hS0.trans (hB7.mono hS0.size)) (fun hS3 => ?_)
          clear hK K
          change wpAnyH _ _ _ _ _ _ _ (Act.put _ (some 52) (.slice (some ⟨g2, 0, none⟩) 3 3)) _
          simp only [Act.put, List.setIfInBounds_toArray, List.set_cons_zero, List.set_cons_succ]
          have hS4 : Below wr.heap.size wr W1 ∧ Blk W1 g2 9 #[.string ⟨#[97]⟩, .string ⟨#[98]⟩, .string ⟨#[99]⟩] := ⟨hS3, hb6⟩
          refine wpAnyH_more (S' := fun W => Below wr.heap.size wr W ∧ Blk W g2 9 #[.string ⟨#[97]⟩, .string ⟨#[98]⟩, .string ⟨#[99]⟩]) (fun _ h => h.1) ?_
          refine wpAnyH_take (i := 7) (v := .pointer (some ⟨g2, m, none⟩)) rfl (by kernel_rfl) (by kernel_rfl) (by kernel_rfl) (fun _ _ _ h => h) (Or.inl ⟨by rfl, fun w' hS' => by go_simp⟩) hS4 ?_
          change wpAnyH _ _ _ _ _ _ _ (Act.put _ (some 55) (.pointer (some ⟨g2, m, none⟩))) _
          simp only [Act.put, List.setIfInBounds_toArray, List.set_cons_zero, List.set_cons_succ]
          refine wpAnyH_take (i := 8) (v := .string (u3 m)) rfl (by kernel_rfl) (by kernel_rfl) (by kernel_rfl) (fun _ _ _ h => h) (Or.inl ⟨by rfl, fun w' hS' => by have y0 := text_at hS'.2 (u3_at m hk3); go_simp⟩) hS4 ?_
          change wpAnyH _ _ _ _ _ _ _ (Act.put _ (some 56) (.string (u3 m))) _
          simp only [Act.put, List.setIfInBounds_toArray, List.set_cons_zero, List.set_cons_succ]
          refine wpAnyH_ready (rs := [9, 10]) (by kernel_rfl) (by simp) (AllReadyH.cons rfl (fun K hK => ?_) (AllReadyH.cons rfl (fun K hK => ?_) (AllReadyH.nil)))
          · skip
            go_simp
            refine (slot_any z (u3 m) _ hz1 hz2).mono ?_
            rintro e W8 ⟨rfl, hB10⟩
            rw [← HS.out]
            refine hK.out _ _ ⟨hS4.1.trans (hB10.mono hS4.1.size), Blk.below hS4.2 hB10 hS4.2.lt⟩ (fun hS9 => ?_)
            clear hK K
            simp only [List.setIfInBounds_toArray, List.set_cons_zero, List.set_cons_succ]
            refine wpAnyH_ready (rs := [10]) (by kernel_rfl) (by simp) (AllReadyH.cons rfl (fun K hK => ?_) (AllReadyH.nil))
            · skip
              obtain ⟨g12, W11, hr14, hb15, hB16, hg17⟩ := op_alloc W8
              refine step_op_run (hr14 _ _ rfl) rfl ?_
              have hl18 : wr.heap.size ≤ g12 := Nat.le_trans hS9.1.size hg17
              refine hK.out _ _ ⟨hS9.1.trans (hB16.mono hS9.1.size), Blk.below hS9.2 hB16 hS9.2.lt⟩ (fun hS13 => ?_)
              clear hK K
              change wpAnyH _ _ _ _ _ _ _ (Act.put _ (some 15) (.pointer (some ⟨g12, 0, none⟩))) _
              simp only [Act.put, List.setIfInBounds_toArray, List.set_cons_zero, List.set_cons_succ]
              refine wpAnyH_ready (rs := [11]) (by kernel_rfl) (by simp) (AllReadyH.cons rfl (fun K hK => ?_) (AllReadyH.nil))
              · skip
                obtain ⟨W19, hr21, hb22, hg23⟩ := op_store g12 x zeroS W11 hb15
                refine step_op_skip (hr21 _ _ _ _ rfl rfl rfl) rfl ?_
                refine hK.out _ _ ⟨kept_below hS13.1 hg23 hl18, Blk.grown hS13.2 hg23 (fun e => blk_ne hS13.2 hb15 (by decide) (Option.some.inj e))⟩ (fun hS20 => ?_)
                clear hK K
                change wpAnyH _ _ _ _ _ _ _ (Act.put _ none (undef)) _
                simp only [Act.put]
                refine wpAnyH_done (by kernel_rfl) ?_ _
                refine NoPanic.normal ?_
                go_wp2_with fail
                go_meet
                exact ⟨g12, rfl, hb22, hS20.1, hl18⟩
          · skip
            obtain ⟨g25, W24, hr27, hb28, hB29, hg30⟩ := op_alloc W1
            refine step_op_run (hr27 _ _ rfl) rfl ?_
            have hl31 : wr.heap.size ≤ g25 := Nat.le_trans hS4.1.size hg30
            refine hK.out _ _ ⟨hS4.1.trans (hB29.mono hS4.1.size), Blk.below hS4.2 hB29 hS4.2.lt⟩ (fun hS26 => ?_)
            clear hK K
            change wpAnyH _ _ _ _ _ _ _ (Act.put _ (some 15) (.pointer (some ⟨g25, 0, none⟩))) _
            simp only [Act.put, List.setIfInBounds_toArray, List.set_cons_zero, List.set_cons_succ]
            refine wpAnyH_ready (rs := [9]) (by kernel_rfl) (by simp) (AllReadyH.cons rfl (fun K hK => ?_) (AllReadyH.nil))
            · skip
              go_simp
              refine (slot_any z (u3 m) _ hz1 hz2).mono ?_
              rintro e W32 ⟨rfl, hB34⟩
              rw [← HS.out]
              have hb35 := Blk.below hb28 hB34 hb28.lt
              refine hK.out _ _ ⟨hS26.1.trans (hB34.mono hS26.1.size), Blk.below hS26.2 hB34 hS26.2.lt⟩ (fun hS33 => ?_)
              clear hK K
              simp only [List.setIfInBounds_toArray, List.set_cons_zero, List.set_cons_succ]
              refine wpAnyH_ready (rs := [11]) (by kernel_rfl) (by simp) (AllReadyH.cons rfl (fun K hK => ?_) (AllReadyH.nil))
              · skip
                obtain ⟨W36, hr38, hb39, hg40⟩ := op_store g25 x zeroS W32 hb35
                refine step_op_skip (hr38 _ _ _ _ rfl rfl rfl) rfl ?_
                refine hK.out _ _ ⟨kept_below hS33.1 hg40 hl31, Blk.grown hS33.2 hg40 (fun e => blk_ne hS33.2 hb35 (by decide) (Option.some.inj e))⟩ (fun hS37 => ?_)
                clear hK K
                change wpAnyH _ _ _ _ _ _ _ (Act.put _ none (undef)) _
                simp only [Act.put]
                refine wpAnyH_done (by kernel_rfl) ?_ _
                refine NoPanic.normal ?_
                go_wp2_with fail
                go_meet
                exact ⟨g25, rfl, hb39, hS37.1, hl31⟩
        · skip
          obtain ⟨g42, W41, hr44, hb45, hB46, hg47⟩ := op_alloc wr.drew
          refine step_op_run (hr44 _ _ rfl) rfl ?_
          have hl48 : wr.heap.size ≤ g42 := Nat.le_trans hS0.size hg47
          refine hK.out _ _ (hS0.trans (hB46.mono hS0.size)) (fun hS43 => ?_)
          clear hK K
          change wpAnyH _ _ _ _ _ _ _ (Act.put _ (some 15) (.pointer (some ⟨g42, 0, none⟩))) _
          simp only [Act.put, List.setIfInBounds_toArray, List.set_cons_zero, List.set_cons_succ]
          refine wpAnyH_ready (rs := [4]) (by kernel_rfl) (by simp) (AllReadyH.cons rfl (fun K hK => ?_) (AllReadyH.nil))
          · skip
            obtain ⟨g50, W49, hr53, hb54, hB55⟩ := op_strs3 W41 ⟨#[97]⟩ ⟨#[98]⟩ ⟨#[99]⟩
            refine step_op_run (hr53 _ _ rfl) rfl ?_
            have hb56 := Blk.below hb45 hB55 hb45.lt
            refine hK.out _ _ (hS43.trans (hB55.mono hS43.size)) (fun hS51 => ?_)
            clear hK K
            change wpAnyH _ _ _ _ _ _ _ (Act.put _ (some 52) (.slice (some ⟨g50, 0, none⟩) 3 3)) _
            simp only [Act.put, List.setIfInBounds_toArray, List.set_cons_zero, List.set_cons_succ]
            have hS52 : Below wr.heap.size wr W49 ∧ Blk W49 g50 9 #[.string ⟨#[97]⟩, .string ⟨#[98]⟩, .string ⟨#[99]⟩] := ⟨hS51, hb54⟩
            refine wpAnyH_more (S' := fun W => Below wr.heap.size wr W ∧ Blk W g50 9 #[.string ⟨#[97]⟩, .string ⟨#[98]⟩, .string ⟨#[99]⟩]) (fun _ h => h.1) ?_
            refine wpAnyH_take (i := 7) (v := .pointer (some ⟨g50, m, none⟩)) rfl (by kernel_rfl) (by kernel_rfl) (by kernel_rfl) (fun _ _ _ h => h) (Or.inl ⟨by rfl, fun w' hS' => by go_simp⟩) hS52 ?_
            change wpAnyH _ _ _ _ _ _ _ (Act.put _ (some 55) (.pointer (some ⟨g50, m, none⟩))) _
            simp only [Act.put, List.setIfInBounds_toArray, List.set_cons_zero, List.set_cons_succ]
            refine wpAnyH_take (i := 8) (v := .string (u3 m)) rfl (by kernel_rfl) (by kernel_rfl) (by kernel_rfl) (fun _ _ _ h => h) (Or.inl ⟨by rfl, fun w' hS' => by have y0 := text_at hS'.2 (u3_at m hk3); go_simp⟩) hS52 ?_
            change wpAnyH _ _ _ _ _ _ _ (Act.put _ (some 56) (.string (u3 m))) _
            simp only [Act.put, List.setIfInBounds_toArray, List.set_cons_zero, List.set_cons_succ]
            refine wpAnyH_ready (rs := [9]) (by kernel_rfl) (by simp) (AllReadyH.cons rfl (fun K hK => ?_) (AllReadyH.nil))
            · skip
              go_simp
              refine (slot_any z (u3 m) _ hz1 hz2).mono ?_
              rintro e W57 ⟨rfl, hB59⟩
              rw [← HS.out]
              have hb60 := Blk.below hb56 hB59 hb56.lt
              refine hK.out _ _ ⟨hS52.1.trans (hB59.mono hS52.1.size), Blk.below hS52.2 hB59 hS52.2.lt⟩ (fun hS58 => ?_)
              clear hK K
              simp only [List.setIfInBounds_toArray, List.set_cons_zero, List.set_cons_succ]
              refine wpAnyH_ready (rs := [11]) (by kernel_rfl) (by simp) (AllReadyH.cons rfl (fun K hK => ?_) (AllReadyH.nil))
              · skip
                obtain ⟨W61, hr63, hb64, hg65⟩ := op_store g42 x zeroS W57 hb60
                refine step_op_skip (hr63 _ _ _ _ rfl rfl rfl) rfl ?_
                refine hK.out _ _ ⟨kept_below hS58.1 hg65 hl48, Blk.grown hS58.2 hg65 (fun e => blk_ne hS58.2 hb60 (by decide) (Option.some.inj e))⟩ (fun hS62 => ?_)
                clear hK K
                change wpAnyH _ _ _ _ _ _ _ (Act.put _ none (undef)) _
                simp only [Act.put]
                refine wpAnyH_done (by kernel_rfl) ?_ _
                refine NoPanic.normal ?_
                go_wp2_with fail
                go_meet
                exact ⟨g42, rfl, hb64, hS62.1, hl48⟩
    case rest =>
      obtain ⟨g, rfl, hbg, hbw, hgg⟩ := hcut
      have HG := Lib.hid hbg
      have HX := Lib.hid (HV.out.up hbw)
      have HX1 := Lib.hid HX.out.at1
      have HX2 := Lib.hid HX.out.at2
      have HZ2 := Lib.hid (HBS0.out.up HX.out.below)
      clear hbg hbw hgg y0 hk3a hk3b
      by_cases g3 : k < bs.length
      case pos =>
        obtain ⟨bv, hbv⟩ : ∃ bv, bs[k]? = some bv := ⟨_, List.getElem?_eq_getElem g3⟩
        obtain ⟨ab, rfl, _, cb⟩ := bools_cell HZ2.out hbv
        clear hbv
        cases bv with
        | true =>
          have u0 := Blk.cell HG.out 0
          have u1 := Blk.cell HG.out 1
          have u2 := Blk.cell HG.out 2
          have u3 := Blk.cell HG.out 3
          have u4 := Blk.cell HG.out 4
          simp only [List.getElem?_toArray, List.getElem?_cons_zero, List.getElem?_cons_succ] at u0 u1 u2 u3 u4
          have ul := Blk.lt HG.out
          obtain ⟨N1, hN1⟩ : ∃ N, N = (allS L1 x).take (p).toNat := ⟨_, rfl⟩
          obtain ⟨Oa, hO⟩ : ∃ O, O = (allS L1 x).drop (p).toNat := ⟨_, rfl⟩
          have Qa : Hid (putM L1 (p) x = (N1, Oa, 0)) := Lib.hid (by rw [putM_right HX.out.right1, hN1, hO])
          have la : (N1.length : Int) ≤ p := by rw [hN1, List.length_take]; omega
          have HEa := Lib.hid hN1
          clear hN1 hO
          go_wp2_with fail
          refine (H.put A1 L1 L1.length c1 (p) x _ N1 Oa 0 Qa.out HX1.out rfl (by omega) HX.out.fit1 HFX.out (by omega) (by omega)).mono ?_
          rintro e wa ⟨Aa, Ba, na, ma, ca, da, rfl, hna, hma, hN, hO, hB⟩
          have HNa := Lib.hid hN
          have HOa := Lib.hid hO
          have HBa := Lib.hid hB
          clear hN hO hB
          subst hna
          clear u0 u1 u2 u3 u4 ul
          have u0 := Blk.cell (Blk.below HG.out HBa.out HG.out.lt) 0
          have u1 := Blk.cell (Blk.below HG.out HBa.out HG.out.lt) 1
          have u2 := Blk.cell (Blk.below HG.out HBa.out HG.out.lt) 2
          have u3 := Blk.cell (Blk.below HG.out HBa.out HG.out.lt) 3
          have u4 := Blk.cell (Blk.below HG.out HBa.out HG.out.lt) 4
          simp only [List.getElem?_toArray, List.getElem?_cons_zero, List.getElem?_cons_succ] at u0 u1 u2 u3 u4
          have ul := Blk.lt (Blk.below HG.out HBa.out HG.out.lt)
          obtain ⟨N2, hN2⟩ : ∃ N, N = (allS L2 x).take (p + q).toNat := ⟨_, rfl⟩
          obtain ⟨Ob, hO⟩ : ∃ O, O = (allS L2 x).drop (p + q).toNat := ⟨_, rfl⟩
          have Qb : Hid (putM L2 (p + q) x = (N2, Ob, 0)) := Lib.hid (by rw [putM_right HX.out.right2, hN2, hO])
          have lb : (N2.length : Int) ≤ p + q := by rw [hN2, List.length_take]; omega
          have HEb := Lib.hid hN2
          clear hN2 hO
          go_wp2_with fail
          refine (H.put A2 L2 L2.length c2 (p + q) x _ N2 Ob 0 Qb.out (HX2.out.up HBa.out) rfl (by omega) HX.out.fit2 HFX.out (by omega) (by omega)).mono ?_
          rintro e wb ⟨Ab, Bb, nb, mb, cb, db, rfl, hnb, hmb, hN, hO, hB⟩
          have HNb := Lib.hid hN
          have HOb := Lib.hid hO
          have HBb := Lib.hid hB
          clear hN hO hB
          subst hnb
          clear u0 u1 u2 u3 u4 ul
          go_wp2_with fail
          refine (H.keys Aa N1 N1.length ca _ (HNa.out.up HBb.out) rfl (by omega)).mono ?_
          rintro e wk1 ⟨Ak1, nk1, ck1, rfl, hnk1, hK, hB⟩
          subst hnk1
          have HK1 := Lib.hid hK
          have HBk1 := Lib.hid hB
          clear hK hB
          go_wp2_with fail
          refine (H.keys Ab N2 N2.length cb _ (HNb.out.up HBk1.out) rfl (by omega)).mono ?_
          rintro e wk2 ⟨Ak2, nk2, ck2, rfl, hnk2, hK, hB⟩
          subst hnk2
          have HK2 := Lib.hid hK
          have HBk2 := Lib.hid hB
          clear hK hB
          have JK1 := Lib.hid (HK1.out.up HBk2.out)
          have JK2 := Lib.hid HK2.out
          have JV : Hid (SInv w wk2 Aa Ab N1 N2) := Lib.hid ⟨(HNa.out.up (below_step (below_step HBb.out HBk1.out) HBk2.out)), (HNb.out.up (below_step HBk1.out HBk2.out)), (by rw [HEa.out]; exact right_put HX.out.right1 x _), (by rw [HEb.out]; exact right_put HX.out.right2 x _), (by rw [HEa.out]; exact (HX.out.fit1.all HFX.out).take _), (by rw [HEb.out]; exact (HX.out.fit2.all HFX.out).take _), (by rw [HEa.out, HEb.out]; exact P13.stack_put HX.out.pre x x rfl (by omega)), below_step HX.out.below (below_step (below_step (below_step HBa.out HBb.out) HBk1.out) HBk2.out)⟩
          have z1 : N1.length ≤ N2.length := pre_len JV.out.pre
          have z1d : decide (N2.length < N1.length) = false := by rw [decide_eq_false_iff_not]; omega
          have z2d : decide (p < (N1.length : Int)) = false := by rw [decide_eq_false_iff_not]; omega
          have z3d : decide (p + q < (N2.length : Int)) = false := by rw [decide_eq_false_iff_not]; omega
          go_wp2_with fail
          go_loopw [30] (fun i wr => ∃ k3 : Nat, k3 ≤ N1.length ∧ i = .int .i64 k3 ∧ ∃ qd, wr = wk2.drewN qd) (fun i _ => N1.length - (intOf i).toNat)
          case atStart => exact ⟨0, Nat.zero_le _, rfl, 0, rfl⟩
          case round =>
            obtain ⟨k3, hk3', rfl, qd, rfl⟩ := hrel
            by_cases g5 : k3 < N1.length
            · obtain ⟨kk, hkk⟩ : ∃ kk, (keysL N1)[k3]? = some kk := ⟨_, List.getElem?_eq_getElem (by rw [keys_length]; exact g5)⟩
              have g6 : k3 < N2.length := by omega
              obtain ⟨b1, eb1, _, d0, d1⟩ := keys_fields JK1.out hkk
              subst eb1
              obtain ⟨b2, eb2, _, d2, d3⟩ := keys_fields JK2.out (pre_at JV.out.pre hkk)
              subst eb2
              clear hkk
              go_wp2_with fail
              go_quiet (fail)
              go_wp2_with fail
              go_roundw
              case rel => exact ⟨k3 + 1, by omega, by go_num, qd + nq, rfl⟩
              case measure => simp [intOf]; omega
            · go_wp2_with fail
              go_roundw
              case rel => exact ⟨k + 1, Aa, Ab, N1, N2, ca, cb, by omega, by omega, by go_num, rfl, rfl, by omega, by omega, Lib.hid (JV.out.up (below_drewN (Below.refl _ _) _))⟩
              case measure => simp [intOf]; omega
        | false =>
          obtain ⟨⟨y1, M1, e1⟩, hg1⟩ : ∃ r, getM L1 (x.sum, x.len) = r := ⟨_, rfl⟩
          obtain ⟨⟨y2, M2, e2⟩, hg2⟩ : ∃ r, getM L2 (x.sum, x.len) = r := ⟨_, rfl⟩
          have HG1 := Lib.hid hg1
          have HG2 := Lib.hid hg2
          clear hg1 hg2
          have u0 := Blk.cell HG.out 0
          have u1 := Blk.cell HG.out 1
          have u2 := Blk.cell HG.out 2
          have u3 := Blk.cell HG.out 3
          have u4 := Blk.cell HG.out 4
          simp only [List.getElem?_toArray, List.getElem?_cons_zero, List.getElem?_cons_succ] at u0 u1 u2 u3 u4
          have ul := Blk.lt HG.out
          go_wp2_with fail
          clear u0 u1 u2 u3 u4 ul
          refine (H.get A1 L1 L1.length c1 x.sum x.len _ y1 M1 e1 HG1.out HX1.out rfl (by omega) HX.out.fit1).mono ?_
          rintro e wa ⟨Aa, na, ca, rfl, hna, hM, hB⟩
          have HNa := Lib.hid hM
          have HBa := Lib.hid hB
          clear hM hB
          go_upto_region 18 with (fail)
          have hbk := Blk.new wa 28 #[.int .u64 y1.sum, .int .i64 y1.len, .string y1.left, .string y1.right, .string y1.val]
          have hal : Below wa.heap.size wa (wa.alloc (.cells #[.int .u64 y1.sum, .int .i64 y1.len, .string y1.left, .string y1.right, .string y1.val] 28)) := (Below.refl _ _).alloc (Nat.le_refl _) _
          obtain ⟨wb1, hW⟩ : ∃ W, W = wa.alloc (.cells #[.int .u64 y1.sum, .int .i64 y1.len, .string y1.left, .string y1.right, .string y1.val] 28) := ⟨_, rfl⟩
          obtain ⟨h1, hg⟩ : ∃ g, g = wa.heap.size := ⟨_, rfl⟩
          rw [← hW] at hbk hal ⊢
          rw [← hg] at hbk ⊢
          have K1 := Lib.hid hbk
          have HBb1 := Lib.hid hal
          clear hbk hal hW hg
          have u0 := Blk.cell (Blk.below HG.out (below_step HBa.out HBb1.out) HG.out.lt) 0
          have u1 := Blk.cell (Blk.below HG.out (below_step HBa.out HBb1.out) HG.out.lt) 1
          have u2 := Blk.cell (Blk.below HG.out (below_step HBa.out HBb1.out) HG.out.lt) 2
          have u3 := Blk.cell (Blk.below HG.out (below_step HBa.out HBb1.out) HG.out.lt) 3
          have u4 := Blk.cell (Blk.below HG.out (below_step HBa.out HBb1.out) HG.out.lt) 4
          simp only [List.getElem?_toArray, List.getElem?_cons_zero, List.getElem?_cons_succ] at u0 u1 u2 u3 u4
          have ul := Blk.lt (Blk.below HG.out (below_step HBa.out HBb1.out) HG.out.lt)
          go_wp2_with fail
          clear u0 u1 u2 u3 u4 ul
          refine (H.get A2 L2 L2.length c2 x.sum x.len _ y2 M2 e2 HG2.out (HX2.out.up (below_step HBa.out HBb1.out)) rfl (by omega) HX.out.fit2).mono ?_
          rintro e wb ⟨Ab, nb, cb, rfl, hnb, hM, hB⟩
          have HNb := Lib.hid hM
          have HBb := Lib.hid hB
          clear hM hB
          go_upto_region 19 with (fail)
          have hbk := Blk.new wb 28 #[.int .u64 y2.sum, .int .i64 y2.len, .string y2.left, .string y2.right, .string y2.val]
          have hal : Below wb.heap.size wb (wb.alloc (.cells #[.int .u64 y2.sum, .int .i64 y2.len, .string y2.left, .string y2.right, .string y2.val] 28)) := (Below.refl _ _).alloc (Nat.le_refl _) _
          obtain ⟨wb2, hW⟩ : ∃ W, W = wb.alloc (.cells #[.int .u64 y2.sum, .int .i64 y2.len, .string y2.left, .string y2.right, .string y2.val] 28) := ⟨_, rfl⟩
          obtain ⟨h2, hg⟩ : ∃ g, g = wb.heap.size := ⟨_, rfl⟩
          rw [← hW] at hbk hal ⊢
          rw [← hg] at hbk ⊢
          have K2 := Lib.hid hbk
          have HBb2 := Lib.hid hal
          clear hbk hal hW hg
          subst hna
          subst hnb
          rcases getM_cases HG2.out HX.out.right2 with ⟨rfl, hM2, hy2, hk2⟩ | ⟨rfl, hM2, -, hk2⟩
          case inr =>
            rcases getM_cases HG1.out HX.out.right1 with ⟨rfl, hM1, hy1, hk1⟩ | ⟨rfl, hM1, -, hk1⟩
            case inl => exact absurd (P13.stack_there HX.out.pre (P13.mem_keys.2 ⟨y1, hy1, hk1⟩)) hk2
            clear hM1 hM2 hk1 hk2
            have u0 := Blk.cell (Blk.below HG.out (below_step (below_step (below_step HBa.out HBb1.out) HBb.out) HBb2.out) HG.out.lt) 0
            have u1 := Blk.cell (Blk.below HG.out (below_step (below_step (below_step HBa.out HBb1.out) HBb.out) HBb2.out) HG.out.lt) 1
            have u2 := Blk.cell (Blk.below HG.out (below_step (below_step (below_step HBa.out HBb1.out) HBb.out) HBb2.out) HG.out.lt) 2
            have u3 := Blk.cell (Blk.below HG.out (below_step (below_step (below_step HBa.out HBb1.out) HBb.out) HBb2.out) HG.out.lt) 3
            have u4 := Blk.cell (Blk.below HG.out (below_step (below_step (below_step HBa.out HBb1.out) HBb.out) HBb2.out) HG.out.lt) 4
            simp only [List.getElem?_toArray, List.getElem?_cons_zero, List.getElem?_cons_succ] at u0 u1 u2 u3 u4
            have ul := Blk.lt (Blk.below HG.out (below_step (below_step (below_step HBa.out HBb1.out) HBb.out) HBb2.out) HG.out.lt)
            obtain ⟨N1, hN1⟩ : ∃ N, N = (allS L1 (gotS x)).take (p).toNat := ⟨_, rfl⟩
            obtain ⟨Oc, hO⟩ : ∃ O, O = (allS L1 (gotS x)).drop (p).toNat := ⟨_, rfl⟩
            have Qc : Hid (putM L1 (p) (gotS x) = (N1, Oc, 0)) := Lib.hid (by rw [putM_right HX.out.right1, hN1, hO])
            have lc : (N1.length : Int) ≤ p := by rw [hN1, List.length_take]; omega
            have HEc := Lib.hid hN1
            clear hN1 hO
            go_wp2_with fail
            refine (H.put A1 L1 L1.length c1 (p) (gotS x) _ N1 Oc 0 Qc.out (HX1.out.up (below_step (below_step (below_step HBa.out HBb1.out) HBb.out) HBb2.out)) rfl (by omega) HX.out.fit1 (fit_gotS x HFX.out) (by omega) (by omega)).mono ?_
            rintro e wc ⟨Ac, Bc, nc, mc, cc, dc, rfl, hnc, hmc, hN, hO, hB⟩
            have HNc := Lib.hid hN
            have HOc := Lib.hid hO
            have HBc := Lib.hid hB
            clear hN hO hB
            subst hnc
            clear u0 u1 u2 u3 u4 ul
            have u0 := Blk.cell (Blk.below HG.out (below_step (below_step (below_step (below_step HBa.out HBb1.out) HBb.out) HBb2.out) HBc.out) HG.out.lt) 0
            have u1 := Blk.cell (Blk.below HG.out (below_step (below_step (below_step (below_step HBa.out HBb1.out) HBb.out) HBb2.out) HBc.out) HG.out.lt) 1
            have u2 := Blk.cell (Blk.below HG.out (below_step (below_step (below_step (below_step HBa.out HBb1.out) HBb.out) HBb2.out) HBc.out) HG.out.lt) 2
            have u3 := Blk.cell (Blk.below HG.out (below_step (below_step (below_step (below_step HBa.out HBb1.out) HBb.out) HBb2.out) HBc.out) HG.out.lt) 3
            have u4 := Blk.cell (Blk.below HG.out (below_step (below_step (below_step (below_step HBa.out HBb1.out) HBb.out) HBb2.out) HBc.out) HG.out.lt) 4
            simp only [List.getElem?_toArray, List.getElem?_cons_zero, List.getElem?_cons_succ] at u0 u1 u2 u3 u4
            have ul := Blk.lt (Blk.below HG.out (below_step (below_step (below_step (below_step HBa.out HBb1.out) HBb.out) HBb2.out) HBc.out) HG.out.lt)
            obtain ⟨N2, hN2⟩ : ∃ N, N = (allS L2 (gotS x)).take (p + q).toNat := ⟨_, rfl⟩
            obtain ⟨Od, hO⟩ : ∃ O, O = (allS L2 (gotS x)).drop (p + q).toNat := ⟨_, rfl⟩
            have Qd : Hid (putM L2 (p + q) (gotS x) = (N2, Od, 0)) := Lib.hid (by rw [putM_right HX.out.right2, hN2, hO])
            have ld : (N2.length : Int) ≤ p + q := by rw [hN2, List.length_take]; omega
            have HEd := Lib.hid hN2
            clear hN2 hO
            go_wp2_with fail
            refine (H.put A2 L2 L2.length c2 (p + q) (gotS x) _ N2 Od 0 Qd.out (HX2.out.up (below_step (below_step (below_step (below_step HBa.out HBb1.out) HBb.out) HBb2.out) HBc.out)) rfl (by omega) HX.out.fit2 (fit_gotS x HFX.out) (by omega) (by omega)).mono ?_
            rintro e wd ⟨Ad, Bd, nd, md, cd, dd, rfl, hnd, hmd, hN, hO, hB⟩
            have HNd := Lib.hid hN
            have HOd := Lib.hid hO
            have HBd := Lib.hid hB
            clear hN hO hB
            subst hnd
            clear u0 u1 u2 u3 u4 ul
            go_wp2_with fail
            refine (H.keys Ac N1 N1.length cc _ (HNc.out.up HBd.out) rfl (by omega)).mono ?_
            rintro e wk1 ⟨Ak1, nk1, ck1, rfl, hnk1, hK, hB⟩
            subst hnk1
            have HK1 := Lib.hid hK
            have HBk1 := Lib.hid hB
            clear hK hB
            go_wp2_with fail
            refine (H.keys Ad N2 N2.length cd _ (HNd.out.up HBk1.out) rfl (by omega)).mono ?_
            rintro e wk2 ⟨Ak2, nk2, ck2, rfl, hnk2, hK, hB⟩
            subst hnk2
            have HK2 := Lib.hid hK
            have HBk2 := Lib.hid hB
            clear hK hB
            have JK1 := Lib.hid (HK1.out.up HBk2.out)
            have JK2 := Lib.hid HK2.out
            have JV : Hid (SInv w wk2 Ac Ad N1 N2) := Lib.hid ⟨(HNc.out.up (below_step (below_step HBd.out HBk1.out) HBk2.out)), (HNd.out.up (below_step HBk1.out HBk2.out)), (by rw [HEc.out]; exact right_put HX.out.right1 _ _), (by rw [HEd.out]; exact right_put HX.out.right2 _ _), (by rw [HEc.out]; exact (HX.out.fit1.all (fit_gotS x HFX.out)).take _), (by rw [HEd.out]; exact (HX.out.fit2.all (fit_gotS x HFX.out)).take _), (by rw [HEc.out, HEd.out]; exact P13.stack_put HX.out.pre _ _ rfl (by omega)), below_step HX.out.below (below_step (below_step (below_step (below_step (below_step (below_step (below_step HBa.out HBb1.out) HBb.out) HBb2.out) HBc.out) HBd.out) HBk1.out) HBk2.out)⟩
            have z1 : N1.length ≤ N2.length := pre_len JV.out.pre
            have z1d : decide (N2.length < N1.length) = false := by rw [decide_eq_false_iff_not]; omega
            have z2d : decide (p < (N1.length : Int)) = false := by rw [decide_eq_false_iff_not]; omega
            have z3d : decide (p + q < (N2.length : Int)) = false := by rw [decide_eq_false_iff_not]; omega
            go_wp2_with fail
            go_loopw [30] (fun i wr => ∃ k3 : Nat, k3 ≤ N1.length ∧ i = .int .i64 k3 ∧ ∃ qd, wr = wk2.drewN qd) (fun i _ => N1.length - (intOf i).toNat)
            case atStart => exact ⟨0, Nat.zero_le _, rfl, 0, rfl⟩
            case round =>
              obtain ⟨k3, hk3', rfl, qd, rfl⟩ := hrel
              by_cases g5 : k3 < N1.length
              · obtain ⟨kk, hkk⟩ : ∃ kk, (keysL N1)[k3]? = some kk := ⟨_, List.getElem?_eq_getElem (by rw [keys_length]; exact g5)⟩
                have g6 : k3 < N2.length := by omega
                obtain ⟨b1, eb1, _, d0, d1⟩ := keys_fields JK1.out hkk
                subst eb1
                obtain ⟨b2, eb2, _, d2, d3⟩ := keys_fields JK2.out (pre_at JV.out.pre hkk)
                subst eb2
                clear hkk
                go_wp2_with fail
                go_quiet (fail)
                go_wp2_with fail
                go_roundw
                case rel => exact ⟨k3 + 1, by omega, by go_num, qd + nq, rfl⟩
                case measure => simp [intOf]; omega
              · go_wp2_with fail
                go_roundw
                case rel => exact ⟨k + 1, Ac, Ad, N1, N2, cc, cd, by omega, by omega, by go_num, rfl, rfl, by omega, by omega, Lib.hid (JV.out.up (below_drewN (Below.refl _ _) _))⟩
                case measure => simp [intOf]; omega
          case inl =>
            have HQ2 : Hid (rightB M2 = true ∧ FitS M2) := Lib.hid (by rw [hM2]; exact ⟨right_got HX.out.right2 y2, fit_got HX.out.fit2 hy2 _⟩)
            have lm2 : M2.length = L2.length := by rw [hM2]; exact P13.length_got (rightB_iff.1 HX.out.right2) hy2
            have lm2' : M2.length ≤ L2.length := by omega
            clear lm2
            rcases getM_cases HG1.out HX.out.right1 with ⟨rfl, hM1, hy1, hk1⟩ | ⟨rfl, hM1, -, hk1⟩
            case inl =>
              have HQ1 : Hid (rightB M1 = true ∧ FitS M1) := Lib.hid (by rw [hM1]; exact ⟨right_got HX.out.right1 y1, fit_got HX.out.fit1 hy1 _⟩)
              have lm1 : M1.length = L1.length := by rw [hM1]; exact P13.length_got (rightB_iff.1 HX.out.right1) hy1
              have lm1' : M1.length ≤ L1.length := by omega
              clear lm1
              have HPR : Hid (keysL M1 <+: keysL M2) := Lib.hid (by rw [hM1, hM2, hk2, ← hk1]; exact P13.stack_got HX.out.pre (hk1.trans hk2.symm))
              clear hM1 hM2 hk1 hk2 hy1 hy2
              go_wp2_with fail
              refine (H.keys Aa M1 M1.length ca _ (HNa.out.up (below_step (below_step HBb1.out HBb.out) HBb2.out)) rfl (by omega)).mono ?_
              rintro e wk1 ⟨Ak1, nk1, ck1, rfl, hnk1, hK, hB⟩
              subst hnk1
              have HK1 := Lib.hid hK
              have HBk1 := Lib.hid hB
              clear hK hB
              go_wp2_with fail
              refine (H.keys Ab M2 M2.length cb _ (HNb.out.up (below_step HBb2.out HBk1.out)) rfl (by omega)).mono ?_
              rintro e wk2 ⟨Ak2, nk2, ck2, rfl, hnk2, hK, hB⟩
              subst hnk2
              have HK2 := Lib.hid hK
              have HBk2 := Lib.hid hB
              clear hK hB
              have JK1 := Lib.hid (HK1.out.up HBk2.out)
              have JK2 := Lib.hid HK2.out
              have JV : Hid (SInv w wk2 Aa Ab M1 M2) := Lib.hid ⟨(HNa.out.up (below_step (below_step (below_step (below_step HBb1.out HBb.out) HBb2.out) HBk1.out) HBk2.out)), (HNb.out.up (below_step (below_step HBb2.out HBk1.out) HBk2.out)), HQ1.out.1, HQ2.out.1, HQ1.out.2, HQ2.out.2, HPR.out, below_step HX.out.below (below_step (below_step (below_step (below_step (below_step HBa.out HBb1.out) HBb.out) HBb2.out) HBk1.out) HBk2.out)⟩
              have z1 : M1.length ≤ M2.length := pre_len JV.out.pre
              have z1d : decide (M2.length < M1.length) = false := by rw [decide_eq_false_iff_not]; omega
              have z2d : decide (p < (M1.length : Int)) = false := by rw [decide_eq_false_iff_not]; omega
              have z3d : decide (p + q < (M2.length : Int)) = false := by rw [decide_eq_false_iff_not]; omega
              go_wp2_with fail
              go_loopw [30] (fun i wr => ∃ k3 : Nat, k3 ≤ M1.length ∧ i = .int .i64 k3 ∧ ∃ qd, wr = wk2.drewN qd) (fun i _ => M1.length - (intOf i).toNat)
              case atStart => exact ⟨0, Nat.zero_le _, rfl, 0, rfl⟩
              case round =>
                obtain ⟨k3, hk3', rfl, qd, rfl⟩ := hrel
                by_cases g5 : k3 < M1.length
                · obtain ⟨kk, hkk⟩ : ∃ kk, (keysL M1)[k3]? = some kk := ⟨_, List.getElem?_eq_getElem (by rw [keys_length]; exact g5)⟩
                  have g6 : k3 < M2.length := by omega
                  obtain ⟨b1, eb1, _, d0, d1⟩ := keys_fields JK1.out hkk
                  subst eb1
                  obtain ⟨b2, eb2, _, d2, d3⟩ := keys_fields JK2.out (pre_at JV.out.pre hkk)
                  subst eb2
                  clear hkk
                  go_wp2_with fail
                  go_quiet (fail)
                  go_wp2_with fail
                  go_roundw
                  case rel => exact ⟨k3 + 1, by omega, by go_num, qd + nq, rfl⟩
                  case measure => simp [intOf]; omega
                · go_wp2_with fail
                  go_roundw
                  case rel => exact ⟨k + 1, Aa, Ab, M1, M2, ca, cb, by omega, by omega, by go_num, rfl, rfl, by omega, by omega, Lib.hid (JV.out.up (below_drewN (Below.refl _ _) _))⟩
                  case measure => simp [intOf]; omega
            case inr =>
              have HPR : Hid (∀ n : Nat, keysL ((allS L1 (gotS x)).take n) <+: keysL M2) := Lib.hid (fun n => by rw [hM2, hk2]; exact P13.stack_mixed HX.out.pre (gotS x) y2 hk2.symm n)
              clear hM1 hM2 hk1 hk2 hy2
              have u0 := Blk.cell (Blk.below HG.out (below_step (below_step (below_step HBa.out HBb1.out) HBb.out) HBb2.out) HG.out.lt) 0
              have u1 := Blk.cell (Blk.below HG.out (below_step (below_step (below_step HBa.out HBb1.out) HBb.out) HBb2.out) HG.out.lt) 1
              have u2 := Blk.cell (Blk.below HG.out (below_step (below_step (below_step HBa.out HBb1.out) HBb.out) HBb2.out) HG.out.lt) 2
              have u3 := Blk.cell (Blk.below HG.out (below_step (below_step (below_step HBa.out HBb1.out) HBb.out) HBb2.out) HG.out.lt) 3
              have u4 := Blk.cell (Blk.below HG.out (below_step (below_step (below_step HBa.out HBb1.out) HBb.out) HBb2.out) HG.out.lt) 4
              simp only [List.getElem?_toArray, List.getElem?_cons_zero, List.getElem?_cons_succ] at u0 u1 u2 u3 u4
              have ul := Blk.lt (Blk.below HG.out (below_step (below_step (below_step HBa.out HBb1.out) HBb.out) HBb2.out) HG.out.lt)
              obtain ⟨N1, hN1⟩ : ∃ N, N = (allS L1 (gotS x)).take (p).toNat := ⟨_, rfl⟩
              obtain ⟨Oc, hO⟩ : ∃ O, O = (allS L1 (gotS x)).drop (p).toNat := ⟨_, rfl⟩
              have Qc : Hid (putM L1 (p) (gotS x) = (N1, Oc, 0)) := Lib.hid (by rw [putM_right HX.out.right1, hN1, hO])
              have lc : (N1.length : Int) ≤ p := by rw [hN1, List.length_take]; omega
              have HEc := Lib.hid hN1
              clear hN1 hO
              go_wp2_with fail
              refine (H.put A1 L1 L1.length c1 (p) (gotS x) _ N1 Oc 0 Qc.out (HX1.out.up (below_step (below_step (below_step HBa.out HBb1.out) HBb.out) HBb2.out)) rfl (by omega) HX.out.fit1 (fit_gotS x HFX.out) (by omega) (by omega)).mono ?_
              rintro e wc ⟨Ac, Bc, nc, mc, cc, dc, rfl, hnc, hmc, hN, hO, hB⟩
              have HNc := Lib.hid hN
              have HOc := Lib.hid hO
              have HBc := Lib.hid hB
              clear hN hO hB
              subst hnc
              clear u0 u1 u2 u3 u4 ul
              go_wp2_with fail
              refine (H.keys Ac N1 N1.length cc _ HNc.out rfl (by omega)).mono ?_
              rintro e wk1 ⟨Ak1, nk1, ck1, rfl, hnk1, hK, hB⟩
              subst hnk1
              have HK1 := Lib.hid hK
              have HBk1 := Lib.hid hB
              clear hK hB
              go_wp2_with fail
              refine (H.keys Ab M2 M2.length cb _ (HNb.out.up (below_step (below_step HBb2.out HBc.out) HBk1.out)) rfl (by omega)).mono ?_
              rintro e wk2 ⟨Ak2, nk2, ck2, rfl, hnk2, hK, hB⟩
              subst hnk2
              have HK2 := Lib.hid hK
              have HBk2 := Lib.hid hB
              clear hK hB
              have JK1 := Lib.hid (HK1.out.up HBk2.out)
              have JK2 := Lib.hid HK2.out
              have JV : Hid (SInv w wk2 Ac Ab N1 M2) := Lib.hid ⟨(HNc.out.up (below_step HBk1.out HBk2.out)), (HNb.out.up (below_step (below_step (below_step HBb2.out HBc.out) HBk1.out) HBk2.out)), (by rw [HEc.out]; exact right_put HX.out.right1 _ _), HQ2.out.1, (by rw [HEc.out]; exact (HX.out.fit1.all (fit_gotS x HFX.out)).take _), HQ2.out.2, (by rw [HEc.out]; exact HPR.out _), below_step HX.out.below (below_step (below_step (below_step (below_step (below_step (below_step HBa.out HBb1.out) HBb.out) HBb2.out) HBc.out) HBk1.out) HBk2.out)⟩
              have z1 : N1.length ≤ M2.length := pre_len JV.out.pre
              have z1d : decide (M2.length < N1.length) = false := by rw [decide_eq_false_iff_not]; omega
              have z2d : decide (p < (N1.length : Int)) = false := by rw [decide_eq_false_iff_not]; omega
              have z3d : decide (p + q < (M2.length : Int)) = false := by rw [decide_eq_false_iff_not]; omega
              go_wp2_with fail
              go_loopw [30] (fun i wr => ∃ k3 : Nat, k3 ≤ N1.length ∧ i = .int .i64 k3 ∧ ∃ qd, wr = wk2.drewN qd) (fun i _ => N1.length - (intOf i).toNat)
              case atStart => exact ⟨0, Nat.zero_le _, rfl, 0, rfl⟩
              case round =>
                obtain ⟨k3, hk3', rfl, qd, rfl⟩ := hrel
                by_cases g5 : k3 < N1.length
                · obtain ⟨kk, hkk⟩ : ∃ kk, (keysL N1)[k3]? = some kk := ⟨_, List.getElem?_eq_getElem (by rw [keys_length]; exact g5)⟩
                  have g6 : k3 < M2.length := by omega
                  obtain ⟨b1, eb1, _, d0, d1⟩ := keys_fields JK1.out hkk
                  subst eb1
                  obtain ⟨b2, eb2, _, d2, d3⟩ := keys_fields JK2.out (pre_at JV.out.pre hkk)
                  subst eb2
                  clear hkk
                  go_wp2_with fail
                  go_quiet (fail)
                  go_wp2_with fail
                  go_roundw
                  case rel => exact ⟨k3 + 1, by omega, by go_num, qd + nq, rfl⟩
                  case measure => simp [intOf]; omega
                · go_wp2_with fail
                  go_roundw
                  case rel => exact ⟨k + 1, Ac, Ab, N1, M2, cc, cb, by omega, by omega, by go_num, rfl, rfl, by omega, by omega, Lib.hid (JV.out.up (below_drewN (Below.refl _ _) _))⟩
                  case measure => simp [intOf]; omega
      case neg =>
        obtain ⟨⟨y1, M1, e1⟩, hg1⟩ : ∃ r, getM L1 (x.sum, x.len) = r := ⟨_, rfl⟩
        obtain ⟨⟨y2, M2, e2⟩, hg2⟩ : ∃ r, getM L2 (x.sum, x.len) = r := ⟨_, rfl⟩
        have HG1 := Lib.hid hg1
        have HG2 := Lib.hid hg2
        clear hg1 hg2
        have u0 := Blk.cell HG.out 0
        have u1 := Blk.cell HG.out 1
        have u2 := Blk.cell HG.out 2
        have u3 := Blk.cell HG.out 3
        have u4 := Blk.cell HG.out 4
        simp only [List.getElem?_toArray, List.getElem?_cons_zero, List.getElem?_cons_succ] at u0 u1 u2 u3 u4
        have ul := Blk.lt HG.out
        go_wp2_with fail
        clear u0 u1 u2 u3 u4 ul
        refine (H.get A1 L1 L1.length c1 x.sum x.len _ y1 M1 e1 HG1.out HX1.out rfl (by omega) HX.out.fit1).mono ?_
        rintro e wa ⟨Aa, na, ca, rfl, hna, hM, hB⟩
        have HNa := Lib.hid hM
        have HBa := Lib.hid hB
        clear hM hB
        go_upto_region 18 with (fail)
        have hbk := Blk.new wa 28 #[.int .u64 y1.sum, .int .i64 y1.len, .string y1.left, .string y1.right, .string y1.val]
        have hal : Below wa.heap.size wa (wa.alloc (.cells #[.int .u64 y1.sum, .int .i64 y1.len, .string y1.left, .string y1.right, .string y1.val] 28)) := (Below.refl _ _).alloc (Nat.le_refl _) _
        obtain ⟨wb1, hW⟩ : ∃ W, W = wa.alloc (.cells #[.int .u64 y1.sum, .int .i64 y1.len, .string y1.left, .string y1.right, .string y1.val] 28) := ⟨_, rfl⟩
        obtain ⟨h1, hg⟩ : ∃ g, g = wa.heap.size := ⟨_, rfl⟩
        rw [← hW] at hbk hal ⊢
        rw [← hg] at hbk ⊢
        have K1 := Lib.hid hbk
        have HBb1 := Lib.hid hal
        clear hbk hal hW hg
        have u0 := Blk.cell (Blk.below HG.out (below_step HBa.out HBb1.out) HG.out.lt) 0
        have u1 := Blk.cell (Blk.below HG.out (below_step HBa.out HBb1.out) HG.out.lt) 1
        have u2 := Blk.cell (Blk.below HG.out (below_step HBa.out HBb1.out) HG.out.lt) 2
        have u3 := Blk.cell (Blk.below HG.out (below_step HBa.out HBb1.out) HG.out.lt) 3
        have u4 := Blk.cell (Blk.below HG.out (below_step HBa.out HBb1.out) HG.out.lt) 4
        simp only [List.getElem?_toArray, List.getElem?_cons_zero, List.getElem?_cons_succ] at u0 u1 u2 u3 u4
        have ul := Blk.lt (Blk.below HG.out (below_step HBa.out HBb1.out) HG.out.lt)
        go_wp2_with fail
        clear u0 u1 u2 u3 u4 ul
        refine (H.get A2 L2 L2.length c2 x.sum x.len _ y2 M2 e2 HG2.out (HX2.out.up (below_step HBa.out HBb1.out)) rfl (by omega) HX.out.fit2).mono ?_
        rintro e wb ⟨Ab, nb, cb, rfl, hnb, hM, hB⟩
        have HNb := Lib.hid hM
        have HBb := Lib.hid hB
        clear hM hB
        go_upto_region 19 with (fail)
        have hbk := Blk.new wb 28 #[.int .u64 y2.sum, .int .i64 y2.len, .string y2.left, .string y2.right, .string y2.val]
        have hal : Below wb.heap.size wb (wb.alloc (.cells #[.int .u64 y2.sum, .int .i64 y2.len, .string y2.left, .string y2.right, .string y2.val] 28)) := (Below.refl _ _).alloc (Nat.le_refl _) _
        obtain ⟨wb2, hW⟩ : ∃ W, W = wb.alloc (.cells #[.int .u64 y2.sum, .int .i64 y2.len, .string y2.left, .string y2.right, .string y2.val] 28) := ⟨_, rfl⟩
        obtain ⟨h2, hg⟩ : ∃ g, g = wb.heap.size := ⟨_, rfl⟩
        rw [← hW] at hbk hal ⊢
        rw [← hg] at hbk ⊢
        have K2 := Lib.hid hbk
        have HBb2 := Lib.hid hal
        clear hbk hal hW hg
        subst hna
        subst hnb
        rcases getM_cases HG2.out HX.out.right2 with ⟨rfl, hM2, hy2, hk2⟩ | ⟨rfl, hM2, -, hk2⟩
        case inr =>
          rcases getM_cases HG1.out HX.out.right1 with ⟨rfl, hM1, hy1, hk1⟩ | ⟨rfl, hM1, -, hk1⟩
          case inl => exact absurd (P13.stack_there HX.out.pre (P13.mem_keys.2 ⟨y1, hy1, hk1⟩)) hk2
          clear hM1 hM2 hk1 hk2
          have u0 := Blk.cell (Blk.below HG.out (below_step (below_step (below_step HBa.out HBb1.out) HBb.out) HBb2.out) HG.out.lt) 0
          have u1 := Blk.cell (Blk.below HG.out (below_step (below_step (below_step HBa.out HBb1.out) HBb.out) HBb2.out) HG.out.lt) 1
          have u2 := Blk.cell (Blk.below HG.out (below_step (below_step (below_step HBa.out HBb1.out) HBb.out) HBb2.out) HG.out.lt) 2
          have u3 := Blk.cell (Blk.below HG.out (below_step (below_step (below_step HBa.out HBb1.out) HBb.out) HBb2.out) HG.out.lt) 3
          have u4 := Blk.cell (Blk.below HG.out (below_step (below_step (below_step HBa.out HBb1.out) HBb.out) HBb2.out) HG.out.lt) 4
          simp only [List.getElem?_toArray, List.getElem?_cons_zero, List.getElem?_cons_succ] at u0 u1 u2 u3 u4
          have ul := Blk.lt (Blk.below HG.out (below_step (below_step (below_step HBa.out HBb1.out) HBb.out) HBb2.out) HG.out.lt)
          obtain ⟨N1, hN1⟩ : ∃ N, N = (allS L1 (gotS x)).take (p).toNat := ⟨_, rfl⟩
          obtain ⟨Oc, hO⟩ : ∃ O, O = (allS L1 (gotS x)).drop (p).toNat := ⟨_, rfl⟩
          have Qc : Hid (putM L1 (p) (gotS x) = (N1, Oc, 0)) := Lib.hid (by rw [putM_right HX.out.right1, hN1, hO])
          have lc : (N1.length : Int) ≤ p := by rw [hN1, List.length_take]; omega
          have HEc := Lib.hid hN1
          clear hN1 hO
          go_wp2_with fail
          refine (H.put A1 L1 L1.length c1 (p) (gotS x) _ N1 Oc 0 Qc.out (HX1.out.up (below_step (below_step (below_step HBa.out HBb1.out) HBb.out) HBb2.out)) rfl (by omega) HX.out.fit1 (fit_gotS x HFX.out) (by omega) (by omega)).mono ?_
          rintro e wc ⟨Ac, Bc, nc, mc, cc, dc, rfl, hnc, hmc, hN, hO, hB⟩
          have HNc := Lib.hid hN
          have HOc := Lib.hid hO
          have HBc := Lib.hid hB
          clear hN hO hB
          subst hnc
          clear u0 u1 u2 u3 u4 ul
          have u0 := Blk.cell (Blk.below HG.out (below_step (below_step (below_step (below_step HBa.out HBb1.out) HBb.out) HBb2.out) HBc.out) HG.out.lt) 0
          have u1 := Blk.cell (Blk.below HG.out (below_step (below_step (below_step (below_step HBa.out HBb1.out) HBb.out) HBb2.out) HBc.out) HG.out.lt) 1
          have u2 := Blk.cell (Blk.below HG.out (below_step (below_step (below_step (below_step HBa.out HBb1.out) HBb.out) HBb2.out) HBc.out) HG.out.lt) 2
          have u3 := Blk.cell (Blk.below HG.out (below_step (below_step (below_step (below_step HBa.out HBb1.out) HBb.out) HBb2.out) HBc.out) HG.out.lt) 3
          have u4 := Blk.cell (Blk.below HG.out (below_step (below_step (below_step (below_step HBa.out HBb1.out) HBb.out) HBb2.out) HBc.out) HG.out.lt) 4
          simp only [List.getElem?_toArray, List.getElem?_cons_zero, List.getElem?_cons_succ] at u0 u1 u2 u3 u4
          have ul := Blk.lt (Blk.below HG.out (below_step (below_step (below_step (below_step HBa.out HBb1.out) HBb.out) HBb2.out) HBc.out) HG.out.lt)
          obtain ⟨N2, hN2⟩ : ∃ N, N = (allS L2 (gotS x)).take (p + q).toNat := ⟨_, rfl⟩
          obtain ⟨Od, hO⟩ : ∃ O, O = (allS L2 (gotS x)).drop (p + q).toNat := ⟨_, rfl⟩
          have Qd : Hid (putM L2 (p + q) (gotS x) = (N2, Od, 0)) := Lib.hid (by rw [putM_right HX.out.right2, hN2, hO])
          have ld : (N2.length : Int) ≤ p + q := by rw [hN2, List.length_take]; omega
          have HEd := Lib.hid hN2
          clear hN2 hO
          go_wp2_with fail
          refine (H.put A2 L2 L2.length c2 (p + q) (gotS x) _ N2 Od 0 Qd.out (HX2.out.up (below_step (below_step (below_step (below_step HBa.out HBb1.out) HBb.out) HBb2.out) HBc.out)) rfl (by omega) HX.out.fit2 (fit_gotS x HFX.out) (by omega) (by omega)).mono ?_
          rintro e wd ⟨Ad, Bd, nd, md, cd, dd, rfl, hnd, hmd, hN, hO, hB⟩
          have HNd := Lib.hid hN
          have HOd := Lib.hid hO
          have HBd := Lib.hid hB
          clear hN hO hB
          subst hnd
          clear u0 u1 u2 u3 u4 ul
          go_wp2_with fail
          refine (H.keys Ac N1 N1.length cc _ (HNc.out.up HBd.out) rfl (by omega)).mono ?_
          rintro e wk1 ⟨Ak1, nk1, ck1, rfl, hnk1, hK, hB⟩
          subst hnk1
          have HK1 := Lib.hid hK
          have HBk1 := Lib.hid hB
          clear hK hB
          go_wp2_with fail
          refine (H.keys Ad N2 N2.length cd _ (HNd.out.up HBk1.out) rfl (by omega)).mono ?_
          rintro e wk2 ⟨Ak2, nk2, ck2, rfl, hnk2, hK, hB⟩
          subst hnk2
          have HK2 := Lib.hid hK
          have HBk2 := Lib.hid hB
          clear hK hB
          have JK1 := Lib.hid (HK1.out.up HBk2.out)
          have JK2 := Lib.hid HK2.out
          have JV : Hid (SInv w wk2 Ac Ad N1 N2) := Lib.hid ⟨(HNc.out.up (below_step (below_step HBd.out HBk1.out) HBk2.out)), (HNd.out.up (below_step HBk1.out HBk2.out)), (by rw [HEc.out]; exact right_put HX.out.right1 _ _), (by rw [HEd.out]; exact right_put HX.out.right2 _ _), (by rw [HEc.out]; exact (HX.out.fit1.all (fit_gotS x HFX.out)).take _), (by rw [HEd.out]; exact (HX.out.fit2.all (fit_gotS x HFX.out)).take _), (by rw [HEc.out, HEd.out]; exact P13.stack_put HX.out.pre _ _ rfl (by omega)), below_step HX.out.below (below_step (below_step (below_step (below_step (below_step (below_step (below_step HBa.out HBb1.out) HBb.out) HBb2.out) HBc.out) HBd.out) HBk1.out) HBk2.out)⟩
          have z1 : N1.length ≤ N2.length := pre_len JV.out.pre
          have z1d : decide (N2.length < N1.length) = false := by rw [decide_eq_false_iff_not]; omega
          have z2d : decide (p < (N1.length : Int)) = false := by rw [decide_eq_false_iff_not]; omega
          have z3d : decide (p + q < (N2.length : Int)) = false := by rw [decide_eq_false_iff_not]; omega
          go_wp2_with fail
          go_loopw [30] (fun i wr => ∃ k3 : Nat, k3 ≤ N1.length ∧ i = .int .i64 k3 ∧ ∃ qd, wr = wk2.drewN qd) (fun i _ => N1.length - (intOf i).toNat)
          case atStart => exact ⟨0, Nat.zero_le _, rfl, 0, rfl⟩
          case round =>
            obtain ⟨k3, hk3', rfl, qd, rfl⟩ := hrel
            by_cases g5 : k3 < N1.length
            · obtain ⟨kk, hkk⟩ : ∃ kk, (keysL N1)[k3]? = some kk := ⟨_, List.getElem?_eq_getElem (by rw [keys_length]; exact g5)⟩
              have g6 : k3 < N2.length := by omega
              obtain ⟨b1, eb1, _, d0, d1⟩ := keys_fields JK1.out hkk
              subst eb1
              obtain ⟨b2, eb2, _, d2, d3⟩ := keys_fields JK2.out (pre_at JV.out.pre hkk)
              subst eb2
              clear hkk
              go_wp2_with fail
              go_quiet (fail)
              go_wp2_with fail
              go_roundw
              case rel => exact ⟨k3 + 1, by omega, by go_num, qd + nq, rfl⟩
              case measure => simp [intOf]; omega
            · go_wp2_with fail
              go_roundw
              case rel => exact ⟨k + 1, Ac, Ad, N1, N2, cc, cd, by omega, by omega, by go_num, rfl, rfl, by omega, by omega, Lib.hid (JV.out.up (below_drewN (Below.refl _ _) _))⟩
              case measure => simp [intOf]; omega
        case inl =>
          have HQ2 : Hid (rightB M2 = true ∧ FitS M2) := Lib.hid (by rw [hM2]; exact ⟨right_got HX.out.right2 y2, fit_got HX.out.fit2 hy2 _⟩)
          have lm2 : M2.length = L2.length := by rw [hM2]; exact P13.length_got (rightB_iff.1 HX.out.right2) hy2
          have lm2' : M2.length ≤ L2.length := by omega
          clear lm2
          rcases getM_cases HG1.out HX.out.right1 with ⟨rfl, hM1, hy1, hk1⟩ | ⟨rfl, hM1, -, hk1⟩
          case inl =>
            have HQ1 : Hid (rightB M1 = true ∧ FitS M1) := Lib.hid (by rw [hM1]; exact ⟨right_got HX.out.right1 y1, fit_got HX.out.fit1 hy1 _⟩)
            have lm1 : M1.length = L1.length := by rw [hM1]; exact P13.length_got (rightB_iff.1 HX.out.right1) hy1
            have lm1' : M1.length ≤ L1.length := by omega
            clear lm1
            have HPR : Hid (keysL M1 <+: keysL M2) := Lib.hid (by rw [hM1, hM2, hk2, ← hk1]; exact P13.stack_got HX.out.pre (hk1.trans hk2.symm))
            clear hM1 hM2 hk1 hk2 hy1 hy2
            go_wp2_with fail
            refine (H.keys Aa M1 M1.length ca _ (HNa.out.up (below_step (below_step HBb1.out HBb.out) HBb2.out)) rfl (by omega)).mono ?_
            rintro e wk1 ⟨Ak1, nk1, ck1, rfl, hnk1, hK, hB⟩
            subst hnk1
            have HK1 := Lib.hid hK
            have HBk1 := Lib.hid hB
            clear hK hB
            go_wp2_with fail
            refine (H.keys Ab M2 M2.length cb _ (HNb.out.up (below_step HBb2.out HBk1.out)) rfl (by omega)).mono ?_
            rintro e wk2 ⟨Ak2, nk2, ck2, rfl, hnk2, hK, hB⟩
            subst hnk2
            have HK2 := Lib.hid hK
            have HBk2 := Lib.hid hB
            clear hK hB
            have JK1 := Lib.hid (HK1.out.up HBk2.out)
            have JK2 := Lib.hid HK2.out
            have JV : Hid (SInv w wk2 Aa Ab M1 M2) := Lib.hid ⟨(HNa.out.up (below_step (below_step (below_step (below_step HBb1.out HBb.out) HBb2.out) HBk1.out) HBk2.out)), (HNb.out.up (below_step (below_step HBb2.out HBk1.out) HBk2.out)), HQ1.out.1, HQ2.out.1, HQ1.out.2, HQ2.out.2, HPR.out, below_step HX.out.below (below_step (below_step (below_step (below_step (below_step HBa.out HBb1.out) HBb.out) HBb2.out) HBk1.out) HBk2.out)⟩
            have z1 : M1.length ≤ M2.length := pre_len JV.out.pre
            have z1d : decide (M2.length < M1.length) = false := by rw [decide_eq_false_iff_not]; omega
            have z2d : decide (p < (M1.length : Int)) = false := by rw [decide_eq_false_iff_not]; omega
            have z3d : decide (p + q < (M2.length : Int)) = false := by rw [decide_eq_false_iff_not]; omega
            go_wp2_with fail
            go_loopw [30] (fun i wr => ∃ k3 : Nat, k3 ≤ M1.length ∧ i = .int .i64 k3 ∧ ∃ qd, wr = wk2.drewN qd) (fun i _ => M1.length - (intOf i).toNat)
            case atStart => exact ⟨0, Nat.zero_le _, rfl, 0, rfl⟩
            case round =>
              obtain ⟨k3, hk3', rfl, qd, rfl⟩ := hrel
              by_cases g5 : k3 < M1.length
              · obtain ⟨kk, hkk⟩ : ∃ kk, (keysL M1)[k3]? = some kk := ⟨_, List.getElem?_eq_getElem (by rw [keys_length]; exact g5)⟩
                have g6 : k3 < M2.length := by omega
                obtain ⟨b1, eb1, _, d0, d1⟩ := keys_fields JK1.out hkk
                subst eb1
                obtain ⟨b2, eb2, _, d2, d3⟩ := keys_fields JK2.out (pre_at JV.out.pre hkk)
                subst eb2
                clear hkk
                go_wp2_with fail
                go_quiet (fail)
                go_wp2_with fail
                go_roundw
                case rel => exact ⟨k3 + 1, by omega, by go_num, qd + nq, rfl⟩
                case measure => simp [intOf]; omega
              · go_wp2_with fail
                go_roundw
                case rel => exact ⟨k + 1, Aa, Ab, M1, M2, ca, cb, by omega, by omega, by go_num, rfl, rfl, by omega, by omega, Lib.hid (JV.out.up (below_drewN (Below.refl _ _) _))⟩
                case measure => simp [intOf]; omega
          case inr =>
            have HPR : Hid (∀ n : Nat, keysL ((allS L1 (gotS x)).take n) <+: keysL M2) := Lib.hid (fun n => by rw [hM2, hk2]; exact P13.stack_mixed HX.out.pre (gotS x) y2 hk2.symm n)
            clear hM1 hM2 hk1 hk2 hy2
            have u0 := Blk.cell (Blk.below HG.out (below_step (below_step (below_step HBa.out HBb1.out) HBb.out) HBb2.out) HG.out.lt) 0
            have u1 := Blk.cell (Blk.below HG.out (below_step (below_step (below_step HBa.out HBb1.out) HBb.out) HBb2.out) HG.out.lt) 1
            have u2 := Blk.cell (Blk.below HG.out (below_step (below_step (below_step HBa.out HBb1.out) HBb.out) HBb2.out) HG.out.lt) 2
            have u3 := Blk.cell (Blk.below HG.out (below_step (below_step (below_step HBa.out HBb1.out) HBb.out) HBb2.out) HG.out.lt) 3
            have u4 := Blk.cell (Blk.below HG.out (below_step (below_step (below_step HBa.out HBb1.out) HBb.out) HBb2.out) HG.out.lt) 4
            simp only [List.getElem?_toArray, List.getElem?_cons_zero, List.getElem?_cons_succ] at u0 u1 u2 u3 u4
            have ul := Blk.lt (Blk.below HG.out (below_step (below_step (below_step HBa.out HBb1.out) HBb.out) HBb2.out) HG.out.lt)
            obtain ⟨N1, hN1⟩ : ∃ N, N = (allS L1 (gotS x)).take (p).toNat := ⟨_, rfl⟩
            obtain ⟨Oc, hO⟩ : ∃ O, O = (allS L1 (gotS x)).drop (p).toNat := ⟨_, rfl⟩
            have Qc : Hid (putM L1 (p) (gotS x) = (N1, Oc, 0)) := Lib.hid (by rw [putM_right HX.out.right1, hN1, hO])
            have lc : (N1.length : Int) ≤ p := by rw [hN1, List.length_take]; omega
            have HEc := Lib.hid hN1
            clear hN1 hO
            go_wp2_with fail
            refine (H.put A1 L1 L1.length c1 (p) (gotS x) _ N1 Oc 0 Qc.out (HX1.out.up (below_step (below_step (below_step HBa.out HBb1.out) HBb.out) HBb2.out)) rfl (by omega) HX.out.fit1 (fit_gotS x HFX.out) (by omega) (by omega)).mono ?_
            rintro e wc ⟨Ac, Bc, nc, mc, cc, dc, rfl, hnc, hmc, hN, hO, hB⟩
            have HNc := Lib.hid hN
            have HOc := Lib.hid hO
            have HBc := Lib.hid hB
            clear hN hO hB
            subst hnc
            clear u0 u1 u2 u3 u4 ul
            go_wp2_with fail
            refine (H.keys Ac N1 N1.length cc _ HNc.out rfl (by omega)).mono ?_
            rintro e wk1 ⟨Ak1, nk1, ck1, rfl, hnk1, hK, hB⟩
            subst hnk1
            have HK1 := Lib.hid hK
            have HBk1 := Lib.hid hB
            clear hK hB
            go_wp2_with fail
            refine (H.keys Ab M2 M2.length cb _ (HNb.out.up (below_step (below_step HBb2.out HBc.out) HBk1.out)) rfl (by omega)).mono ?_
            rintro e wk2 ⟨Ak2, nk2, ck2, rfl, hnk2, hK, hB⟩
            subst hnk2
            have HK2 := Lib.hid hK
            have HBk2 := Lib.hid hB
            clear hK hB
            have JK1 := Lib.hid (HK1.out.up HBk2.out)
            have JK2 := Lib.hid HK2.out
            have JV : Hid (SInv w wk2 Ac Ab N1 M2) := Lib.hid ⟨(HNc.out.up (below_step HBk1.out HBk2.out)), (HNb.out.up (below_step (below_step (below_step HBb2.out HBc.out) HBk1.out) HBk2.out)), (by rw [HEc.out]; exact right_put HX.out.right1 _ _), HQ2.out.1, (by rw [HEc.out]; exact (HX.out.fit1.all (fit_gotS x HFX.out)).take _), HQ2.out.2, (by rw [HEc.out]; exact HPR.out _), below_step HX.out.below (below_step (below_step (below_step (below_step (below_step (below_step HBa.out HBb1.out) HBb.out) HBb2.out) HBc.out) HBk1.out) HBk2.out)⟩
            have z1 : N1.length ≤ M2.length := pre_len JV.out.pre
            have z1d : decide (M2.length < N1.length) = false := by rw [decide_eq_false_iff_not]; omega
            have z2d : decide (p < (N1.length : Int)) = false := by rw [decide_eq_false_iff_not]; omega
            have z3d : decide (p + q < (M2.length : Int)) = false := by rw [decide_eq_false_iff_not]; omega
            go_wp2_with fail
            go_loopw [30] (fun i wr => ∃ k3 : Nat, k3 ≤ N1.length ∧ i = .int .i64 k3 ∧ ∃ qd, wr = wk2.drewN qd) (fun i _ => N1.length - (intOf i).toNat)
            case atStart => exact ⟨0, Nat.zero_le _, rfl, 0, rfl⟩
            case round =>
              obtain ⟨k3, hk3', rfl, qd, rfl⟩ := hrel
              by_cases g5 : k3 < N1.length
              · obtain ⟨kk, hkk⟩ : ∃ kk, (keysL N1)[k3]? = some kk := ⟨_, List.getElem?_eq_getElem (by rw [keys_length]; exact g5)⟩
                have g6 : k3 < M2.length := by omega
                obtain ⟨b1, eb1, _, d0, d1⟩ := keys_fields JK1.out hkk
                subst eb1
                obtain ⟨b2, eb2, _, d2, d3⟩ := keys_fields JK2.out (pre_at JV.out.pre hkk)
                subst eb2
                clear hkk
                go_wp2_with fail
                go_quiet (fail)
                go_wp2_with fail
                go_roundw
                case rel => exact ⟨k3 + 1, by omega, by go_num, qd + nq, rfl⟩
                case measure => simp [intOf]; omega
              · go_wp2_with fail
                go_roundw
                case rel => exact ⟨k + 1, Ac, Ab, N1, M2, cc, cb, by omega, by omega, by go_num, rfl, rfl, by omega, by omega, Lib.hid (JV.out.up (below_drewN (Below.refl _ _) _))⟩
                case measure => simp [intOf]; omega

end Go.Proofs.Ytndhaickelbkiaa
