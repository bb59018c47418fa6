/-
  collatorref13.Get: chapter 13's own answer. What it makes is new memory; nothing that was there is changed.
-/
import Derived.Test.YtjifmfgfmciaeaaPut
namespace Go.Proofs.Ytjifmfgfmciaeaa
open Go.RowKit

def zeroS : Sl := ⟨0, 0, ⟨#[]⟩, ⟨#[]⟩, ⟨#[]⟩⟩
def findS (L : List Sl) (k : Int × Int) : Option Sl := L.find? (fun s => decide (Sl.key s = k))
/-- what is got: the slot, what is there then, and the error -/
def getM (L : List Sl) (k : Int × Int) : Sl × List Sl × Int :=
  if rightB L then (match findS L k with
    | some x => (x, x :: withoutS L k, 0)
    | none => (zeroS, [], 10)) else (zeroS, [], 1)
def GetTold (x : Sl) (M : List Sl) (b : Int) (w : World) (e : Ending) (w' : World) : Prop :=
  ∃ (A : Option Addr) (n c : Nat), e = .returned (.tuple #[.agg #[.int .u64 x.sum, .int .i64 x.len, .string x.left, .string x.right, .string x.val], .slice A n c, .int .i64 b]) ∧ M.length = n ∧ SlotsAt w' A M ∧ Below w.heap.size w w' ∧ n ≤ c ∧ ∀ a, A = some a → w.heap.size ≤ a.block
theorem blk_ne {w : World} {g h : Nat} {t u : TypeId} {cs ds : Array Value} (a : Blk w g t cs) (b : Blk w h u ds) (hn : t ≠ u) : g ≠ h := fun e => by
  subst e
  unfold Blk at a b
  rw [a] at b
  injection b with b
  injection b with _ b
  exact hn b
theorem grown_set (W : World) (g j : Nat) (u : Value) : W.grownBy (W.setCell ⟨g, j, none⟩ u) (some g) :=
  ⟨rfl, rfl, rfl, by simp, fun k _ hk => heap_setCell_other W ⟨g, j, none⟩ k _ (fun e => hk (by simp [e]))⟩
theorem op_store (g : Nat) (x x0 : Sl) (W : World) (hb : Blk W g 63 #[.int .u64 x0.sum, .int .i64 x0.len, .string x0.left, .string x0.right, .string x0.val]) :
    ∃ W1, (∀ (o : Oper) (a : Act) (p q : Operand), o.op = Op.store 63 p q → a.eval p = .pointer (some ⟨g, 0, none⟩) → a.eval q = .agg #[.int .u64 x.sum, .int .i64 x.len, .string x.left, .string x.right, .string x.val] → (execOp a.eval o).run Try.prog W = .ok .skip W1) ∧
      Blk W1 g 63 #[.int .u64 x.sum, .int .i64 x.len, .string x.left, .string x.right, .string x.val] ∧ W.grownBy W1 (some g) := by
  have y0 := Blk.cell hb 0
  have y1 := Blk.cell hb 1
  have y2 := Blk.cell hb 2
  have y3 := Blk.cell hb 3
  have y4 := Blk.cell hb 4
  have z0 := Blk.frozen hb 0
  have z1 := Blk.frozen hb 1
  have z2 := Blk.frozen hb 2
  have z3 := Blk.frozen hb 3
  have z4 := Blk.frozen hb 4
  simp only [List.getElem?_toArray, List.getElem?_cons_zero, List.getElem?_cons_succ] at y0 y1 y2 y3 y4
  refine ⟨((((W.setCell ⟨g, 0, none⟩ (.int .u64 x.sum)).setCell ⟨g, 1, none⟩ (.int .i64 x.len)).setCell ⟨g, 2, none⟩ (.string x.left)).setCell ⟨g, 3, none⟩ (.string x.right)).setCell ⟨g, 4, none⟩ (.string x.val), fun o a p q ho hx hy => ?_,
    ((((Blk.set_ hb 0 (.int .u64 x.sum)).set_ 1 (.int .i64 x.len)).set_ 2 (.string x.left)).set_ 3 (.string x.right)).set_ 4 (.string x.val), ((((grown_set _ _ _ _).trans (grown_set _ _ _ _)).trans (grown_set _ _ _ _)).trans (grown_set _ _ _ _)).trans (grown_set _ _ _ _)⟩
  simp only [execOp, ho, hx, hy]
  go_simp
theorem RowAt.kept_grown {α : Type} {f : α → List Value} {n : Nat} {w w' : World} {A : Option Addr} {L : List α} (h : RowAt f n w A L) {row : Option Nat} (hg : w.grownBy w' row) (hne : ∀ a, A = some a → row ≠ some a.block) : RowAt f n w' A L := fun hn => by
  obtain ⟨a, e, hl, hc⟩ := h hn
  exact ⟨a, e, Nat.lt_of_lt_of_le hl hg.size, fun k x hk j u hu => (World.cell?_of_block (hg.block _ (by rw [add_block]; exact hl) (by rw [add_block]; exact fun e' => hne a e e'.symm))).trans (hc k x hk j u hu)⟩

theorem own_new {w0 w : World} {A : Option Addr} {n c : Nat} {L : List Sl} (o : OwnS w0 w (.slice A n c) L) : ∀ a, A = some a → w0.heap.size ≤ a.block := fun a ha => by
  subst ha
  exact (o.1.lt a.block rfl).1
theorem own_far {w0 w : World} {A : Option Addr} {n c h : Nat} {L : List Sl} (o : OwnS w0 w (.slice A n c) L) (hh : h < w0.heap.size) : ∀ a, A = some a → (some h : Option Nat) ≠ some a.block := fun a ha e => by
  subst ha
  have := (o.1.lt a.block rfl).1
  injection e with e
  omega

set_option maxHeartbeats 4000000 in
set_option maxRecDepth 100000 in
theorem rget_any (A : Option Addr) (L : List Sl) (n c : Nat) (ks kl : Int) (w : World) (x0 : Sl) (M0 : List Sl) (b0 : Int) (hm : getM L (ks, kl) = (x0, M0, b0)) (ha : SlotsAt w A L) (hn : L.length = n) (h1 : L.length ≤ 999999) :
    Calls Try.prog 37 #[.slice A n c, .agg #[.int .u64 ks, .int .i64 kl]] w (GetTold x0 M0 b0 w) := by
  subst hn
  have HA := Lib.hid ha
  have HM := Lib.hid hm
  clear ha hm
  obtain ⟨rb, hrb⟩ : ∃ rb, rightB L = rb := ⟨_, rfl⟩
  have HR := Lib.hid hrb
  clear hrb
  go_enter Try.func37, Try.ntmps37
  go_wp2_with fail
  have hbx := (Blk.new w 61 #[.int .u64 ks, .int .i64 kl]).alloc (.cells #[.int .u64 0, .int .i64 0, .string ⟨#[]⟩, .string ⟨#[]⟩, .string ⟨#[]⟩] 63)
  have hby := Blk.new (w.alloc (.cells #[.int .u64 ks, .int .i64 kl] 61)) 63 #[.int .u64 0, .int .i64 0, .string ⟨#[]⟩, .string ⟨#[]⟩, .string ⟨#[]⟩]
  have hal : Below w.heap.size w ((w.alloc (.cells #[.int .u64 ks, .int .i64 kl] 61)).alloc (.cells #[.int .u64 0, .int .i64 0, .string ⟨#[]⟩, .string ⟨#[]⟩, .string ⟨#[]⟩] 63)) := ((Below.refl _ _).alloc (Nat.le_refl _) _).alloc (by simp) _
  obtain ⟨w1, hw1⟩ : ∃ w1, w1 = ((w.alloc (.cells #[.int .u64 ks, .int .i64 kl] 61)).alloc (.cells #[.int .u64 0, .int .i64 0, .string ⟨#[]⟩, .string ⟨#[]⟩, .string ⟨#[]⟩] 63)) := ⟨_, rfl⟩
  obtain ⟨g, hg⟩ : ∃ g, g = w.heap.size := ⟨_, rfl⟩
  obtain ⟨h, hh⟩ : ∃ h, h = g + 1 := ⟨_, rfl⟩
  rw [show (w.alloc (.cells #[.int .u64 ks, .int .i64 kl] 61)).heap.size = w.heap.size + 1 by simp] at hby
  rw [← hw1] at hbx hby hal ⊢
  rw [← hg] at hbx hby ⊢
  rw [← hh] at hby ⊢
  have hwh : w.heap.size ≤ h := by omega
  refine (rright_v A L L.length c _ (HA.out.up hal) rfl (by omega) rb HR.out).mono ?_
  rintro e w2 ⟨rfl, q, hw2⟩
  have hb2 : Below w1.heap.size w1 w2 := by rw [hw2]; exact below_drewN (Below.refl _ _) q
  have HBX := Lib.hid (Blk.below hbx hb2 hbx.lt)
  have HBY := Lib.hid (Blk.below hby hb2 hby.lt)
  have HBW2 := Lib.hid (hal.trans (hb2.mono hal.size))
  have hgh : g ≠ h := by omega
  clear hw1 hg hh hbx hby hal hw2 hb2
  cases rb with
  | false =>
    have hfin : x0 = zeroS ∧ M0 = [] ∧ b0 = 1 := by have := HM.out; unfold getM at this; rw [HR.out] at this; simp only [Bool.false_eq_true, if_false, Prod.mk.injEq] at this; exact ⟨this.1.symm, this.2.1.symm, this.2.2.symm⟩
    obtain ⟨rfl, rfl, rfl⟩ := hfin
    obtain ⟨W5, hr5, hb5, hg5⟩ := op_store h zeroS zeroS w2 HBY.out
    have y0 := Blk.cell HBY.out 0
    have y1 := Blk.cell HBY.out 1
    have y2 := Blk.cell HBY.out 2
    have y3 := Blk.cell HBY.out 3
    have y4 := Blk.cell HBY.out 4
    have z0 := Blk.frozen HBY.out 0
    have z1 := Blk.frozen HBY.out 1
    have z2 := Blk.frozen HBY.out 2
    have z3 := Blk.frozen HBY.out 3
    have z4 := Blk.frozen HBY.out 4
    simp only [List.getElem?_toArray, List.getElem?_cons_zero, List.getElem?_cons_succ] at y0 y1 y2 y3 y4
    clear hr5 hb5 hg5
    go_wp2_with fail
    refine bodyPost_ret (v := .tuple #[.agg #[.int .u64 0, .int .i64 0, .string ⟨#[]⟩, .string ⟨#[]⟩, .string ⟨#[]⟩], .slice none 0 0, .int .i64 1]) (by simp [results, Try.results37, go_sem, y0, y1, y2, y3, y4]) rfl ?_
    exact ⟨none, 0, 0, rfl, rfl, RowAt.nil, ((((HBW2.out.setCell hwh _).setCell hwh _).setCell hwh _).setCell hwh _).setCell hwh _, Nat.le_refl _, fun a ha => by cases ha⟩
  | true =>
    go_wp2_with fail
    go_loopw [8] (fun j wr => ∃ k : Nat, k ≤ L.length ∧ j = .int .i64 k ∧ Hid ((ks, kl) ∉ keysL (L.take k)) ∧ ∃ q, wr = w2.drewN q) (fun j _ => L.length - (intOf j).toNat)
    case atStart => exact ⟨0, Nat.zero_le _, rfl, Lib.hid (by simp [keysL, P13.keys]), 0, rfl⟩
    case round =>
      obtain ⟨i, hi, rfl, HK, q', rfl⟩ := hrel
      by_cases g1 : i < L.length
      · obtain ⟨x, hx⟩ : ∃ x, L[i]? = some x := ⟨_, List.getElem?_eq_getElem g1⟩
        obtain ⟨a, rfl, hal, c0, c1, _, _, _⟩ := slots_fields (HA.out.up HBW2.out) hx
        have d0 := Blk.cell HBX.out 0
        have d1 := Blk.cell HBX.out 1
        simp only [List.getElem?_toArray, List.getElem?_cons_zero, List.getElem?_cons_succ] at d0 d1
        have HX := Lib.hid hx
        clear hx hal
        cases t1 : (x.sum == ks) with
        | false =>
          go_wp2_with fail
          go_quiet (fail)
          go_wp2_with fail
          go_roundw
          case rel => exact ⟨i + 1, by omega, by go_num, Lib.hid (keys_take_succ HX.out _ HK.out (by intro e; have := congrArg Prod.fst e; simp [Sl.key] at this; simp [this] at t1)), q' + nq, rfl⟩
          case measure => simp [intOf]; omega
        | true =>
          cases t2 : (x.len == kl) with
          | false =>
            go_wp2_with fail
            go_quiet (fail)
            go_wp2_with fail
            go_roundw
            case rel => exact ⟨i + 1, by omega, by go_num, Lib.hid (keys_take_succ HX.out _ HK.out (by intro e; have := congrArg Prod.snd e; simp [Sl.key] at this; simp [this] at t2)), q' + nq, rfl⟩
            case measure => simp [intOf]; omega
          | true =>
            have hks : x.sum = ks := by simpa using t1
            have hkl : x.len = kl := by simpa using t2
            have hfin : x0 = x ∧ M0 = x :: withoutS L (ks, kl) ∧ b0 = 0 := by
              have h3 := HM.out
              have h4 := P13.find_of (rightB_iff.1 HR.out) (List.mem_of_getElem? HX.out)
              unfold getM findS at h3
              rw [HR.out, show ((ks, kl) : Int × Int) = x.key from by rw [← hks, ← hkl]; rfl, h4] at h3
              simp only [if_true, Prod.mk.injEq] at h3
              exact ⟨h3.1.symm, by rw [← h3.2.1, ← hks, ← hkl]; rfl, h3.2.2.symm⟩
            have HF := Lib.hid hfin
            clear hks hkl hfin
            go_wp2_with fail
            go_quiet (fail)
            obtain ⟨wd, hwd⟩ : ∃ wd, wd = (w2.drewN q').drewN nq := ⟨_, rfl⟩
            have hd : Below w2.heap.size w2 wd := by rw [hwd]; exact below_drewN (below_drewN (Below.refl _ _) _) _
            have HBW := Lib.hid (HBW2.out.trans (hd.mono HBW2.out.size))
            have HBK := Lib.hid (Blk.below HBX.out hd HBX.out.lt)
            have HH := Lib.hid (Blk.below HBY.out hd HBY.out.lt)
            rw [← hwd]
            obtain ⟨Y, hY⟩ : ∃ Y, Y = x :: withoutS L (ks, kl) := ⟨_, rfl⟩
            have HY : Hid (Y = [x] ++ withoutS L (ks, kl)) := Lib.hid hY
            have HYL : Hid (Y.length ≤ 1048576) := Lib.hid (by rw [hY]; have := without_le L (ks, kl); simp; omega)
            have HYA : Hid (M0 = Y) := Lib.hid (by rw [hY]; exact HF.out.2.1)
            obtain ⟨ex, _, rfl⟩ := HF.out
            obtain rfl : x = x0 := ex.symm
            clear hwd hd hY HF c0 c1 d0 d1
            go_wp2_with fail
            refine wp_region_noPanic ?_
            refine wp_region_held_drew (S := fun W => Below w.heap.size w W ∧ Blk W g 61 #[.int .u64 ks, .int .i64 kl]) (by kernel_rfl) (⟨HBW.out.drew, HBK.out⟩) (fun hS0 => ?_)
            change wpAnyH _ _ _ _ _ 16 #[false, false, false, false, false, false, false, false, false, false, false, false, false, false, false, false] _ (World.drew _)
            refine wpAnyH_take (i := 0) (v := .slice (some a) L.length c) rfl (by kernel_rfl) (by kernel_rfl) (by kernel_rfl) (fun _ _ _ h => h) (Or.inl ⟨by rfl, fun w' hS' => by exact op_move rfl rfl⟩) hS0 ?_
            change wpAnyH _ _ _ _ _ _ _ (Act.put _ (some 27) (.slice (some a) L.length c)) _
            simp only [Act.put, List.setIfInBounds_toArray, List.set_cons_zero, List.set_cons_succ]
            refine wpAnyH_take (i := 1) (v := .int .i64 (i : Int)) rfl (by kernel_rfl) (by kernel_rfl) (by kernel_rfl) (fun _ _ _ h => h) (Or.inl ⟨by rfl, fun w' hS' => by exact op_move rfl rfl⟩) hS0 ?_
            change wpAnyH _ _ _ _ _ _ _ (Act.put _ (some 28) (.int .i64 (i : Int))) _
            simp only [Act.put, List.setIfInBounds_toArray, List.set_cons_zero, List.set_cons_succ]
            refine wpAnyH_take (i := 2) (v := .pointer (some (a.add (i * 5)))) rfl (by kernel_rfl) (by kernel_rfl) (by kernel_rfl) (fun _ _ _ h => h) (Or.inl ⟨by rfl, fun w' hS' => by go_simp⟩) hS0 ?_
            change wpAnyH _ _ _ _ _ _ _ (Act.put _ (some 29) (.pointer (some (a.add (i * 5))))) _
            simp only [Act.put, List.setIfInBounds_toArray, List.set_cons_zero, List.set_cons_succ]
            refine wpAnyH_take (i := 3) (v := .agg #[.int .u64 x.sum, .int .i64 x.len, .string x.left, .string x.right, .string x.val]) rfl (by kernel_rfl) (by kernel_rfl) (by kernel_rfl) (fun _ _ _ h => h) (Or.inl ⟨by rfl, fun w' hS' => by obtain ⟨a', ea, _, y0, y1, y2, y3, y4⟩ := slots_fields (HA.out.up hS'.1) HX.out; injection ea with ea; subst ea; go_simp⟩) hS0 ?_
            change wpAnyH _ _ _ _ _ _ _ (Act.put _ (some 30) (.agg #[.int .u64 x.sum, .int .i64 x.len, .string x.left, .string x.right, .string x.val])) _
            simp only [Act.put, List.setIfInBounds_toArray, List.set_cons_zero, List.set_cons_succ]
            refine wpAnyH_take (i := 4) (v := .slice (some a) L.length c) rfl (by kernel_rfl) (by kernel_rfl) (by kernel_rfl) (fun _ _ _ h => h) (Or.inl ⟨by rfl, fun w' hS' => by exact op_move rfl rfl⟩) hS0 ?_
            change wpAnyH _ _ _ _ _ _ _ (Act.put _ (some 31) (.slice (some a) L.length c)) _
            simp only [Act.put, List.setIfInBounds_toArray, List.set_cons_zero, List.set_cons_succ]
            refine wpAnyH_take (i := 5) (v := .int .i64 (i : Int)) rfl (by kernel_rfl) (by kernel_rfl) (by kernel_rfl) (fun _ _ _ h => h) (Or.inl ⟨by rfl, fun w' hS' => by exact op_move rfl rfl⟩) hS0 ?_
            change wpAnyH _ _ _ _ _ _ _ (Act.put _ (some 32) (.int .i64 (i : Int))) _
            simp only [Act.put, List.setIfInBounds_toArray, List.set_cons_zero, List.set_cons_succ]
            refine wpAnyH_take (i := 6) (v := .pointer (some (a.add (i * 5)))) rfl (by kernel_rfl) (by kernel_rfl) (by kernel_rfl) (fun _ _ _ h => h) (Or.inl ⟨by rfl, fun w' hS' => by go_simp⟩) hS0 ?_
            change wpAnyH _ _ _ _ _ _ _ (Act.put _ (some 33) (.pointer (some (a.add (i * 5))))) _
            simp only [Act.put, List.setIfInBounds_toArray, List.set_cons_zero, List.set_cons_succ]
            refine wpAnyH_take (i := 7) (v := .agg #[.int .u64 x.sum, .int .i64 x.len, .string x.left, .string x.right, .string x.val]) rfl (by kernel_rfl) (by kernel_rfl) (by kernel_rfl) (fun _ _ _ h => h) (Or.inl ⟨by rfl, fun w' hS' => by obtain ⟨a', ea, _, y0, y1, y2, y3, y4⟩ := slots_fields (HA.out.up hS'.1) HX.out; injection ea with ea; subst ea; go_simp⟩) hS0 ?_
            change wpAnyH _ _ _ _ _ _ _ (Act.put _ (some 34) (.agg #[.int .u64 x.sum, .int .i64 x.len, .string x.left, .string x.right, .string x.val])) _
            simp only [Act.put, List.setIfInBounds_toArray, List.set_cons_zero, List.set_cons_succ]
            refine wpAnyH_take (i := 9) (v := .slice (some a) L.length c) rfl (by kernel_rfl) (by kernel_rfl) (by kernel_rfl) (fun _ _ _ h => h) (Or.inl ⟨by rfl, fun w' hS' => by exact op_move rfl rfl⟩) hS0 ?_
            change wpAnyH _ _ _ _ _ _ _ (Act.put _ (some 36) (.slice (some a) L.length c)) _
            simp only [Act.put, List.setIfInBounds_toArray, List.set_cons_zero, List.set_cons_succ]
            refine wpAnyH_take (i := 10) (v := .agg #[.int .u64 ks, .int .i64 kl]) rfl (by kernel_rfl) (by kernel_rfl) (by kernel_rfl) (fun _ _ _ h => h) (Or.inl ⟨by rfl, fun w' hS' => by obtain ⟨_, hbk⟩ := hS'; have y0 := Blk.cell hbk 0; have y1 := Blk.cell hbk 1; simp only [List.getElem?_toArray, List.getElem?_cons_zero, List.getElem?_cons_succ] at y0 y1; go_simp⟩) hS0 ?_
            change wpAnyH _ _ _ _ _ _ _ (Act.put _ (some 37) (.agg #[.int .u64 ks, .int .i64 kl])) _
            simp only [Act.put, List.setIfInBounds_toArray, List.set_cons_zero, List.set_cons_succ]
            refine wpAnyH_ready (rs := [8, 11]) (by kernel_rfl) (by simp) (AllReadyH.cons rfl (fun K hK => ?_) (AllReadyH.cons rfl (fun K hK => ?_) (AllReadyH.nil)))
            · skip
              obtain ⟨g2, W1, hr5, ho4⟩ := op_slice1 x wd.drew
              refine step_op_run (hr5 _ _ _ rfl rfl) rfl ?_
              refine hK.out _ _ ⟨hS0.1.trans (ho4.2.mono hS0.1.size), Blk.below hS0.2 ho4.2 hS0.2.lt⟩ (fun hS3 => ?_)
              clear hK K
              change wpAnyH _ _ _ _ _ _ _ (Act.put _ (some 35) (.slice (some ⟨g2, 0, none⟩) 1 1)) _
              simp only [Act.put, List.setIfInBounds_toArray, List.set_cons_zero, List.set_cons_succ]
              refine wpAnyH_ready (rs := [11]) (by kernel_rfl) (by simp) (AllReadyH.cons rfl (fun K hK => ?_) (AllReadyH.nil))
              · skip
                go_simp
                refine (rwithout_any _ L L.length c ks kl _ (HA.out.up hS3.1) rfl (by omega)).mono ?_
                rintro e W6 ⟨v, rfl, ho8⟩
                obtain ⟨A9, c10, rfl⟩ := ho8.slice
                refine hK.out _ _ ⟨hS3.1.trans (ho8.2.mono hS3.1.size), Blk.below hS3.2 ho8.2 hS3.2.lt⟩ (fun hS7 => ?_)
                clear hK K
                simp only [List.setIfInBounds_toArray, List.set_cons_zero, List.set_cons_succ]
                refine wpAnyH_ready (rs := [12]) (by kernel_rfl) (by simp) (AllReadyH.cons rfl (fun K hK => ?_) (AllReadyH.nil))
                · skip
                  obtain ⟨A14, c15, W11, hr16, ho13, _⟩ := append_slots (ho4.up ho8.2) (withoutS L (ks, kl)).length c10 (OwnR.at_ sl_len ho8 rfl) rfl Y HY.out HYL.out
                  refine step_append_run2 hr16 rfl rfl rfl rfl rfl ?_
                  have hb17 := (Below.refl wd.heap.size wd).drew.trans (ho13.2.mono (Below.refl wd.heap.size wd).drew.size)
                  refine hK.out _ _ ⟨hS0.1.trans (ho13.2.mono hS0.1.size), Blk.below hS0.2 ho13.2 hS0.2.lt⟩ (fun hS12 => ?_)
                  clear hK K
                  change wpAnyH _ _ _ _ _ _ _ (Act.put _ (some 39) (.slice A14 Y.length c15)) _
                  simp only [Act.put, List.setIfInBounds_toArray, List.set_cons_zero, List.set_cons_succ]
                  refine wpAnyH_ready (rs := [13]) (by kernel_rfl) (by simp) (AllReadyH.cons rfl (fun K hK => ?_) (AllReadyH.nil))
                  · skip
                    obtain ⟨W18, hr21, ho20, hg22⟩ := op_store h x zeroS W11 (Blk.below HH.out hb17 HH.out.lt)
                    refine step_op_skip (hr21 _ _ _ _ rfl rfl rfl) rfl ?_
                    refine hK.out _ _ ⟨hS12.1.grown hg22 hS12.1.size (fun k hk => by injection hk with hk; omega), Blk.grown hS12.2 hg22 (fun e => blk_ne hS12.2 (Blk.below HH.out hb17 HH.out.lt) (by decide) (Option.some.inj e))⟩ (fun hS19 => ?_)
                    clear hK K
                    change wpAnyH _ _ _ _ _ _ _ (Act.put _ none (undef)) _
                    simp only [Act.put]
                    refine wpAnyH_take (i := 14) (v := .slice A14 Y.length c15) rfl (by kernel_rfl) (by kernel_rfl) (by kernel_rfl) (fun _ _ _ h => h) (Or.inl ⟨by rfl, fun w' hS' => by exact op_assign rfl rfl⟩) hS19 ?_
                    change wpAnyH _ _ _ _ _ _ _ (Act.put _ (some 5) (.slice A14 Y.length c15)) _
                    simp only [Act.put, List.setIfInBounds_toArray, List.set_cons_zero, List.set_cons_succ]
                    refine wpAnyH_take (i := 15) (v := .int .i64 0) rfl (by kernel_rfl) (by kernel_rfl) (by kernel_rfl) (fun _ _ _ h => h) (Or.inl ⟨by rfl, fun w' hS' => by exact op_assign rfl rfl⟩) hS19 ?_
                    change wpAnyH _ _ _ _ _ _ _ (Act.put _ (some 6) (.int .i64 0)) _
                    simp only [Act.put, List.setIfInBounds_toArray, List.set_cons_zero, List.set_cons_succ]
                    refine wpAnyH_done (by kernel_rfl) ?_ _
                    refine NoPanic.normal ?_
                    go_wp2_with fail
                    have y0 := Blk.cell ho20 0
                    have y1 := Blk.cell ho20 1
                    have y2 := Blk.cell ho20 2
                    have y3 := Blk.cell ho20 3
                    have y4 := Blk.cell ho20 4
                    simp only [List.getElem?_toArray, List.getElem?_cons_zero, List.getElem?_cons_succ] at y0 y1 y2 y3 y4
                    refine bodyPost_ret (v := .tuple #[.agg #[.int .u64 x.sum, .int .i64 x.len, .string x.left, .string x.right, .string x.val], .slice A14 Y.length c15, .int .i64 0]) (by simp [results, Try.results37, go_sem, y0, y1, y2, y3, y4]) rfl ?_
                    exact ⟨A14, Y.length, c15, rfl, by rw [HYA.out], by rw [HYA.out]; exact RowAt.kept_grown (OwnR.at_ sl_len ho13 rfl) hg22 (own_far ho13 (Nat.lt_of_lt_of_le HH.out.lt (Below.refl wd.heap.size wd).drew.size)), hS19.1, (OwnR.cap ho13).1, fun a ha => Nat.le_trans hS0.1.size (own_new ho13 a ha)⟩
            · skip
              go_simp
              refine (rwithout_any _ L L.length c ks kl _ (HA.out.up hS0.1) rfl (by omega)).mono ?_
              rintro e W23 ⟨v, rfl, ho25⟩
              obtain ⟨A26, c27, rfl⟩ := ho25.slice
              refine hK.out _ _ ⟨hS0.1.trans (ho25.2.mono hS0.1.size), Blk.below hS0.2 ho25.2 hS0.2.lt⟩ (fun hS24 => ?_)
              clear hK K
              simp only [List.setIfInBounds_toArray, List.set_cons_zero, List.set_cons_succ]
              refine wpAnyH_ready (rs := [8]) (by kernel_rfl) (by simp) (AllReadyH.cons rfl (fun K hK => ?_) (AllReadyH.nil))
              · skip
                obtain ⟨g29, W28, hr32, ho31⟩ := op_slice1 x W23
                refine step_op_run (hr32 _ _ _ rfl rfl) rfl ?_
                refine hK.out _ _ ⟨hS24.1.trans (ho31.2.mono hS24.1.size), Blk.below hS24.2 ho31.2 hS24.2.lt⟩ (fun hS30 => ?_)
                clear hK K
                change wpAnyH _ _ _ _ _ _ _ (Act.put _ (some 35) (.slice (some ⟨g29, 0, none⟩) 1 1)) _
                simp only [Act.put, List.setIfInBounds_toArray, List.set_cons_zero, List.set_cons_succ]
                refine wpAnyH_ready (rs := [12]) (by kernel_rfl) (by simp) (AllReadyH.cons rfl (fun K hK => ?_) (AllReadyH.nil))
                · skip
                  obtain ⟨A36, c37, W33, hr38, ho35, _⟩ := append_slots ho31 (withoutS L (ks, kl)).length c27 ((OwnR.at_ sl_len ho25 rfl).up ho31.2) rfl Y HY.out HYL.out
                  refine step_append_run2 hr38 rfl rfl rfl rfl rfl ?_
                  have hb39 := ((Below.refl wd.heap.size wd).drew.trans (ho25.2.mono (Below.refl wd.heap.size wd).drew.size)).trans (ho35.2.mono ((Below.refl wd.heap.size wd).drew.trans (ho25.2.mono (Below.refl wd.heap.size wd).drew.size)).size)
                  refine hK.out _ _ ⟨hS24.1.trans (ho35.2.mono hS24.1.size), Blk.below hS24.2 ho35.2 hS24.2.lt⟩ (fun hS34 => ?_)
                  clear hK K
                  change wpAnyH _ _ _ _ _ _ _ (Act.put _ (some 39) (.slice A36 Y.length c37)) _
                  simp only [Act.put, List.setIfInBounds_toArray, List.set_cons_zero, List.set_cons_succ]
                  refine wpAnyH_ready (rs := [13]) (by kernel_rfl) (by simp) (AllReadyH.cons rfl (fun K hK => ?_) (AllReadyH.nil))
                  · skip
                    obtain ⟨W40, hr43, ho42, hg44⟩ := op_store h x zeroS W33 (Blk.below HH.out hb39 HH.out.lt)
                    refine step_op_skip (hr43 _ _ _ _ rfl rfl rfl) rfl ?_
                    refine hK.out _ _ ⟨hS34.1.grown hg44 hS34.1.size (fun k hk => by injection hk with hk; omega), Blk.grown hS34.2 hg44 (fun e => blk_ne hS34.2 (Blk.below HH.out hb39 HH.out.lt) (by decide) (Option.some.inj e))⟩ (fun hS41 => ?_)
                    clear hK K
                    change wpAnyH _ _ _ _ _ _ _ (Act.put _ none (undef)) _
                    simp only [Act.put]
                    refine wpAnyH_take (i := 14) (v := .slice A36 Y.length c37) rfl (by kernel_rfl) (by kernel_rfl) (by kernel_rfl) (fun _ _ _ h => h) (Or.inl ⟨by rfl, fun w' hS' => by exact op_assign rfl rfl⟩) hS41 ?_
                    change wpAnyH _ _ _ _ _ _ _ (Act.put _ (some 5) (.slice A36 Y.length c37)) _
                    simp only [Act.put, List.setIfInBounds_toArray, List.set_cons_zero, List.set_cons_succ]
                    refine wpAnyH_take (i := 15) (v := .int .i64 0) rfl (by kernel_rfl) (by kernel_rfl) (by kernel_rfl) (fun _ _ _ h => h) (Or.inl ⟨by rfl, fun w' hS' => by exact op_assign rfl rfl⟩) hS41 ?_
                    change wpAnyH _ _ _ _ _ _ _ (Act.put _ (some 6) (.int .i64 0)) _
                    simp only [Act.put, List.setIfInBounds_toArray, List.set_cons_zero, List.set_cons_succ]
                    refine wpAnyH_done (by kernel_rfl) ?_ _
                    refine NoPanic.normal ?_
                    go_wp2_with fail
                    have y0 := Blk.cell ho42 0
                    have y1 := Blk.cell ho42 1
                    have y2 := Blk.cell ho42 2
                    have y3 := Blk.cell ho42 3
                    have y4 := Blk.cell ho42 4
                    simp only [List.getElem?_toArray, List.getElem?_cons_zero, List.getElem?_cons_succ] at y0 y1 y2 y3 y4
                    refine bodyPost_ret (v := .tuple #[.agg #[.int .u64 x.sum, .int .i64 x.len, .string x.left, .string x.right, .string x.val], .slice A36 Y.length c37, .int .i64 0]) (by simp [results, Try.results37, go_sem, y0, y1, y2, y3, y4]) rfl ?_
                    exact ⟨A36, Y.length, c37, rfl, by rw [HYA.out], by rw [HYA.out]; exact RowAt.kept_grown (OwnR.at_ sl_len ho35 rfl) hg44 (own_far ho35 (Nat.lt_of_lt_of_le HH.out.lt ((Below.refl wd.heap.size wd).drew.trans (ho25.2.mono (Below.refl wd.heap.size wd).drew.size)).size)), hS41.1, (OwnR.cap ho35).1, fun a ha => Nat.le_trans hS24.1.size (own_new ho35 a ha)⟩
      · have hfin : x0 = zeroS ∧ M0 = [] ∧ b0 = 10 := by
          have h3 := HM.out
          unfold getM at h3
          cases h4 : findS L (ks, kl) with
          | some y =>
            obtain ⟨hy1, hy2⟩ := P13.find_some h4
            have := HK.out
            rw [List.take_of_length_le (by omega)] at this
            exact absurd (P13.mem_keys.2 ⟨y, hy1, hy2⟩) this
          | none =>
            rw [HR.out, h4] at h3
            simp only [if_true, Prod.mk.injEq] at h3
            exact ⟨h3.1.symm, h3.2.1.symm, h3.2.2.symm⟩
        obtain ⟨rfl, rfl, rfl⟩ := hfin
        have y0 := Blk.cell HBY.out 0
        have y1 := Blk.cell HBY.out 1
        have y2 := Blk.cell HBY.out 2
        have y3 := Blk.cell HBY.out 3
        have y4 := Blk.cell HBY.out 4
        have z0 := Blk.frozen HBY.out 0
        have z1 := Blk.frozen HBY.out 1
        have z2 := Blk.frozen HBY.out 2
        have z3 := Blk.frozen HBY.out 3
        have z4 := Blk.frozen HBY.out 4
        simp only [List.getElem?_toArray, List.getElem?_cons_zero, List.getElem?_cons_succ] at y0 y1 y2 y3 y4
        go_wp2_with fail
        refine bodyPost_ret (v := .tuple #[.agg #[.int .u64 0, .int .i64 0, .string ⟨#[]⟩, .string ⟨#[]⟩, .string ⟨#[]⟩], .slice none 0 0, .int .i64 10]) (by simp [results, Try.results37, go_sem, y0, y1, y2, y3, y4]) rfl ?_
        exact ⟨none, 0, 0, rfl, rfl, RowAt.nil, below_drewN (((((HBW2.out.setCell hwh _).setCell hwh _).setCell hwh _).setCell hwh _).setCell hwh _) _, Nat.le_refl _, fun a ha => by cases ha⟩

end Go.Proofs.Ytjifmfgfmciaeaa
