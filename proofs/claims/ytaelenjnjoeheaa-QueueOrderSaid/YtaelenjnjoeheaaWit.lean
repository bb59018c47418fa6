/-
  Package queue: with: a queue that has some tasks and no others, in memory of their own; nothing that was there is changed.
-/
import Derived.Test.YtaelenjnjoeheaaOwn
namespace Go.Proofs.Ytaelenjnjoeheaa
open Go.RowKit P16

theorem make_tasks (n : Nat) (hn : n ≤ 1048576) (W : World) : ∃ cs, cs.size = n * 4 ∧ (Instr.makeSlice 22 (.int .i64 (n : Int)) (.int .i64 (n : Int))).run Try.prog W = .ok (.slice (some ⟨W.heap.size, 0, none⟩) n n) (W.alloc (.cells cs 39)) := by
  obtain ⟨i0, hi, hz0, hz1, hz2⟩ := info_parts infoT
  have hr := run_make (P := Try.prog) W 22 39 i0 _ Try.underlying22 hi hz0 .i64 .i64 (n : Int) (n : Int) (by omega) (Int.le_refl _) (by rw [hz2]; omega) (by omega)
  rw [hz1] at hr
  simp only [Int.toNat_natCast] at hr
  exact ⟨_, size_madeCells _ _, hr⟩
theorem four_cells (cs : Array Value) (b : Nat) (h : b + 3 < cs.size) : ∃ v0 v1 v2 v3, cs[b]? = some v0 ∧ cs[b + 1]? = some v1 ∧ cs[b + 2]? = some v2 ∧ cs[b + 3]? = some v3 :=
  ⟨_, _, _, _, Array.getElem?_eq_getElem (by omega), Array.getElem?_eq_getElem (by omega), Array.getElem?_eq_getElem (by omega), Array.getElem?_eq_getElem (by omega)⟩
theorem op_storeRow {g k : Nat} {cs : Array Value} {W : World} (hb : Blk W g 39 cs) (hs : k * 4 + 4 ≤ cs.size) (x : Tk) :
    ∃ W1, (∀ (o : Oper) (a : Act) (p q : Operand), o.op = Op.store 39 p q → a.eval p = .pointer (some ⟨g, k * 4, none⟩) → a.eval q = .agg #[.int .i64 x.req, .int .i64 x.slot, .string x.left, .string x.right] → (execOp a.eval o).run Try.prog W = .ok .skip W1) ∧
      Blk W1 g 39 (putAt cs (k * 4) (Tk.cells x)) ∧ W.grownBy W1 (some g) := by
  obtain ⟨v0, v1, v2, v3, e0, e1, e2, e3⟩ := four_cells cs (k * 4) (by omega)
  have z0 := (Blk.cell hb (k * 4)).trans e0
  have z1 := (Blk.cell hb (k * 4 + 1)).trans e1
  have z2 := (Blk.cell hb (k * 4 + 2)).trans e2
  have z3 := (Blk.cell hb (k * 4 + 3)).trans e3
  have q0 := Blk.frozen hb (k * 4)
  have q1 := Blk.frozen hb (k * 4 + 1)
  have q2 := Blk.frozen hb (k * 4 + 2)
  have q3 := Blk.frozen hb (k * 4 + 3)
  clear e0 e1 e2 e3
  refine ⟨(((W.setCell ⟨g, k * 4, none⟩ (.int .i64 x.req)).setCell ⟨g, k * 4 + 1, none⟩ (.int .i64 x.slot)).setCell ⟨g, k * 4 + 2, none⟩ (.string x.left)).setCell ⟨g, k * 4 + 3, none⟩ (.string x.right), fun o a p q ho hx hy => ?_,
    (((Blk.set_ hb (k * 4) (.int .i64 x.req)).set_ (k * 4 + 1) (.int .i64 x.slot)).set_ (k * 4 + 2) (.string x.left)).set_ (k * 4 + 3) (.string x.right), (((grown_set _ _ _ _).trans (grown_set _ _ _ _)).trans (grown_set _ _ _ _)).trans (grown_set _ _ _ _)⟩
  simp only [execOp, ho, hx, hy]
  go_simp
/-- between two rounds -/
structure WithIn (w wr : World) (g gq gr : Nat) (r : Int) (cl : Bool) (m : Nat) (L : List Tk) (k : Nat) (cs : Array Value) : Prop where
  blk : Blk wr g 39 cs
  size : cs.size = m * 4
  filled : Filled Tk.cells 4 cs L k
  box : Blk wr gq 24 #[.int .i64 r, .bool cl, .slice (some ⟨g, 0, none⟩) m m]
  res : Blk wr gr 24 #[.int .i64 0, .bool false, .slice none 0 0]
  below : Below w.heap.size w wr
/-- a queue in new memory -/
def WithTold (r : Int) (cl : Bool) (L : List Tk) (m : Nat) (w : World) (e : Ending) (w' : World) : Prop :=
  ∃ A', e = .returned (.agg #[.int .i64 r, .bool cl, .slice A' m m]) ∧ TasksNew w.heap.size w' A' L ∧ Below w.heap.size w w'

set_option maxHeartbeats 4000000 in
theorem with_any (r : Int) (cl : Bool) (A : Option Addr) (n c : Nat) (B : Option Addr) (L : List Tk) (m d : Nat) (w : World) (hb : TasksAt w B L) (hm : L.length = m) (h1 : m ≤ 1048576) (hf : FitT L) :
    Calls Try.prog 26 #[.agg #[.int .i64 r, .bool cl, .slice A n c], .slice B m d] w (WithTold r cl L m w) := by
  have HA := Lib.hid hb
  have HF := Lib.hid hf
  have HM := Lib.hid hm
  clear hb hf hm
  go_enter Try.func26, Try.ntmps26
  go_upto_region 1 with (fail)
  have hb0 : Blk ((w.alloc (.cells #[.int .i64 r, .bool cl, .slice A n c] 24)).alloc (.cells #[.int .i64 0, .bool false, .slice none 0 0] 24)) w.heap.size 24 #[.int .i64 r, .bool cl, .slice A n c] := (Blk.new w _ _).alloc _
  have hb2 : Blk ((w.alloc (.cells #[.int .i64 r, .bool cl, .slice A n c] 24)).alloc (.cells #[.int .i64 0, .bool false, .slice none 0 0] 24)) (w.heap.size + 1) 24 #[.int .i64 0, .bool false, .slice none 0 0] := by
    have := Blk.new (w.alloc (.cells #[.int .i64 r, .bool cl, .slice A n c] 24)) 24 #[.int .i64 0, .bool false, .slice none 0 0]
    simpa using this
  have hw0 : Below w.heap.size w ((w.alloc (.cells #[.int .i64 r, .bool cl, .slice A n c] 24)).alloc (.cells #[.int .i64 0, .bool false, .slice none 0 0] 24)) := ((Below.refl _ _).alloc (Nat.le_refl _) _).alloc (by simp) _
  obtain ⟨w1, hw1⟩ : ∃ w1, w1 = (w.alloc (.cells #[.int .i64 r, .bool cl, .slice A n c] 24)).alloc (.cells #[.int .i64 0, .bool false, .slice none 0 0] 24) := ⟨_, rfl⟩
  obtain ⟨gq, hgq⟩ : ∃ g, g = w.heap.size := ⟨_, rfl⟩
  obtain ⟨gr, hgr⟩ : ∃ g, g = w.heap.size + 1 := ⟨_, rfl⟩
  rw [← hw1] at hb0 hb2 hw0 ⊢
  rw [← hgr] at hb2 ⊢
  rw [← hgq] at hb0
  have HGQ : Hid (w.heap.size ≤ gq) := Lib.hid (by omega)
  have HGR : Hid (w.heap.size ≤ gr) := Lib.hid (by omega)
  have HNE : Hid (gr ≠ gq) := Lib.hid (by omega)
  rw [show (⟨w.heap.size, 0, none⟩ : Addr) = ⟨gq, 0, none⟩ from by rw [hgq]]
  have HB0 := Lib.hid hb0
  have HB2 := Lib.hid hb2
  have HW0 := Lib.hid hw0
  clear hb0 hb2 hw0 hw1 hgq hgr
  obtain ⟨cs0, hs0, hmk⟩ := make_tasks m h1 w1
  have hq0 := Blk.frozen HB0.out 2
  have hq1 := (Blk.alloc HB0.out (.cells cs0 39)).frozen 2
  obtain ⟨y0, y1, y2⟩ := blk3 (Blk.alloc HB0.out (.cells cs0 39))
  have HS0 := Lib.hid hs0
  clear hs0
  go_upto_region 2 with (fail)
  have hbG : Blk ((w1.alloc (.cells cs0 39)).setCell ⟨gq, 2, none⟩ (.slice (some ⟨w1.heap.size, 0, none⟩) m m)) w1.heap.size 39 cs0 := (Blk.new w1 _ cs0).far (p := ⟨gq, 2, none⟩) (by have := HB0.out.lt; show w1.heap.size ≠ gq; omega) _
  have hbQ : Blk ((w1.alloc (.cells cs0 39)).setCell ⟨gq, 2, none⟩ (.slice (some ⟨w1.heap.size, 0, none⟩) m m)) gq 24 #[.int .i64 r, .bool cl, .slice (some ⟨w1.heap.size, 0, none⟩) m m] := (HB0.out.alloc _).set_ 2 _
  have hbR : Blk ((w1.alloc (.cells cs0 39)).setCell ⟨gq, 2, none⟩ (.slice (some ⟨w1.heap.size, 0, none⟩) m m)) gr 24 #[.int .i64 0, .bool false, .slice none 0 0] := (HB2.out.alloc _).far (p := ⟨gq, 2, none⟩) HNE.out _
  have hwG : Below w.heap.size w ((w1.alloc (.cells cs0 39)).setCell ⟨gq, 2, none⟩ (.slice (some ⟨w1.heap.size, 0, none⟩) m m)) := (HW0.out.alloc HW0.out.size _).setCell HGQ.out _
  obtain ⟨w2, hw2⟩ : ∃ w2, w2 = (w1.alloc (.cells cs0 39)).setCell ⟨gq, 2, none⟩ (.slice (some ⟨w1.heap.size, 0, none⟩) m m) := ⟨_, rfl⟩
  obtain ⟨g, hg⟩ : ∃ g, g = w1.heap.size := ⟨_, rfl⟩
  have HG : Hid (w.heap.size ≤ g) := Lib.hid (by have := HW0.out.size; omega)
  have HN1 : Hid (gq ≠ g) := Lib.hid (by have := HB0.out.lt; omega)
  have HN3 : Hid (gr ≠ g) := Lib.hid (by have := HB2.out.lt; omega)
  rw [← hg] at hw2 hbG hbQ hbR hwG
  try rw [← hg]
  rw [← hw2] at hbG hbQ hbR hwG ⊢
  have HI0 : Hid (WithIn w w2 g gq gr r cl m L 0 cs0) := Lib.hid ⟨hbG, HS0.out, fun i x hi => absurd hi (Nat.not_lt_zero _), hbQ, hbR, hwG⟩
  clear hbG hbQ hbR hwG hw2 hg hq0 hq1 y0 y1 y2 hmk HB0 HB2 HW0
  go_wp2_with fail
  go_loopw [13] (fun i wr => ∃ (k : Nat) (cs : Array Value), k ≤ m ∧ i = .int .i64 k ∧ Hid (WithIn w wr g gq gr r cl m L k cs)) (fun i _ => m - (intOf i).toNat)
  case atStart => exact ⟨0, cs0, Nat.zero_le _, rfl, HI0⟩
  case round =>
    obtain ⟨k, cs, hk, rfl, HV⟩ := hrel
    obtain ⟨w4, rfl⟩ : ∃ w3, w3 = wr := ⟨_, rfl⟩
    by_cases g1 : k < m
    · obtain ⟨x, hx⟩ : ∃ x, L[k]? = some x := ⟨_, List.getElem?_eq_getElem (by rw [HM.out]; exact g1)⟩
      obtain ⟨a, rfl, hal, c0, c1, c2, c3⟩ := tasks_fields (HA.out.up HV.out.below) hx
      have HX := Lib.hid hx
      have HFX := Lib.hid (HF.out x (List.mem_of_getElem? hx))
      clear hx
      go_upto_region 5 with (fail)
      obtain ⟨gt, w5, hgt, hw5, hbt, hbe5⟩ := box_new w4 39 #[.int .i64 x.req, .int .i64 x.slot, .string x.left, .string x.right]
      rw [← hw5, ← hgt]
      have HBT := Lib.hid hbt
      have HBQ := Lib.hid (HV.out.box.below hbe5 HV.out.box.lt)
      have HBR := Lib.hid (HV.out.res.below hbe5 HV.out.res.lt)
      have HB3 := Lib.hid (HV.out.blk.below hbe5 HV.out.blk.lt)
      have HW3 := Lib.hid (below_step HV.out.below hbe5)
      have HN2 : Hid (gt ≠ g) := Lib.hid (by have := HV.out.blk.lt; omega)
      clear hgt hw5 hbt hbe5 c0 c1 c2 c3 hal
      refine wp_region_noPanic ?_
      refine wp_region_held_drew (S := fun W => (Blk W gq 24 #[.int .i64 r, .bool cl, .slice (some ⟨g, 0, none⟩) m m] ∧ Blk W gt 39 #[.int .i64 x.req, .int .i64 x.slot, .string x.left, .string x.right]) ∧ Below w.heap.size w W) (by kernel_rfl) (⟨⟨HBQ.out.drew, HBT.out.drew⟩, HW3.out.drew⟩) (fun hS0 => ?_)
      change wpAnyH _ _ _ _ _ 7 #[false, false, false, false, false, false, false] _ (World.drew _)
      refine wpAnyH_take (i := 0) (v := .pointer (some ⟨gq, 2, none⟩)) rfl (by kernel_rfl) (by kernel_rfl) (by kernel_rfl) (fun _ _ _ h => h) (Or.inl ⟨by rfl, fun w' hS' => by go_simp⟩) hS0 ?_
      change wpAnyH _ _ _ _ _ _ _ (Act.put _ (some 18) (.pointer (some ⟨gq, 2, none⟩))) _
      simp only [Act.put, List.setIfInBounds_toArray, List.set_cons_zero, List.set_cons_succ]
      refine wpAnyH_take (i := 1) (v := .slice (some ⟨g, 0, none⟩) m m) rfl (by kernel_rfl) (by kernel_rfl) (by kernel_rfl) (fun _ _ _ h => h) (Or.inl ⟨by rfl, fun w' hS' => by obtain ⟨y0, y1, y2⟩ := blk3 hS'.1.1; go_simp⟩) hS0 ?_
      change wpAnyH _ _ _ _ _ _ _ (Act.put _ (some 19) (.slice (some ⟨g, 0, none⟩) m m)) _
      simp only [Act.put, List.setIfInBounds_toArray, List.set_cons_zero, List.set_cons_succ]
      refine wpAnyH_take (i := 2) (v := .int .i64 (k : Int)) rfl (by kernel_rfl) (by kernel_rfl) (by kernel_rfl) (fun _ _ _ h => h) (Or.inl ⟨by rfl, fun w' hS' => by go_simp⟩) hS0 ?_
      change wpAnyH _ _ _ _ _ _ _ (Act.put _ (some 20) (.int .i64 (k : Int))) _
      simp only [Act.put, List.setIfInBounds_toArray, List.set_cons_zero, List.set_cons_succ]
      refine wpAnyH_take (i := 3) (v := .agg #[.int .i64 x.req, .int .i64 x.slot, .string x.left, .string x.right]) rfl (by kernel_rfl) (by kernel_rfl) (by kernel_rfl) (fun _ _ _ h => h) (Or.inl ⟨by rfl, fun w' hS' => by obtain ⟨u0, u1, u2, u3⟩ := blk4 hS'.1.2; go_simp⟩) hS0 ?_
      change wpAnyH _ _ _ _ _ _ _ (Act.put _ (some 21) (.agg #[.int .i64 x.req, .int .i64 x.slot, .string x.left, .string x.right])) _
      simp only [Act.put, List.setIfInBounds_toArray, List.set_cons_zero, List.set_cons_succ]
      refine wpAnyH_ready (rs := [4]) (by kernel_rfl) (by simp) (AllReadyH.cons rfl (fun K hK => ?_) (AllReadyH.nil))
      · skip
        go_simp
        refine (own_any x.req x.slot x.left x.right _ HFX.out.1 HFX.out.2).mono ?_
        rintro e W4 ⟨rfl, hb4⟩
        refine hK.out _ _ ⟨⟨Blk.below hS0.1.1 hb4 hS0.1.1.lt, Blk.below hS0.1.2 hb4 hS0.1.2.lt⟩, hS0.2.trans (hb4.mono hS0.2.size)⟩ (fun hS4 => ?_)
        clear hK K
        simp only [List.setIfInBounds_toArray, List.set_cons_zero, List.set_cons_succ]
        refine wpAnyH_take (i := 5) (v := .pointer (some ⟨g, k * 4, none⟩)) rfl (by kernel_rfl) (by kernel_rfl) (by kernel_rfl) (fun _ _ _ h => h) (Or.inl ⟨by rfl, fun w' hS' => by have ha := add_zero_block g (k * 4); go_simp⟩) hS4 ?_
        change wpAnyH _ _ _ _ _ _ _ (Act.put _ (some 23) (.pointer (some ⟨g, k * 4, none⟩))) _
        simp only [Act.put, List.setIfInBounds_toArray, List.set_cons_zero, List.set_cons_succ]
        refine wpAnyH_ready (rs := [6]) (by kernel_rfl) (by simp) (AllReadyH.cons rfl (fun K hK => ?_) (AllReadyH.nil))
        · skip
          have hk4 := Blk.below (HB3.out.drew) hb4 HB3.out.lt
          obtain ⟨W6, hr6, hk6, hg6⟩ := op_storeRow (k := k) hk4 (by rw [HV.out.size]; omega) x
          refine step_op_skip (hr6 _ _ _ _ rfl rfl rfl) rfl ?_
          refine hK.out _ _ ⟨⟨Blk.grown hS4.1.1 hg6 (fun e => HN1.out (Option.some.inj e)), Blk.grown hS4.1.2 hg6 (fun e => HN2.out (Option.some.inj e))⟩, grown_below hS4.2 hg6 hS4.2.size HG.out⟩ (fun hS6 => ?_)
          clear hK K
          change wpAnyH _ _ _ _ _ _ _ (Act.put _ none (undef)) _
          simp only [Act.put]
          refine wpAnyH_done (by kernel_rfl) ?_ _
          refine NoPanic.normal ?_
          have HI2 : Hid (WithIn w W6 g gq gr r cl m L (k + 1) (putAt cs (k * 4) (Tk.cells x))) := Lib.hid ⟨hk6, by rw [putAt_size, HV.out.size], HV.out.filled.put tk_len HX.out (by rw [HV.out.size]; omega), hS6.1.1, Blk.grown (Blk.below HBR.out.drew hb4 HBR.out.lt) hg6 (fun e => HN3.out (Option.some.inj e)), hS6.2⟩
          clear hk4 hk6 hr6 hg6 hS6
          go_wp2_with fail
          go_roundw
          case rel => exact ⟨k + 1, _, by omega, by go_num, HI2⟩
          case measure => simp [intOf]; omega

    · obtain rfl : k = m := by omega
      obtain ⟨y0, y1, y2⟩ := blk3 HV.out.box
      obtain ⟨z0, z1, z2⟩ := blk3 HV.out.res
      have q0 := Blk.frozen HV.out.res 0
      have q1 := Blk.frozen HV.out.res 1
      have q2 := Blk.frozen HV.out.res 2
      go_wp2_with fail
      refine bodyPost_ret (v := .agg #[.int .i64 r, .bool cl, .slice (some ⟨g, 0, none⟩) k k]) (by simp [results, Try.results26, go_sem, z0, z1, z2]) rfl ?_
      have hf := HV.out.filled
      rw [← HM.out] at hf
      refine ⟨_, rfl, ⟨(hf.at_ ((((HV.out.blk.far (p := ⟨gr, 0, none⟩) HN3.out.symm _).far (p := ⟨gr, 1, none⟩) HN3.out.symm _).far (p := ⟨gr, 2, none⟩) HN3.out.symm _))), fun _ a ha => by injection ha with ha; rw [← ha]; exact HG.out⟩, ?_⟩
      exact ((HV.out.below.setCell HGR.out _).setCell HGR.out _).setCell HGR.out _

end Go.Proofs.Ytaelenjnjoeheaa
