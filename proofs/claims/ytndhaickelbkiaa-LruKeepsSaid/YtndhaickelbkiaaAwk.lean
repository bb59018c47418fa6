/-
  collatorlaw13.awake: chapter 13's example; it returns true, if package lru is as the chapter says. Nothing that was there is changed.
-/
import Derived.Test.YtndhaickelbkiaaList
namespace Go.Proofs.Ytndhaickelbkiaa
open Go.RowKit

def sA : Sl := slotOf 1 ⟨#[97]⟩
def sB : Sl := slotOf 2 ⟨#[98]⟩
def sC : Sl := slotOf 3 ⟨#[99]⟩
/-- what chapter 13's example comes to -/
structure AwF (a b c : Sl) : Prop where
  p1 : putM [b, a] 2 c = ([c, b], [a], 0)
  g1 : getM [c, b] (b.sum, b.len) = (b, [b, c], 0)
  g2 : getM [c, b] (a.sum, a.len) = (zeroS, [], 10)
  p2 : putM [a, a] 2 c = ([], [], 1)
  r1 : rightB [c, b] = true
  r2 : rightB [a, a] = false
  f1 : FitS [b, a]
  f2 : FitS [c, b]
  f3 : FitS [a, a]
  f4 : FitS [c]
theorem aw_facts : AwF sA sB sC := by
  have fa : FitS [sA] := fit_slotOf _ _ (by show 1 ≤ _; omega)
  have fb : FitS [sB] := fit_slotOf _ _ (by show 1 ≤ _; omega)
  have fc : FitS [sC] := fit_slotOf _ _ (by show 1 ≤ _; omega)
  exact ⟨by decide +kernel, by decide +kernel, by decide +kernel, by decide +kernel, by decide +kernel, by decide +kernel, fa.cons fb, fb.cons fc, fa.cons fa, fc⟩
theorem SlotsAt.of_blk1 {w : World} {g : Nat} {x : Sl} (h : Blk w g 28 #[.int .u64 x.sum, .int .i64 x.len, .string x.left, .string x.right, .string x.val]) : SlotsAt w (some ⟨g, 0, none⟩) [x] := RowAt.of_blk sl_len (t := 28) (by simpa [Sl.cells] using h)
theorem SlotsAt.of_blk2 {w : World} {g : Nat} {x y : Sl} (h : Blk w g 28 #[.int .u64 x.sum, .int .i64 x.len, .string x.left, .string x.right, .string x.val, .int .u64 y.sum, .int .i64 y.len, .string y.left, .string y.right, .string y.val]) : SlotsAt w (some ⟨g, 0, none⟩) [x, y] := RowAt.of_blk sl_len (t := 28) (by simpa [Sl.cells] using h)
abbrev bx (x : Sl) : Array Value := #[.int .u64 x.sum, .int .i64 x.len, .string x.left, .string x.right, .string x.val]

theorem step_op_run_w {P : Program} {ops : Array Oper} {o : Oper} {a : Act} {w w' : World} {K : Act → World → Prop} {Q : Exit → Act → World → Prop} {E : Prop} {v' : Value}
    (hrun : (execOp a.eval o).run P w = .ok (.value v') w') (hw : Region.wanted o (yielded ops a.tmps) = true) (h : K (a.put o.dst v') w') : if Region.wanted o (yielded ops a.tmps) = true then Oper.wp P o a w K Q else E := by
  rw [if_pos hw]
  unfold Oper.wp
  rw [hrun]
  exact h
theorem below_step {v W w' : World} (h : Below v.heap.size v W) (h2 : Below W.heap.size W w') : Below v.heap.size v w' := h.trans (h2.mono h.size)

set_option maxHeartbeats 8000000 in
set_option maxRecDepth 100000 in
theorem awake_any (H : LruOk) (w : World) : Calls Try.prog 9 #[] w fun e w' => e = .returned (.bool true) ∧ Below w.heap.size w w' := by
  obtain ⟨a, ha⟩ : ∃ a, a = sA := ⟨_, rfl⟩
  obtain ⟨b, hb⟩ : ∃ b, b = sB := ⟨_, rfl⟩
  obtain ⟨c, hc⟩ : ∃ c, c = sC := ⟨_, rfl⟩
  have F : Hid (AwF a b c) := Lib.hid (by rw [ha, hb, hc]; exact aw_facts)
  have HA := Lib.hid ha
  have HB := Lib.hid hb
  have HC := Lib.hid hc
  clear ha hb hc
  go_enter Try.func9, Try.ntmps9
  go_wp2_with fail
  refine (slot_any 1 ⟨#[97]⟩ _ (by omega) (by omega)).mono ?_
  rintro e wa1 ⟨rfl, hB⟩
  rw [show slotOf 1 ⟨#[97]⟩ = a from HA.out.symm]
  have HBa1 := Lib.hid hB
  clear hB
  go_wp2_with fail
  have hbk := Blk.new wa1 28 #[.int .u64 a.sum, .int .i64 a.len, .string a.left, .string a.right, .string a.val]
  have hal : Below wa1.heap.size wa1 (wa1.alloc (.cells #[.int .u64 a.sum, .int .i64 a.len, .string a.left, .string a.right, .string a.val] 28)) := (Below.refl _ _).alloc (Nat.le_refl _) _
  obtain ⟨wb1, hW⟩ : ∃ W, W = wa1.alloc (.cells #[.int .u64 a.sum, .int .i64 a.len, .string a.left, .string a.right, .string a.val] 28) := ⟨_, rfl⟩
  obtain ⟨g1, hg⟩ : ∃ g, g = wa1.heap.size := ⟨_, rfl⟩
  rw [← hW] at hbk hal ⊢
  rw [← hg] at hbk ⊢
  have K1 := Lib.hid hbk
  have HBb1 := Lib.hid hal
  clear hbk hal hW hg
  refine (slot_any 2 ⟨#[98]⟩ _ (by omega) (by omega)).mono ?_
  rintro e wa2 ⟨rfl, hB⟩
  rw [show slotOf 2 ⟨#[98]⟩ = b from HB.out.symm]
  have HBa2 := Lib.hid hB
  clear hB
  go_wp2_with fail
  have hbk := Blk.new wa2 28 #[.int .u64 b.sum, .int .i64 b.len, .string b.left, .string b.right, .string b.val]
  have hal : Below wa2.heap.size wa2 (wa2.alloc (.cells #[.int .u64 b.sum, .int .i64 b.len, .string b.left, .string b.right, .string b.val] 28)) := (Below.refl _ _).alloc (Nat.le_refl _) _
  obtain ⟨wb2, hW⟩ : ∃ W, W = wa2.alloc (.cells #[.int .u64 b.sum, .int .i64 b.len, .string b.left, .string b.right, .string b.val] 28) := ⟨_, rfl⟩
  obtain ⟨g2, hg⟩ : ∃ g, g = wa2.heap.size := ⟨_, rfl⟩
  rw [← hW] at hbk hal ⊢
  rw [← hg] at hbk ⊢
  have K2 := Lib.hid hbk
  have HBb2 := Lib.hid hal
  clear hbk hal hW hg
  refine (slot_any 3 ⟨#[99]⟩ _ (by omega) (by omega)).mono ?_
  rintro e wa3 ⟨rfl, hB⟩
  rw [show slotOf 3 ⟨#[99]⟩ = c from HC.out.symm]
  have HBa3 := Lib.hid hB
  clear hB
  go_upto_region 4 with (fail)
  have hbk := Blk.new wa3 28 #[.int .u64 c.sum, .int .i64 c.len, .string c.left, .string c.right, .string c.val]
  have hal : Below wa3.heap.size wa3 (wa3.alloc (.cells #[.int .u64 c.sum, .int .i64 c.len, .string c.left, .string c.right, .string c.val] 28)) := (Below.refl _ _).alloc (Nat.le_refl _) _
  obtain ⟨wb3, hW⟩ : ∃ W, W = wa3.alloc (.cells #[.int .u64 c.sum, .int .i64 c.len, .string c.left, .string c.right, .string c.val] 28) := ⟨_, rfl⟩
  obtain ⟨g3, hg⟩ : ∃ g, g = wa3.heap.size := ⟨_, rfl⟩
  rw [← hW] at hbk hal ⊢
  rw [← hg] at hbk ⊢
  have K3 := Lib.hid hbk
  have HBb3 := Lib.hid hal
  clear hbk hal hW hg
  have x0 := Blk.cell (Blk.below K1.out (below_step (below_step (below_step HBa2.out HBb2.out) HBa3.out) HBb3.out) K1.out.lt) 0
  have x1 := Blk.cell (Blk.below K1.out (below_step (below_step (below_step HBa2.out HBb2.out) HBa3.out) HBb3.out) K1.out.lt) 1
  have x2 := Blk.cell (Blk.below K1.out (below_step (below_step (below_step HBa2.out HBb2.out) HBa3.out) HBb3.out) K1.out.lt) 2
  have x3 := Blk.cell (Blk.below K1.out (below_step (below_step (below_step HBa2.out HBb2.out) HBa3.out) HBb3.out) K1.out.lt) 3
  have x4 := Blk.cell (Blk.below K1.out (below_step (below_step (below_step HBa2.out HBb2.out) HBa3.out) HBb3.out) K1.out.lt) 4
  simp only [List.getElem?_toArray, List.getElem?_cons_zero, List.getElem?_cons_succ] at x0 x1 x2 x3 x4
  have xl := Blk.lt (Blk.below K1.out (below_step (below_step (below_step HBa2.out HBb2.out) HBa3.out) HBb3.out) K1.out.lt)
  have y0 := Blk.cell (Blk.below K2.out (below_step HBa3.out HBb3.out) K2.out.lt) 0
  have y1 := Blk.cell (Blk.below K2.out (below_step HBa3.out HBb3.out) K2.out.lt) 1
  have y2 := Blk.cell (Blk.below K2.out (below_step HBa3.out HBb3.out) K2.out.lt) 2
  have y3 := Blk.cell (Blk.below K2.out (below_step HBa3.out HBb3.out) K2.out.lt) 3
  have y4 := Blk.cell (Blk.below K2.out (below_step HBa3.out HBb3.out) K2.out.lt) 4
  simp only [List.getElem?_toArray, List.getElem?_cons_zero, List.getElem?_cons_succ] at y0 y1 y2 y3 y4
  have yl := Blk.lt (Blk.below K2.out (below_step HBa3.out HBb3.out) K2.out.lt)
  have z0 := Blk.cell K3.out 0
  have z1 := Blk.cell K3.out 1
  have z2 := Blk.cell K3.out 2
  have z3 := Blk.cell K3.out 3
  have z4 := Blk.cell K3.out 4
  simp only [List.getElem?_toArray, List.getElem?_cons_zero, List.getElem?_cons_succ] at z0 z1 z2 z3 z4
  have zl := Blk.lt K3.out
  go_wp2_with fail
  have hbk := Blk.new wb3 28 #[.int .u64 b.sum, .int .i64 b.len, .string b.left, .string b.right, .string b.val, .int .u64 a.sum, .int .i64 a.len, .string a.left, .string a.right, .string a.val]
  have hal : Below wb3.heap.size wb3 (wb3.alloc (.cells #[.int .u64 b.sum, .int .i64 b.len, .string b.left, .string b.right, .string b.val, .int .u64 a.sum, .int .i64 a.len, .string a.left, .string a.right, .string a.val] 28)) := (Below.refl _ _).alloc (Nat.le_refl _) _
  obtain ⟨wc4, hW⟩ : ∃ W, W = wb3.alloc (.cells #[.int .u64 b.sum, .int .i64 b.len, .string b.left, .string b.right, .string b.val, .int .u64 a.sum, .int .i64 a.len, .string a.left, .string a.right, .string a.val] 28) := ⟨_, rfl⟩
  obtain ⟨g4, hg⟩ : ∃ g, g = wb3.heap.size := ⟨_, rfl⟩
  rw [← hW] at hbk hal ⊢
  rw [← hg] at hbk ⊢
  have K4 := Lib.hid hbk
  have HBc4 := Lib.hid hal
  clear hbk hal hW hg
  clear x0 x1 x2 x3 x4 xl y0 y1 y2 y3 y4 yl z0 z1 z2 z3 z4 zl
  refine (H.put _ [b, a] 2 2 2 c _ [c, b] [a] 0 F.out.p1 (SlotsAt.of_blk2 K4.out) rfl (by simp) F.out.f1 F.out.f4 (by omega) (by omega)).mono ?_
  rintro e wa4 ⟨Al, Ao, nl, no, cl, co, rfl, hnl, hno, hL, hO, hB⟩
  obtain rfl : 2 = nl := hnl
  obtain rfl : 1 = no := hno
  have HL := Lib.hid hL
  have HO := Lib.hid hO
  have HBa4 := Lib.hid hB
  clear hL hO hB
  have y0 := Blk.cell (Blk.below K2.out (below_step (below_step (below_step HBa3.out HBb3.out) HBc4.out) HBa4.out) K2.out.lt) 0
  have y1 := Blk.cell (Blk.below K2.out (below_step (below_step (below_step HBa3.out HBb3.out) HBc4.out) HBa4.out) K2.out.lt) 1
  have y2 := Blk.cell (Blk.below K2.out (below_step (below_step (below_step HBa3.out HBb3.out) HBc4.out) HBa4.out) K2.out.lt) 2
  have y3 := Blk.cell (Blk.below K2.out (below_step (below_step (below_step HBa3.out HBb3.out) HBc4.out) HBa4.out) K2.out.lt) 3
  have y4 := Blk.cell (Blk.below K2.out (below_step (below_step (below_step HBa3.out HBb3.out) HBc4.out) HBa4.out) K2.out.lt) 4
  simp only [List.getElem?_toArray, List.getElem?_cons_zero, List.getElem?_cons_succ] at y0 y1 y2 y3 y4
  have yl := Blk.lt (Blk.below K2.out (below_step (below_step (below_step HBa3.out HBb3.out) HBc4.out) HBa4.out) K2.out.lt)
  go_wp2_with fail
  clear y0 y1 y2 y3 y4 yl
  refine (H.get Al [c, b] 2 cl b.sum b.len _ b [b, c] 0 F.out.g1 HL.out rfl (by simp) F.out.f2).mono ?_
  rintro e wa5 ⟨Am, nm, cm, rfl, hnm, hM, hB⟩
  obtain rfl : 2 = nm := hnm
  have HM := Lib.hid hM
  have HBa5 := Lib.hid hB
  clear hM hB
  go_upto_region 6 with (fail)
  have hbk := Blk.new wa5 28 #[.int .u64 b.sum, .int .i64 b.len, .string b.left, .string b.right, .string b.val]
  have hal : Below wa5.heap.size wa5 (wa5.alloc (.cells #[.int .u64 b.sum, .int .i64 b.len, .string b.left, .string b.right, .string b.val] 28)) := (Below.refl _ _).alloc (Nat.le_refl _) _
  obtain ⟨wb5, hW⟩ : ∃ W, W = wa5.alloc (.cells #[.int .u64 b.sum, .int .i64 b.len, .string b.left, .string b.right, .string b.val] 28) := ⟨_, rfl⟩
  obtain ⟨g7, hg⟩ : ∃ g, g = wa5.heap.size := ⟨_, rfl⟩
  rw [← hW] at hbk hal ⊢
  rw [← hg] at hbk ⊢
  have K7 := Lib.hid hbk
  have HBb5 := Lib.hid hal
  clear hbk hal hW hg
  have x0 := Blk.cell (Blk.below K1.out (below_step (below_step (below_step (below_step (below_step (below_step (below_step HBa2.out HBb2.out) HBa3.out) HBb3.out) HBc4.out) HBa4.out) HBa5.out) HBb5.out) K1.out.lt) 0
  have x1 := Blk.cell (Blk.below K1.out (below_step (below_step (below_step (below_step (below_step (below_step (below_step HBa2.out HBb2.out) HBa3.out) HBb3.out) HBc4.out) HBa4.out) HBa5.out) HBb5.out) K1.out.lt) 1
  have x2 := Blk.cell (Blk.below K1.out (below_step (below_step (below_step (below_step (below_step (below_step (below_step HBa2.out HBb2.out) HBa3.out) HBb3.out) HBc4.out) HBa4.out) HBa5.out) HBb5.out) K1.out.lt) 2
  have x3 := Blk.cell (Blk.below K1.out (below_step (below_step (below_step (below_step (below_step (below_step (below_step HBa2.out HBb2.out) HBa3.out) HBb3.out) HBc4.out) HBa4.out) HBa5.out) HBb5.out) K1.out.lt) 3
  have x4 := Blk.cell (Blk.below K1.out (below_step (below_step (below_step (below_step (below_step (below_step (below_step HBa2.out HBb2.out) HBa3.out) HBb3.out) HBc4.out) HBa4.out) HBa5.out) HBb5.out) K1.out.lt) 4
  simp only [List.getElem?_toArray, List.getElem?_cons_zero, List.getElem?_cons_succ] at x0 x1 x2 x3 x4
  have xl := Blk.lt (Blk.below K1.out (below_step (below_step (below_step (below_step (below_step (below_step (below_step HBa2.out HBb2.out) HBa3.out) HBb3.out) HBc4.out) HBa4.out) HBa5.out) HBb5.out) K1.out.lt)
  go_wp2_with fail
  clear x0 x1 x2 x3 x4 xl
  refine (H.get Al [c, b] 2 cl a.sum a.len _ zeroS [] 10 F.out.g2 (HL.out.up (below_step HBa5.out HBb5.out)) rfl (by simp) F.out.f2).mono ?_
  rintro e wa6 ⟨Az, nz, cz, rfl, hnz, _, hB⟩
  obtain rfl : 0 = nz := hnz
  have HBa6 := Lib.hid hB
  clear hB
  go_upto_region 7 with (fail)
  have hbk := Blk.new wa6 28 #[.int .u64 zeroS.sum, .int .i64 zeroS.len, .string zeroS.left, .string zeroS.right, .string zeroS.val]
  have hal : Below wa6.heap.size wa6 (wa6.alloc (.cells #[.int .u64 zeroS.sum, .int .i64 zeroS.len, .string zeroS.left, .string zeroS.right, .string zeroS.val] 28)) := (Below.refl _ _).alloc (Nat.le_refl _) _
  obtain ⟨wb6, hW⟩ : ∃ W, W = wa6.alloc (.cells #[.int .u64 zeroS.sum, .int .i64 zeroS.len, .string zeroS.left, .string zeroS.right, .string zeroS.val] 28) := ⟨_, rfl⟩
  obtain ⟨g10, hg⟩ : ∃ g, g = wa6.heap.size := ⟨_, rfl⟩
  rw [← hW] at hbk hal ⊢
  rw [← hg] at hbk ⊢
  have K10 := Lib.hid hbk
  have HBb6 := Lib.hid hal
  clear hbk hal hW hg
  have x0 := Blk.cell (Blk.below K1.out (below_step (below_step (below_step (below_step (below_step (below_step (below_step (below_step (below_step HBa2.out HBb2.out) HBa3.out) HBb3.out) HBc4.out) HBa4.out) HBa5.out) HBb5.out) HBa6.out) HBb6.out) K1.out.lt) 0
  have x1 := Blk.cell (Blk.below K1.out (below_step (below_step (below_step (below_step (below_step (below_step (below_step (below_step (below_step HBa2.out HBb2.out) HBa3.out) HBb3.out) HBc4.out) HBa4.out) HBa5.out) HBb5.out) HBa6.out) HBb6.out) K1.out.lt) 1
  have x2 := Blk.cell (Blk.below K1.out (below_step (below_step (below_step (below_step (below_step (below_step (below_step (below_step (below_step HBa2.out HBb2.out) HBa3.out) HBb3.out) HBc4.out) HBa4.out) HBa5.out) HBb5.out) HBa6.out) HBb6.out) K1.out.lt) 2
  have x3 := Blk.cell (Blk.below K1.out (below_step (below_step (below_step (below_step (below_step (below_step (below_step (below_step (below_step HBa2.out HBb2.out) HBa3.out) HBb3.out) HBc4.out) HBa4.out) HBa5.out) HBb5.out) HBa6.out) HBb6.out) K1.out.lt) 3
  have x4 := Blk.cell (Blk.below K1.out (below_step (below_step (below_step (below_step (below_step (below_step (below_step (below_step (below_step HBa2.out HBb2.out) HBa3.out) HBb3.out) HBc4.out) HBa4.out) HBa5.out) HBb5.out) HBa6.out) HBb6.out) K1.out.lt) 4
  simp only [List.getElem?_toArray, List.getElem?_cons_zero, List.getElem?_cons_succ] at x0 x1 x2 x3 x4
  have xl := Blk.lt (Blk.below K1.out (below_step (below_step (below_step (below_step (below_step (below_step (below_step (below_step (below_step HBa2.out HBb2.out) HBa3.out) HBb3.out) HBc4.out) HBa4.out) HBa5.out) HBb5.out) HBa6.out) HBb6.out) K1.out.lt)
  have z0 := Blk.cell (Blk.below K3.out (below_step (below_step (below_step (below_step (below_step HBc4.out HBa4.out) HBa5.out) HBb5.out) HBa6.out) HBb6.out) K3.out.lt) 0
  have z1 := Blk.cell (Blk.below K3.out (below_step (below_step (below_step (below_step (below_step HBc4.out HBa4.out) HBa5.out) HBb5.out) HBa6.out) HBb6.out) K3.out.lt) 1
  have z2 := Blk.cell (Blk.below K3.out (below_step (below_step (below_step (below_step (below_step HBc4.out HBa4.out) HBa5.out) HBb5.out) HBa6.out) HBb6.out) K3.out.lt) 2
  have z3 := Blk.cell (Blk.below K3.out (below_step (below_step (below_step (below_step (below_step HBc4.out HBa4.out) HBa5.out) HBb5.out) HBa6.out) HBb6.out) K3.out.lt) 3
  have z4 := Blk.cell (Blk.below K3.out (below_step (below_step (below_step (below_step (below_step HBc4.out HBa4.out) HBa5.out) HBb5.out) HBa6.out) HBb6.out) K3.out.lt) 4
  simp only [List.getElem?_toArray, List.getElem?_cons_zero, List.getElem?_cons_succ] at z0 z1 z2 z3 z4
  have zl := Blk.lt (Blk.below K3.out (below_step (below_step (below_step (below_step (below_step HBc4.out HBa4.out) HBa5.out) HBb5.out) HBa6.out) HBb6.out) K3.out.lt)
  go_wp2_with fail
  have hbk := Blk.new wb6 28 #[.int .u64 a.sum, .int .i64 a.len, .string a.left, .string a.right, .string a.val, .int .u64 a.sum, .int .i64 a.len, .string a.left, .string a.right, .string a.val]
  have hal : Below wb6.heap.size wb6 (wb6.alloc (.cells #[.int .u64 a.sum, .int .i64 a.len, .string a.left, .string a.right, .string a.val, .int .u64 a.sum, .int .i64 a.len, .string a.left, .string a.right, .string a.val] 28)) := (Below.refl _ _).alloc (Nat.le_refl _) _
  obtain ⟨wc7, hW⟩ : ∃ W, W = wb6.alloc (.cells #[.int .u64 a.sum, .int .i64 a.len, .string a.left, .string a.right, .string a.val, .int .u64 a.sum, .int .i64 a.len, .string a.left, .string a.right, .string a.val] 28) := ⟨_, rfl⟩
  obtain ⟨g11, hg⟩ : ∃ g, g = wb6.heap.size := ⟨_, rfl⟩
  rw [← hW] at hbk hal ⊢
  rw [← hg] at hbk ⊢
  have K11 := Lib.hid hbk
  have HBc7 := Lib.hid hal
  clear hbk hal hW hg
  clear x0 x1 x2 x3 x4 xl z0 z1 z2 z3 z4 zl
  refine (H.put _ [a, a] 2 2 2 c _ [] [] 1 F.out.p2 (SlotsAt.of_blk2 K11.out) rfl (by simp) F.out.f3 F.out.f4 (by omega) (by omega)).mono ?_
  rintro e wa7 ⟨Ap, Aq, np, nq, cp, cq, rfl, hnp, hnq, _, _, hB⟩
  obtain rfl : 0 = np := hnp
  obtain rfl : 0 = nq := hnq
  have HBa7 := Lib.hid hB
  clear hB
  go_wp2_with fail
  refine (H.keys Al [c, b] 2 cl _ (HL.out.up (below_step (below_step (below_step (below_step (below_step HBa5.out HBb5.out) HBa6.out) HBb6.out) HBc7.out) HBa7.out)) rfl (by simp)).mono ?_
  rintro e wa8 ⟨Ak, nk, ck, rfl, hnk, hK, hB⟩
  obtain rfl : 2 = nk := hnk
  have HKK := Lib.hid hK
  have HBa8 := Lib.hid hB
  clear hK hB
  obtain ⟨ak, rfl, hakl, q0, q1⟩ := keys_fields HKK.out (k := 0) (x := (c.sum, c.len)) rfl
  rw [Nat.zero_mul, show ak.add 0 = ak by simp [Addr.add]] at q0 q1
  have HK1 : Hid (∀ W, Below wa8.heap.size wa8 W → W.cell? ⟨g1, 0, none⟩ = some (.int .u64 a.sum) ∧ W.cell? ⟨g1, 1, none⟩ = some (.int .i64 a.len) ∧ W.cell? ⟨g1, 2, none⟩ = some (.string a.left) ∧ W.cell? ⟨g1, 3, none⟩ = some (.string a.right) ∧ W.cell? ⟨g1, 4, none⟩ = some (.string a.val)) := Lib.hid fun W hW => blk_cells (Blk.below K1.out (below_step (below_step (below_step (below_step (below_step (below_step (below_step (below_step (below_step (below_step (below_step (below_step HBa2.out HBb2.out) HBa3.out) HBb3.out) HBc4.out) HBa4.out) HBa5.out) HBb5.out) HBa6.out) HBb6.out) HBc7.out) HBa7.out) HBa8.out) K1.out.lt) hW
  have HK2 : Hid (∀ W, Below wa8.heap.size wa8 W → W.cell? ⟨g2, 0, none⟩ = some (.int .u64 b.sum) ∧ W.cell? ⟨g2, 1, none⟩ = some (.int .i64 b.len) ∧ W.cell? ⟨g2, 2, none⟩ = some (.string b.left) ∧ W.cell? ⟨g2, 3, none⟩ = some (.string b.right) ∧ W.cell? ⟨g2, 4, none⟩ = some (.string b.val)) := Lib.hid fun W hW => blk_cells (Blk.below K2.out (below_step (below_step (below_step (below_step (below_step (below_step (below_step (below_step (below_step (below_step HBa3.out HBb3.out) HBc4.out) HBa4.out) HBa5.out) HBb5.out) HBa6.out) HBb6.out) HBc7.out) HBa7.out) HBa8.out) K2.out.lt) hW
  have HK3 : Hid (∀ W, Below wa8.heap.size wa8 W → W.cell? ⟨g3, 0, none⟩ = some (.int .u64 c.sum) ∧ W.cell? ⟨g3, 1, none⟩ = some (.int .i64 c.len) ∧ W.cell? ⟨g3, 2, none⟩ = some (.string c.left) ∧ W.cell? ⟨g3, 3, none⟩ = some (.string c.right) ∧ W.cell? ⟨g3, 4, none⟩ = some (.string c.val)) := Lib.hid fun W hW => blk_cells (Blk.below K3.out (below_step (below_step (below_step (below_step (below_step (below_step (below_step (below_step HBc4.out HBa4.out) HBa5.out) HBb5.out) HBa6.out) HBb6.out) HBc7.out) HBa7.out) HBa8.out) K3.out.lt) hW
  have HK7 : Hid (∀ W, Below wa8.heap.size wa8 W → W.cell? ⟨g7, 0, none⟩ = some (.int .u64 b.sum) ∧ W.cell? ⟨g7, 1, none⟩ = some (.int .i64 b.len) ∧ W.cell? ⟨g7, 2, none⟩ = some (.string b.left) ∧ W.cell? ⟨g7, 3, none⟩ = some (.string b.right) ∧ W.cell? ⟨g7, 4, none⟩ = some (.string b.val)) := Lib.hid fun W hW => blk_cells (Blk.below K7.out (below_step (below_step (below_step (below_step HBa6.out HBb6.out) HBc7.out) HBa7.out) HBa8.out) K7.out.lt) hW
  have JHL := Lib.hid (HL.out.up (below_step (below_step (below_step (below_step (below_step (below_step HBa5.out HBb5.out) HBa6.out) HBb6.out) HBc7.out) HBa7.out) HBa8.out))
  have JHO := Lib.hid (HO.out.up (below_step (below_step (below_step (below_step (below_step (below_step HBa5.out HBb5.out) HBa6.out) HBb6.out) HBc7.out) HBa7.out) HBa8.out))
  have JHM := Lib.hid (HM.out.up (below_step (below_step (below_step (below_step (below_step HBb5.out HBa6.out) HBb6.out) HBc7.out) HBa7.out) HBa8.out))
  have JB := Lib.hid (below_step (below_step (below_step (below_step (below_step (below_step (below_step (below_step (below_step (below_step (below_step (below_step (below_step (below_step HBa1.out HBb1.out) HBa2.out) HBb2.out) HBa3.out) HBb3.out) HBc4.out) HBa4.out) HBa5.out) HBb5.out) HBa6.out) HBb6.out) HBc7.out) HBa7.out) HBa8.out)
  have JK : Hid (∀ W, Below wa8.heap.size wa8 W → W.cell? ak = some (.int .u64 c.sum) ∧ W.cell? ⟨ak.block, ak.off + 1, none⟩ = some (.int .i64 c.len)) := Lib.hid fun W hW => ⟨(hW.cell hakl).trans q0, (hW.cell (p := ⟨_, _, none⟩) hakl).trans q1⟩
  clear q0 q1
  go_wp2_with fail
  refine wp_region_noPanic ?_
  refine wp_region_held_drew (S := fun W => Below wa8.heap.size wa8 W) (by kernel_rfl) ((Below.refl wa8.heap.size wa8).drew) (fun hS0 => ?_)
  change wpAnyH _ _ _ _ _ 64 #[false, false, false, false, false, false, false, false, false, false, false, false, false, false, false, false, false, false, false, false, false, false, false, false, false, false, false, false, false, false, false, false, false, false, false, false, false, false, false, false, false, false, false, false, false, false, false, false, false, false, false, false, false, false, false, false, false, false, false, false, false, false, false, false] _ (World.drew _)
  refine wpAnyH_take (i := 0) (v := .int .i64 0) rfl (by kernel_rfl) (by kernel_rfl) (by kernel_rfl) (fun _ _ _ h => h) (Or.inl ⟨by rfl, fun w' hS' => by exact op_move rfl rfl⟩) hS0 ?_
  change wpAnyH _ _ _ _ _ _ _ (Act.put _ (some 56) (.int .i64 0)) _
  simp only [Act.put, List.setIfInBounds_toArray, List.set_cons_zero, List.set_cons_succ]
  refine wpAnyH_take (i := 1) (v := .bool true) rfl (by kernel_rfl) (by kernel_rfl) (by kernel_rfl) (fun _ _ _ h => h) (Or.inl ⟨by rfl, fun w' hS' => by go_simp⟩) hS0 ?_
  change wpAnyH _ _ _ _ _ _ _ (Act.put _ (some 57) (.bool true)) _
  simp only [Act.put, List.setIfInBounds_toArray, List.set_cons_zero, List.set_cons_succ]
  refine wpAnyH_take (i := 2) (v := .bool true) rfl (by kernel_rfl) (by kernel_rfl) (by kernel_rfl) (fun _ _ _ h => h) (Or.inl ⟨by rfl, fun w' hS' => by exact op_move rfl rfl⟩) hS0 ?_
  change wpAnyH _ _ _ _ _ _ _ (Act.put _ (some 58) (.bool true)) _
  simp only [Act.put, List.setIfInBounds_toArray, List.set_cons_zero, List.set_cons_succ]
  refine wpAnyH_take (i := 3) (v := .slice Al 2 cl) rfl (by kernel_rfl) (by kernel_rfl) (by kernel_rfl) (fun _ _ _ h => h) (Or.inl ⟨by rfl, fun w' hS' => by exact op_move rfl rfl⟩) hS0 ?_
  change wpAnyH _ _ _ _ _ _ _ (Act.put _ (some 59) (.slice Al 2 cl)) _
  simp only [Act.put, List.setIfInBounds_toArray, List.set_cons_zero, List.set_cons_succ]
  refine wpAnyH_take (i := 4) (v := .agg #[.int .u64 c.sum, .int .i64 c.len, .string c.left, .string c.right, .string c.val]) rfl (by kernel_rfl) (by kernel_rfl) (by kernel_rfl) (fun _ _ _ h => h) (Or.inl ⟨by rfl, fun w' hS' => by obtain ⟨y0, y1, y2, y3, y4⟩ := HK3.out _ hS'; go_simp⟩) hS0 ?_
  change wpAnyH _ _ _ _ _ _ _ (Act.put _ (some 60) (.agg #[.int .u64 c.sum, .int .i64 c.len, .string c.left, .string c.right, .string c.val])) _
  simp only [Act.put, List.setIfInBounds_toArray, List.set_cons_zero, List.set_cons_succ]
  refine wpAnyH_take (i := 5) (v := .agg #[.int .u64 b.sum, .int .i64 b.len, .string b.left, .string b.right, .string b.val]) rfl (by kernel_rfl) (by kernel_rfl) (by kernel_rfl) (fun _ _ _ h => h) (Or.inl ⟨by rfl, fun w' hS' => by obtain ⟨y0, y1, y2, y3, y4⟩ := HK2.out _ hS'; go_simp⟩) hS0 ?_
  change wpAnyH _ _ _ _ _ _ _ (Act.put _ (some 61) (.agg #[.int .u64 b.sum, .int .i64 b.len, .string b.left, .string b.right, .string b.val])) _
  simp only [Act.put, List.setIfInBounds_toArray, List.set_cons_zero, List.set_cons_succ]
  refine wpAnyH_ready (rs := [6]) (by kernel_rfl) (by simp) (AllReadyH.cons rfl (fun K hK => ?_) (AllReadyH.nil))
  · skip
    obtain ⟨g2, W1, hr5, ho4⟩ := op_slice2 c b wa8.drew
    refine step_op_run_w (hr5 _ _ _ _ rfl rfl rfl) (by rfl) ?_
    refine hK.out _ _ (hS0.trans (ho4.2.mono hS0.size)) (fun hS3 => ?_)
    clear hK K
    change wpAnyH _ _ _ _ _ _ _ (Act.put _ (some 62) (.slice (some ⟨g2, 0, none⟩) 2 2)) _
    simp only [Act.put, List.setIfInBounds_toArray, List.set_cons_zero, List.set_cons_succ]
    refine wpAnyH_ready (rs := [7]) (by kernel_rfl) (by simp) (AllReadyH.cons rfl (fun K hK => ?_) (AllReadyH.nil))
    · skip
      go_simp
      refine (same_true Al _ [c, b] 2 2 cl 2 _ (JHL.out.up hS3) (OwnR.at_ sl_len ho4 rfl) rfl rfl (by simp)).mono ?_
      rintro e W6 ⟨rfl, q8, hw9⟩
      have hw9b : Below W1.heap.size W1 W6 := by rw [hw9]; exact below_drewN (Below.refl _ _) _
      clear hw9
      refine hK.out _ _ (hS3.trans (hw9b.mono hS3.size)) (fun hS7 => ?_)
      clear hK K
      simp only [List.setIfInBounds_toArray, List.set_cons_zero, List.set_cons_succ]
      refine wpAnyH_take (i := 8) (v := .bool true) rfl (by kernel_rfl) (by kernel_rfl) (by kernel_rfl) (fun _ _ _ h => h) (Or.inl ⟨by rfl, fun w' hS' => by go_simp⟩) hS7 ?_
      change wpAnyH _ _ _ _ _ _ _ (Act.put _ (some 64) (.bool true)) _
      simp only [Act.put, List.setIfInBounds_toArray, List.set_cons_zero, List.set_cons_succ]
      refine wpAnyH_take (i := 9) (v := .bool true) rfl (by kernel_rfl) (by kernel_rfl) (by kernel_rfl) (fun _ _ _ h => h) (Or.inl ⟨by rfl, fun w' hS' => by exact op_move rfl rfl⟩) hS7 ?_
      change wpAnyH _ _ _ _ _ _ _ (Act.put _ (some 65) (.bool true)) _
      simp only [Act.put, List.setIfInBounds_toArray, List.set_cons_zero, List.set_cons_succ]
      refine wpAnyH_take (i := 10) (v := .slice Ao 1 co) rfl (by kernel_rfl) (by kernel_rfl) (by kernel_rfl) (fun _ _ _ h => h) (Or.inl ⟨by rfl, fun w' hS' => by exact op_move rfl rfl⟩) hS7 ?_
      change wpAnyH _ _ _ _ _ _ _ (Act.put _ (some 66) (.slice Ao 1 co)) _
      simp only [Act.put, List.setIfInBounds_toArray, List.set_cons_zero, List.set_cons_succ]
      refine wpAnyH_take (i := 11) (v := .agg #[.int .u64 a.sum, .int .i64 a.len, .string a.left, .string a.right, .string a.val]) rfl (by kernel_rfl) (by kernel_rfl) (by kernel_rfl) (fun _ _ _ h => h) (Or.inl ⟨by rfl, fun w' hS' => by obtain ⟨y0, y1, y2, y3, y4⟩ := HK1.out _ hS'; go_simp⟩) hS7 ?_
      change wpAnyH _ _ _ _ _ _ _ (Act.put _ (some 67) (.agg #[.int .u64 a.sum, .int .i64 a.len, .string a.left, .string a.right, .string a.val])) _
      simp only [Act.put, List.setIfInBounds_toArray, List.set_cons_zero, List.set_cons_succ]
      refine wpAnyH_ready (rs := [12]) (by kernel_rfl) (by simp) (AllReadyH.cons rfl (fun K hK => ?_) (AllReadyH.nil))
      · skip
        obtain ⟨g11, W10, hr14, ho13⟩ := op_slice1 a W6
        refine step_op_run_w (hr14 _ _ _ rfl rfl) (by rfl) ?_
        refine hK.out _ _ (hS7.trans (ho13.2.mono hS7.size)) (fun hS12 => ?_)
        clear hK K
        change wpAnyH _ _ _ _ _ _ _ (Act.put _ (some 68) (.slice (some ⟨g11, 0, none⟩) 1 1)) _
        simp only [Act.put, List.setIfInBounds_toArray, List.set_cons_zero, List.set_cons_succ]
        refine wpAnyH_ready (rs := [13]) (by kernel_rfl) (by simp) (AllReadyH.cons rfl (fun K hK => ?_) (AllReadyH.nil))
        · skip
          go_simp
          refine (same_true Ao _ [a] 1 1 co 1 _ (JHO.out.up hS12) (OwnR.at_ sl_len ho13 rfl) rfl rfl (by simp)).mono ?_
          rintro e W15 ⟨rfl, q17, hw18⟩
          have hw18b : Below W10.heap.size W10 W15 := by rw [hw18]; exact below_drewN (Below.refl _ _) _
          clear hw18
          refine hK.out _ _ (hS12.trans (hw18b.mono hS12.size)) (fun hS16 => ?_)
          clear hK K
          simp only [List.setIfInBounds_toArray, List.set_cons_zero, List.set_cons_succ]
          refine wpAnyH_take (i := 14) (v := .bool true) rfl (by kernel_rfl) (by kernel_rfl) (by kernel_rfl) (fun _ _ _ h => h) (Or.inl ⟨by rfl, fun w' hS' => by go_simp⟩) hS16 ?_
          change wpAnyH _ _ _ _ _ _ _ (Act.put _ (some 70) (.bool true)) _
          simp only [Act.put, List.setIfInBounds_toArray, List.set_cons_zero, List.set_cons_succ]
          refine wpAnyH_take (i := 15) (v := .bool true) rfl (by kernel_rfl) (by kernel_rfl) (by kernel_rfl) (fun _ _ _ h => h) (Or.inl ⟨by rfl, fun w' hS' => by exact op_move rfl rfl⟩) hS16 ?_
          change wpAnyH _ _ _ _ _ _ _ (Act.put _ (some 71) (.bool true)) _
          simp only [Act.put, List.setIfInBounds_toArray, List.set_cons_zero, List.set_cons_succ]
          refine wpAnyH_take (i := 16) (v := .int .i64 0) rfl (by kernel_rfl) (by kernel_rfl) (by kernel_rfl) (fun _ _ _ h => h) (Or.inl ⟨by rfl, fun w' hS' => by exact op_move rfl rfl⟩) hS16 ?_
          change wpAnyH _ _ _ _ _ _ _ (Act.put _ (some 72) (.int .i64 0)) _
          simp only [Act.put, List.setIfInBounds_toArray, List.set_cons_zero, List.set_cons_succ]
          refine wpAnyH_take (i := 17) (v := .bool true) rfl (by kernel_rfl) (by kernel_rfl) (by kernel_rfl) (fun _ _ _ h => h) (Or.inl ⟨by rfl, fun w' hS' => by go_simp⟩) hS16 ?_
          change wpAnyH _ _ _ _ _ _ _ (Act.put _ (some 73) (.bool true)) _
          simp only [Act.put, List.setIfInBounds_toArray, List.set_cons_zero, List.set_cons_succ]
          refine wpAnyH_take (i := 18) (v := .bool true) rfl (by kernel_rfl) (by kernel_rfl) (by kernel_rfl) (fun _ _ _ h => h) (Or.inl ⟨by rfl, fun w' hS' => by go_simp⟩) hS16 ?_
          change wpAnyH _ _ _ _ _ _ _ (Act.put _ (some 74) (.bool true)) _
          simp only [Act.put, List.setIfInBounds_toArray, List.set_cons_zero, List.set_cons_succ]
          refine wpAnyH_take (i := 19) (v := .bool true) rfl (by kernel_rfl) (by kernel_rfl) (by kernel_rfl) (fun _ _ _ h => h) (Or.inl ⟨by rfl, fun w' hS' => by exact op_move rfl rfl⟩) hS16 ?_
          change wpAnyH _ _ _ _ _ _ _ (Act.put _ (some 75) (.bool true)) _
          simp only [Act.put, List.setIfInBounds_toArray, List.set_cons_zero, List.set_cons_succ]
          refine wpAnyH_take (i := 20) (v := .agg #[.int .u64 b.sum, .int .i64 b.len, .string b.left, .string b.right, .string b.val]) rfl (by kernel_rfl) (by kernel_rfl) (by kernel_rfl) (fun _ _ _ h => h) (Or.inl ⟨by rfl, fun w' hS' => by obtain ⟨y0, y1, y2, y3, y4⟩ := HK7.out _ hS'; go_simp⟩) hS16 ?_
          change wpAnyH _ _ _ _ _ _ _ (Act.put _ (some 76) (.agg #[.int .u64 b.sum, .int .i64 b.len, .string b.left, .string b.right, .string b.val])) _
          simp only [Act.put, List.setIfInBounds_toArray, List.set_cons_zero, List.set_cons_succ]
          refine wpAnyH_take (i := 21) (v := .agg #[.int .u64 b.sum, .int .i64 b.len, .string b.left, .string b.right, .string b.val]) rfl (by kernel_rfl) (by kernel_rfl) (by kernel_rfl) (fun _ _ _ h => h) (Or.inl ⟨by rfl, fun w' hS' => by obtain ⟨y0, y1, y2, y3, y4⟩ := HK2.out _ hS'; go_simp⟩) hS16 ?_
          change wpAnyH _ _ _ _ _ _ _ (Act.put _ (some 77) (.agg #[.int .u64 b.sum, .int .i64 b.len, .string b.left, .string b.right, .string b.val])) _
          simp only [Act.put, List.setIfInBounds_toArray, List.set_cons_zero, List.set_cons_succ]
          refine wpAnyH_take (i := 22) (v := .bool true) rfl (by kernel_rfl) (by kernel_rfl) (by kernel_rfl) (fun _ _ _ h => h) (Or.inl ⟨by rfl, fun w' hS' => by go_simp⟩) hS16 ?_
          change wpAnyH _ _ _ _ _ _ _ (Act.put _ (some 78) (.bool true)) _
          simp only [Act.put, List.setIfInBounds_toArray, List.set_cons_zero, List.set_cons_succ]
          refine wpAnyH_take (i := 23) (v := .bool true) rfl (by kernel_rfl) (by kernel_rfl) (by kernel_rfl) (fun _ _ _ h => h) (Or.inl ⟨by rfl, fun w' hS' => by go_simp⟩) hS16 ?_
          change wpAnyH _ _ _ _ _ _ _ (Act.put _ (some 79) (.bool true)) _
          simp only [Act.put, List.setIfInBounds_toArray, List.set_cons_zero, List.set_cons_succ]
          refine wpAnyH_take (i := 24) (v := .bool true) rfl (by kernel_rfl) (by kernel_rfl) (by kernel_rfl) (fun _ _ _ h => h) (Or.inl ⟨by rfl, fun w' hS' => by exact op_move rfl rfl⟩) hS16 ?_
          change wpAnyH _ _ _ _ _ _ _ (Act.put _ (some 80) (.bool true)) _
          simp only [Act.put, List.setIfInBounds_toArray, List.set_cons_zero, List.set_cons_succ]
          refine wpAnyH_take (i := 25) (v := .slice Am 2 cm) rfl (by kernel_rfl) (by kernel_rfl) (by kernel_rfl) (fun _ _ _ h => h) (Or.inl ⟨by rfl, fun w' hS' => by exact op_move rfl rfl⟩) hS16 ?_
          change wpAnyH _ _ _ _ _ _ _ (Act.put _ (some 81) (.slice Am 2 cm)) _
          simp only [Act.put, List.setIfInBounds_toArray, List.set_cons_zero, List.set_cons_succ]
          refine wpAnyH_take (i := 26) (v := .agg #[.int .u64 b.sum, .int .i64 b.len, .string b.left, .string b.right, .string b.val]) rfl (by kernel_rfl) (by kernel_rfl) (by kernel_rfl) (fun _ _ _ h => h) (Or.inl ⟨by rfl, fun w' hS' => by obtain ⟨y0, y1, y2, y3, y4⟩ := HK2.out _ hS'; go_simp⟩) hS16 ?_
          change wpAnyH _ _ _ _ _ _ _ (Act.put _ (some 82) (.agg #[.int .u64 b.sum, .int .i64 b.len, .string b.left, .string b.right, .string b.val])) _
          simp only [Act.put, List.setIfInBounds_toArray, List.set_cons_zero, List.set_cons_succ]
          refine wpAnyH_take (i := 27) (v := .agg #[.int .u64 c.sum, .int .i64 c.len, .string c.left, .string c.right, .string c.val]) rfl (by kernel_rfl) (by kernel_rfl) (by kernel_rfl) (fun _ _ _ h => h) (Or.inl ⟨by rfl, fun w' hS' => by obtain ⟨y0, y1, y2, y3, y4⟩ := HK3.out _ hS'; go_simp⟩) hS16 ?_
          change wpAnyH _ _ _ _ _ _ _ (Act.put _ (some 83) (.agg #[.int .u64 c.sum, .int .i64 c.len, .string c.left, .string c.right, .string c.val])) _
          simp only [Act.put, List.setIfInBounds_toArray, List.set_cons_zero, List.set_cons_succ]
          refine wpAnyH_ready (rs := [28]) (by kernel_rfl) (by simp) (AllReadyH.cons rfl (fun K hK => ?_) (AllReadyH.nil))
          · skip
            obtain ⟨g20, W19, hr23, ho22⟩ := op_slice2 b c W15
            refine step_op_run_w (hr23 _ _ _ _ rfl rfl rfl) (by rfl) ?_
            refine hK.out _ _ (hS16.trans (ho22.2.mono hS16.size)) (fun hS21 => ?_)
            clear hK K
            change wpAnyH _ _ _ _ _ _ _ (Act.put _ (some 84) (.slice (some ⟨g20, 0, none⟩) 2 2)) _
            simp only [Act.put, List.setIfInBounds_toArray, List.set_cons_zero, List.set_cons_succ]
            refine wpAnyH_ready (rs := [29]) (by kernel_rfl) (by simp) (AllReadyH.cons rfl (fun K hK => ?_) (AllReadyH.nil))
            · skip
              go_simp
              refine (same_true Am _ [b, c] 2 2 cm 2 _ (JHM.out.up hS21) (OwnR.at_ sl_len ho22 rfl) rfl rfl (by simp)).mono ?_
              rintro e W24 ⟨rfl, q26, hw27⟩
              have hw27b : Below W19.heap.size W19 W24 := by rw [hw27]; exact below_drewN (Below.refl _ _) _
              clear hw27
              refine hK.out _ _ (hS21.trans (hw27b.mono hS21.size)) (fun hS25 => ?_)
              clear hK K
              simp only [List.setIfInBounds_toArray, List.set_cons_zero, List.set_cons_succ]
              refine wpAnyH_take (i := 30) (v := .bool true) rfl (by kernel_rfl) (by kernel_rfl) (by kernel_rfl) (fun _ _ _ h => h) (Or.inl ⟨by rfl, fun w' hS' => by go_simp⟩) hS25 ?_
              change wpAnyH _ _ _ _ _ _ _ (Act.put _ (some 86) (.bool true)) _
              simp only [Act.put, List.setIfInBounds_toArray, List.set_cons_zero, List.set_cons_succ]
              refine wpAnyH_take (i := 31) (v := .bool true) rfl (by kernel_rfl) (by kernel_rfl) (by kernel_rfl) (fun _ _ _ h => h) (Or.inl ⟨by rfl, fun w' hS' => by exact op_move rfl rfl⟩) hS25 ?_
              change wpAnyH _ _ _ _ _ _ _ (Act.put _ (some 87) (.bool true)) _
              simp only [Act.put, List.setIfInBounds_toArray, List.set_cons_zero, List.set_cons_succ]
              refine wpAnyH_take (i := 32) (v := .int .i64 10) rfl (by kernel_rfl) (by kernel_rfl) (by kernel_rfl) (fun _ _ _ h => h) (Or.inl ⟨by rfl, fun w' hS' => by exact op_move rfl rfl⟩) hS25 ?_
              change wpAnyH _ _ _ _ _ _ _ (Act.put _ (some 88) (.int .i64 10)) _
              simp only [Act.put, List.setIfInBounds_toArray, List.set_cons_zero, List.set_cons_succ]
              refine wpAnyH_take (i := 33) (v := .bool true) rfl (by kernel_rfl) (by kernel_rfl) (by kernel_rfl) (fun _ _ _ h => h) (Or.inl ⟨by rfl, fun w' hS' => by go_simp⟩) hS25 ?_
              change wpAnyH _ _ _ _ _ _ _ (Act.put _ (some 89) (.bool true)) _
              simp only [Act.put, List.setIfInBounds_toArray, List.set_cons_zero, List.set_cons_succ]
              refine wpAnyH_take (i := 34) (v := .bool true) rfl (by kernel_rfl) (by kernel_rfl) (by kernel_rfl) (fun _ _ _ h => h) (Or.inl ⟨by rfl, fun w' hS' => by go_simp⟩) hS25 ?_
              change wpAnyH _ _ _ _ _ _ _ (Act.put _ (some 90) (.bool true)) _
              simp only [Act.put, List.setIfInBounds_toArray, List.set_cons_zero, List.set_cons_succ]
              refine wpAnyH_take (i := 35) (v := .bool true) rfl (by kernel_rfl) (by kernel_rfl) (by kernel_rfl) (fun _ _ _ h => h) (Or.inl ⟨by rfl, fun w' hS' => by exact op_move rfl rfl⟩) hS25 ?_
              change wpAnyH _ _ _ _ _ _ _ (Act.put _ (some 91) (.bool true)) _
              simp only [Act.put, List.setIfInBounds_toArray, List.set_cons_zero, List.set_cons_succ]
              refine wpAnyH_take (i := 36) (v := .int .i64 1) rfl (by kernel_rfl) (by kernel_rfl) (by kernel_rfl) (fun _ _ _ h => h) (Or.inl ⟨by rfl, fun w' hS' => by exact op_move rfl rfl⟩) hS25 ?_
              change wpAnyH _ _ _ _ _ _ _ (Act.put _ (some 92) (.int .i64 1)) _
              simp only [Act.put, List.setIfInBounds_toArray, List.set_cons_zero, List.set_cons_succ]
              refine wpAnyH_take (i := 37) (v := .bool true) rfl (by kernel_rfl) (by kernel_rfl) (by kernel_rfl) (fun _ _ _ h => h) (Or.inl ⟨by rfl, fun w' hS' => by go_simp⟩) hS25 ?_
              change wpAnyH _ _ _ _ _ _ _ (Act.put _ (some 93) (.bool true)) _
              simp only [Act.put, List.setIfInBounds_toArray, List.set_cons_zero, List.set_cons_succ]
              refine wpAnyH_take (i := 38) (v := .bool true) rfl (by kernel_rfl) (by kernel_rfl) (by kernel_rfl) (fun _ _ _ h => h) (Or.inl ⟨by rfl, fun w' hS' => by go_simp⟩) hS25 ?_
              change wpAnyH _ _ _ _ _ _ _ (Act.put _ (some 94) (.bool true)) _
              simp only [Act.put, List.setIfInBounds_toArray, List.set_cons_zero, List.set_cons_succ]
              refine wpAnyH_take (i := 39) (v := .bool true) rfl (by kernel_rfl) (by kernel_rfl) (by kernel_rfl) (fun _ _ _ h => h) (Or.inl ⟨by rfl, fun w' hS' => by exact op_move rfl rfl⟩) hS25 ?_
              change wpAnyH _ _ _ _ _ _ _ (Act.put _ (some 95) (.bool true)) _
              simp only [Act.put, List.setIfInBounds_toArray, List.set_cons_zero, List.set_cons_succ]
              refine wpAnyH_take (i := 40) (v := .slice Al 2 cl) rfl (by kernel_rfl) (by kernel_rfl) (by kernel_rfl) (fun _ _ _ h => h) (Or.inl ⟨by rfl, fun w' hS' => by exact op_move rfl rfl⟩) hS25 ?_
              change wpAnyH _ _ _ _ _ _ _ (Act.put _ (some 96) (.slice Al 2 cl)) _
              simp only [Act.put, List.setIfInBounds_toArray, List.set_cons_zero, List.set_cons_succ]
              refine wpAnyH_ready (rs := [41]) (by kernel_rfl) (by simp) (AllReadyH.cons rfl (fun K hK => ?_) (AllReadyH.nil))
              · skip
                go_simp
                refine (H.right _ [c, b] 2 cl _ true F.out.r1 (JHL.out.up hS25) rfl (by simp) F.out.f2).mono ?_
                rintro e W28 ⟨rfl, hB30⟩
                refine hK.out _ _ (hS25.trans (hB30.mono hS25.size)) (fun hS29 => ?_)
                clear hK K
                simp only [List.setIfInBounds_toArray, List.set_cons_zero, List.set_cons_succ]
                refine wpAnyH_take (i := 42) (v := .bool true) rfl (by kernel_rfl) (by kernel_rfl) (by kernel_rfl) (fun _ _ _ h => h) (Or.inl ⟨by rfl, fun w' hS' => by go_simp⟩) hS29 ?_
                change wpAnyH _ _ _ _ _ _ _ (Act.put _ (some 98) (.bool true)) _
                simp only [Act.put, List.setIfInBounds_toArray, List.set_cons_zero, List.set_cons_succ]
                refine wpAnyH_take (i := 43) (v := .bool true) rfl (by kernel_rfl) (by kernel_rfl) (by kernel_rfl) (fun _ _ _ h => h) (Or.inl ⟨by rfl, fun w' hS' => by exact op_move rfl rfl⟩) hS29 ?_
                change wpAnyH _ _ _ _ _ _ _ (Act.put _ (some 99) (.bool true)) _
                simp only [Act.put, List.setIfInBounds_toArray, List.set_cons_zero, List.set_cons_succ]
                refine wpAnyH_take (i := 44) (v := .agg #[.int .u64 a.sum, .int .i64 a.len, .string a.left, .string a.right, .string a.val]) rfl (by kernel_rfl) (by kernel_rfl) (by kernel_rfl) (fun _ _ _ h => h) (Or.inl ⟨by rfl, fun w' hS' => by obtain ⟨y0, y1, y2, y3, y4⟩ := HK1.out _ hS'; go_simp⟩) hS29 ?_
                change wpAnyH _ _ _ _ _ _ _ (Act.put _ (some 100) (.agg #[.int .u64 a.sum, .int .i64 a.len, .string a.left, .string a.right, .string a.val])) _
                simp only [Act.put, List.setIfInBounds_toArray, List.set_cons_zero, List.set_cons_succ]
                refine wpAnyH_take (i := 45) (v := .agg #[.int .u64 a.sum, .int .i64 a.len, .string a.left, .string a.right, .string a.val]) rfl (by kernel_rfl) (by kernel_rfl) (by kernel_rfl) (fun _ _ _ h => h) (Or.inl ⟨by rfl, fun w' hS' => by obtain ⟨y0, y1, y2, y3, y4⟩ := HK1.out _ hS'; go_simp⟩) hS29 ?_
                change wpAnyH _ _ _ _ _ _ _ (Act.put _ (some 101) (.agg #[.int .u64 a.sum, .int .i64 a.len, .string a.left, .string a.right, .string a.val])) _
                simp only [Act.put, List.setIfInBounds_toArray, List.set_cons_zero, List.set_cons_succ]
                refine wpAnyH_ready (rs := [46]) (by kernel_rfl) (by simp) (AllReadyH.cons rfl (fun K hK => ?_) (AllReadyH.nil))
                · skip
                  obtain ⟨g32, W31, hr35, ho34⟩ := op_slice2 a a W28
                  refine step_op_run_w (hr35 _ _ _ _ rfl rfl rfl) (by rfl) ?_
                  refine hK.out _ _ (hS29.trans (ho34.2.mono hS29.size)) (fun hS33 => ?_)
                  clear hK K
                  change wpAnyH _ _ _ _ _ _ _ (Act.put _ (some 102) (.slice (some ⟨g32, 0, none⟩) 2 2)) _
                  simp only [Act.put, List.setIfInBounds_toArray, List.set_cons_zero, List.set_cons_succ]
                  refine wpAnyH_ready (rs := [47]) (by kernel_rfl) (by simp) (AllReadyH.cons rfl (fun K hK => ?_) (AllReadyH.nil))
                  · skip
                    go_simp
                    refine (H.right _ [a, a] 2 2 _ false F.out.r2 (OwnR.at_ sl_len ho34 rfl) rfl (by simp) F.out.f3).mono ?_
                    rintro e W36 ⟨rfl, hB38⟩
                    refine hK.out _ _ (hS33.trans (hB38.mono hS33.size)) (fun hS37 => ?_)
                    clear hK K
                    simp only [List.setIfInBounds_toArray, List.set_cons_zero, List.set_cons_succ]
                    refine wpAnyH_take (i := 48) (v := .bool true) rfl (by kernel_rfl) (by kernel_rfl) (by kernel_rfl) (fun _ _ _ h => h) (Or.inl ⟨by rfl, fun w' hS' => by go_simp⟩) hS37 ?_
                    change wpAnyH _ _ _ _ _ _ _ (Act.put _ (some 104) (.bool true)) _
                    simp only [Act.put, List.setIfInBounds_toArray, List.set_cons_zero, List.set_cons_succ]
                    refine wpAnyH_take (i := 49) (v := .bool true) rfl (by kernel_rfl) (by kernel_rfl) (by kernel_rfl) (fun _ _ _ h => h) (Or.inl ⟨by rfl, fun w' hS' => by go_simp⟩) hS37 ?_
                    change wpAnyH _ _ _ _ _ _ _ (Act.put _ (some 105) (.bool true)) _
                    simp only [Act.put, List.setIfInBounds_toArray, List.set_cons_zero, List.set_cons_succ]
                    refine wpAnyH_take (i := 50) (v := .bool true) rfl (by kernel_rfl) (by kernel_rfl) (by kernel_rfl) (fun _ _ _ h => h) (Or.inl ⟨by rfl, fun w' hS' => by exact op_move rfl rfl⟩) hS37 ?_
                    change wpAnyH _ _ _ _ _ _ _ (Act.put _ (some 106) (.bool true)) _
                    simp only [Act.put, List.setIfInBounds_toArray, List.set_cons_zero, List.set_cons_succ]
                    refine wpAnyH_take (i := 51) (v := .slice (some ak) 2 ck) rfl (by kernel_rfl) (by kernel_rfl) (by kernel_rfl) (fun _ _ _ h => h) (Or.inl ⟨by rfl, fun w' hS' => by exact op_move rfl rfl⟩) hS37 ?_
                    change wpAnyH _ _ _ _ _ _ _ (Act.put _ (some 107) (.slice (some ak) 2 ck)) _
                    simp only [Act.put, List.setIfInBounds_toArray, List.set_cons_zero, List.set_cons_succ]
                    refine wpAnyH_take (i := 52) (v := .int .i64 2) rfl (by kernel_rfl) (by kernel_rfl) (by kernel_rfl) (fun _ _ _ h => h) (Or.inl ⟨by rfl, fun w' hS' => by go_simp⟩) hS37 ?_
                    change wpAnyH _ _ _ _ _ _ _ (Act.put _ (some 108) (.int .i64 2)) _
                    simp only [Act.put, List.setIfInBounds_toArray, List.set_cons_zero, List.set_cons_succ]
                    refine wpAnyH_take (i := 53) (v := .bool true) rfl (by kernel_rfl) (by kernel_rfl) (by kernel_rfl) (fun _ _ _ h => h) (Or.inl ⟨by rfl, fun w' hS' => by go_simp⟩) hS37 ?_
                    change wpAnyH _ _ _ _ _ _ _ (Act.put _ (some 109) (.bool true)) _
                    simp only [Act.put, List.setIfInBounds_toArray, List.set_cons_zero, List.set_cons_succ]
                    refine wpAnyH_take (i := 54) (v := .bool true) rfl (by kernel_rfl) (by kernel_rfl) (by kernel_rfl) (fun _ _ _ h => h) (Or.inl ⟨by rfl, fun w' hS' => by go_simp⟩) hS37 ?_
                    change wpAnyH _ _ _ _ _ _ _ (Act.put _ (some 110) (.bool true)) _
                    simp only [Act.put, List.setIfInBounds_toArray, List.set_cons_zero, List.set_cons_succ]
                    refine wpAnyH_take (i := 55) (v := .bool true) rfl (by kernel_rfl) (by kernel_rfl) (by kernel_rfl) (fun _ _ _ h => h) (Or.inl ⟨by rfl, fun w' hS' => by exact op_move rfl rfl⟩) hS37 ?_
                    change wpAnyH _ _ _ _ _ _ _ (Act.put _ (some 111) (.bool true)) _
                    simp only [Act.put, List.setIfInBounds_toArray, List.set_cons_zero, List.set_cons_succ]
                    refine wpAnyH_take (i := 56) (v := .slice (some ak) 2 ck) rfl (by kernel_rfl) (by kernel_rfl) (by kernel_rfl) (fun _ _ _ h => h) (Or.inl ⟨by rfl, fun w' hS' => by exact op_move rfl rfl⟩) hS37 ?_
                    change wpAnyH _ _ _ _ _ _ _ (Act.put _ (some 112) (.slice (some ak) 2 ck)) _
                    simp only [Act.put, List.setIfInBounds_toArray, List.set_cons_zero, List.set_cons_succ]
                    refine wpAnyH_take (i := 57) (v := .pointer (some ak)) rfl (by kernel_rfl) (by kernel_rfl) (by kernel_rfl) (fun _ _ _ h => h) (Or.inl ⟨by rfl, fun w' hS' => by go_simp⟩) hS37 ?_
                    change wpAnyH _ _ _ _ _ _ _ (Act.put _ (some 113) (.pointer (some ak))) _
                    simp only [Act.put, List.setIfInBounds_toArray, List.set_cons_zero, List.set_cons_succ]
                    refine wpAnyH_take (i := 58) (v := .agg #[.int .u64 c.sum, .int .i64 c.len]) rfl (by kernel_rfl) (by kernel_rfl) (by kernel_rfl) (fun _ _ _ h => h) (Or.inl ⟨by rfl, fun w' hS' => by obtain ⟨y0, y1⟩ := JK.out _ hS'; go_simp⟩) hS37 ?_
                    change wpAnyH _ _ _ _ _ _ _ (Act.put _ (some 114) (.agg #[.int .u64 c.sum, .int .i64 c.len])) _
                    simp only [Act.put, List.setIfInBounds_toArray, List.set_cons_zero, List.set_cons_succ]
                    refine wpAnyH_take (i := 59) (v := .pointer (some ⟨g3, 0, none⟩)) rfl (by kernel_rfl) (by kernel_rfl) (by kernel_rfl) (fun _ _ _ h => h) (Or.inl ⟨by rfl, fun w' hS' => by go_simp⟩) hS37 ?_
                    change wpAnyH _ _ _ _ _ _ _ (Act.put _ (some 115) (.pointer (some ⟨g3, 0, none⟩))) _
                    simp only [Act.put, List.setIfInBounds_toArray, List.set_cons_zero, List.set_cons_succ]
                    refine wpAnyH_take (i := 60) (v := .agg #[.int .u64 c.sum, .int .i64 c.len]) rfl (by kernel_rfl) (by kernel_rfl) (by kernel_rfl) (fun _ _ _ h => h) (Or.inl ⟨by rfl, fun w' hS' => by obtain ⟨y0, y1, y2, y3, y4⟩ := HK3.out _ hS'; go_simp⟩) hS37 ?_
                    change wpAnyH _ _ _ _ _ _ _ (Act.put _ (some 116) (.agg #[.int .u64 c.sum, .int .i64 c.len])) _
                    simp only [Act.put, List.setIfInBounds_toArray, List.set_cons_zero, List.set_cons_succ]
                    refine wpAnyH_take (i := 61) (v := .bool true) rfl (by kernel_rfl) (by kernel_rfl) (by kernel_rfl) (fun _ _ _ h => h) (Or.inl ⟨by rfl, fun w' hS' => by go_simp⟩) hS37 ?_
                    change wpAnyH _ _ _ _ _ _ _ (Act.put _ (some 117) (.bool true)) _
                    simp only [Act.put, List.setIfInBounds_toArray, List.set_cons_zero, List.set_cons_succ]
                    refine wpAnyH_take (i := 62) (v := .bool true) rfl (by kernel_rfl) (by kernel_rfl) (by kernel_rfl) (fun _ _ _ h => h) (Or.inl ⟨by rfl, fun w' hS' => by go_simp⟩) hS37 ?_
                    change wpAnyH _ _ _ _ _ _ _ (Act.put _ (some 118) (.bool true)) _
                    simp only [Act.put, List.setIfInBounds_toArray, List.set_cons_zero, List.set_cons_succ]
                    refine wpAnyH_take (i := 63) (v := .bool true) rfl (by kernel_rfl) (by kernel_rfl) (by kernel_rfl) (fun _ _ _ h => h) (Or.inl ⟨by rfl, fun w' hS' => by exact op_assign rfl rfl⟩) hS37 ?_
                    change wpAnyH _ _ _ _ _ _ _ (Act.put _ (some 0) (.bool true)) _
                    simp only [Act.put, List.setIfInBounds_toArray, List.set_cons_zero, List.set_cons_succ]
                    refine wpAnyH_done (by kernel_rfl) ?_ _
                    refine NoPanic.normal ?_
                    go_wp2_with fail
                    go_ret
                    exact ⟨rfl, JB.out.trans (hS37.mono JB.out.size)⟩

end Go.Proofs.Ytndhaickelbkiaa
