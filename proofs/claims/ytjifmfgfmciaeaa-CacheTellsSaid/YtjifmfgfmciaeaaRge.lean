/-
  collatorref14.Get: what two texts have come to. Nothing that was there is changed.
-/
import Derived.Test.YtjifmfgfmciaeaaWit
namespace Go.Proofs.Ytjifmfgfmciaeaa
open Go.RowKit

theorem RowAt.kept_ne {α : Type} {f : α → List Value} {n : Nat} {w w' : World} {A : Option Addr} {L : List α} (h : RowAt f n w A L) {g : Nat} (hg : w.grownBy w' (some g)) (hne : ∀ a, A = some a → L ≠ [] → g ≠ a.block) : RowAt f n w' A L := fun hn => by
  obtain ⟨a, e, hl, hc⟩ := h hn
  exact ⟨a, e, Nat.lt_of_lt_of_le hl hg.size, fun k x hk j u hu => (World.cell?_of_block (hg.block _ (by rw [add_block]; exact hl) (by rw [add_block]; exact fun e' => hne a e hn (Option.some.inj e').symm))).trans (hc k x hk j u hu)⟩
/-- while the part is being set -/
structure HitS (w W : World) (g gk gn h gs : Nat) (c : Ca) (a : Addr) (cap : Nat) (p q : Int) (y : Sl) (A6 : Option Addr) (M : List Sl) : Prop where
  below : Below w.heap.size w W
  box : Blk W g 28 #[.int .i64 c.width, .int .i64 c.room, .slice (some a) c.parts.length cap, .int .i64 c.hits, .int .i64 c.misses, .int .i64 c.clashes, .int .i64 c.evicted]
  key : Blk W gk 61 #[.int .u64 p, .int .i64 q]
  now : ∃ v, Blk W gn 28 #[.int .i64 c.width, .int .i64 c.room, v, .int .i64 c.hits, .int .i64 c.misses, .int .i64 c.clashes, .int .i64 c.evicted]
  res : Blk W h 28 #[.int .i64 0, .int .i64 0, .slice none 0 0, .int .i64 0, .int .i64 0, .int .i64 0, .int .i64 0]
  slot : Blk W gs 63 #[.int .u64 y.sum, .int .i64 y.len, .string y.left, .string y.right, .string y.val]
  row : SlotsAt W A6 M
section
variable {w W W' : World} {g gk gn h gs : Nat} {c : Ca} {a : Addr} {cap : Nat} {p q : Int} {y : Sl} {A6 : Option Addr} {M : List Sl}
theorem HitS.up (s : HitS w W g gk gn h gs c a cap p q y A6 M) (hb : Below W.heap.size W W') : HitS w W' g gk gn h gs c a cap p q y A6 M :=
  ⟨below_step s.below hb, Blk.below s.box hb s.box.lt, Blk.below s.key hb s.key.lt, s.now.elim fun v hv => ⟨v, Blk.below hv hb hv.lt⟩, Blk.below s.res hb s.res.lt, Blk.below s.slot hb s.slot.lt, s.row.up hb⟩
theorem HitS.drew (s : HitS w W g gk gn h gs c a cap p q y A6 M) : HitS w W.drew g gk gn h gs c a cap p q y A6 M :=
  ⟨s.below.drew, s.box, s.key, s.now, s.res, s.slot, s.row.drew⟩
theorem HitS.set (s : HitS w W g gk gn h gs c a cap p q y A6 M) {v9 : Value} (hv : Blk W gn 28 #[.int .i64 c.width, .int .i64 c.room, v9, .int .i64 c.hits, .int .i64 c.misses, .int .i64 c.clashes, .int .i64 c.evicted])
    (hn : w.heap.size ≤ gn) (hgk : gn < gk) (hh : h < gn) (hgs : gn < gs) (hnw : ∀ a, A6 = some a → gn < a.block) (hgg : g < gn) (v : Value) : HitS w (W.setCell ⟨gn, 2, none⟩ v) g gk gn h gs c a cap p q y A6 M :=
  ⟨s.below.setCell hn _, Blk.far s.box (show g ≠ gn by omega) (p := ⟨gn, 2, none⟩) _, Blk.far s.key (show gk ≠ gn by omega) (p := ⟨gn, 2, none⟩) _, ⟨v, Blk.set_ hv 2 v⟩, Blk.far s.res (show h ≠ gn by omega) (p := ⟨gn, 2, none⟩) _, Blk.far s.slot (show gs ≠ gn by omega) (p := ⟨gn, 2, none⟩) _, RowAt.kept_ne s.row (grown_set _ gn 2 _) (fun a ha _ e => by have := hnw a ha; omega)⟩
end
/-- when the part is set -/
structure HitT (w W : World) (gn gs h gp cp n : Nat) (R : List RS) (c : Ca) (y : Sl) (A6 : Option Addr) (M : List Sl) (hits : Int) : Prop where
  below : Below w.heap.size w W
  now : Blk W gn 28 #[.int .i64 c.width, .int .i64 c.room, .slice (some ⟨gp, 0, none⟩) n cp, .int .i64 hits, .int .i64 c.misses, .int .i64 c.clashes, .int .i64 c.evicted]
  slot : Blk W gs 63 #[.int .u64 y.sum, .int .i64 y.len, .string y.left, .string y.right, .string y.val]
  res' : ∃ u0 u1 u2 u3 u4 u5 u6, Blk W h 28 #[u0, u1, u2, u3, u4, u5, u6]
  rows : RowAt rsv 1 W (some ⟨gp, 0, none⟩) R
  row : SlotsAt W A6 M
section
variable {w W W' : World} {gn gs h gp cp n : Nat} {R : List RS} {c : Ca} {y : Sl} {A6 : Option Addr} {M : List Sl} {hits : Int}
theorem HitT.drew (s : HitT w W gn gs h gp cp n R c y A6 M hits) : HitT w W.drew gn gs h gp cp n R c y A6 M hits := ⟨s.below.drew, s.now, s.slot, s.res', s.rows.drew, s.row.drew⟩
theorem HitT.last (s : HitT w W gn gs h gp cp n R c y A6 M hits) (hw : w.heap.size ≤ h) (hh : h < gn) (hgs : gn < gs) (hgp : gn < gp) (hnw : ∀ a, A6 = some a → gn < a.block) {u0 u1 u2 u3 u4 u5 u6 : Value} (hb : Blk W' h 28 #[u0, u1, u2, u3, u4, u5, u6]) (hg : W.grownBy W' (some h)) : HitT w W' gn gs h gp cp n R c y A6 M hits :=
  ⟨s.below.grown hg s.below.size (fun b e => by injection e with e; omega), Blk.grown s.now hg (fun e => by injection e with e; omega), Blk.grown s.slot hg (fun e => by injection e with e; omega), ⟨_, _, _, _, _, _, _, hb⟩,
   RowAt.kept_ne s.rows hg (fun a ha _ e => by injection ha with ha; rw [← ha] at e; simp only at e; omega), RowAt.kept_ne s.row hg (fun a ha _ e => by have := hnw a ha; omega)⟩
end
theorem op_store_row {gn : Nat} {u0 u1 u2 u3 u4 u5 u6 : Value} {W : World} (A : Option Addr) (n cap : Nat) (hb : Blk W gn 28 #[u0, u1, u2, u3, u4, u5, u6]) :
    ∃ W1, (∀ (o : Oper) (a : Act) (p q : Operand), o.op = Op.store 26 p q → a.eval p = .pointer (some ⟨gn, 2, none⟩) → a.eval q = .slice A n cap → (execOp a.eval o).run Try.prog W = .ok .skip W1) ∧ W1 = W.setCell ⟨gn, 2, none⟩ (.slice A n cap) := by
  have y2 := Blk.cell hb 2
  have z2 := Blk.frozen hb 2
  simp only [List.getElem?_toArray, List.getElem?_cons_zero, List.getElem?_cons_succ] at y2
  refine ⟨W.setCell ⟨gn, 2, none⟩ (.slice A n cap), fun o a p q ho hx hy => ?_, rfl⟩
  simp only [execOp, ho, hx, hy]
  go_simp
theorem text_eq {a b : ByteArray} (h : (a.toList == b.toList) = true) : a = b := by
  have e := eq_of_beq h
  rw [Lib.toList_data, Lib.toList_data] at e
  exact ByteArray.ext (Array.toList_inj.1 e)
theorem op_store7 {h : Nat} {u0 u1 u2 u3 u4 u5 u6 : Value} {W : World} (hb : Blk W h 28 #[u0, u1, u2, u3, u4, u5, u6]) (i0 i1 : Int) (A : Option Addr) (n cap : Nat) (i3 i4 i5 i6 : Int) :
    ∃ W1, (∀ (o : Oper) (a : Act) (p q : Operand), o.op = Op.store 28 p q → a.eval p = .pointer (some ⟨h, 0, none⟩) → a.eval q = .agg #[.int .i64 i0, .int .i64 i1, .slice A n cap, .int .i64 i3, .int .i64 i4, .int .i64 i5, .int .i64 i6] → (execOp a.eval o).run Try.prog W = .ok .skip W1) ∧
      Blk W1 h 28 #[.int .i64 i0, .int .i64 i1, .slice A n cap, .int .i64 i3, .int .i64 i4, .int .i64 i5, .int .i64 i6] ∧ W.grownBy W1 (some h) := by
  obtain ⟨y0, y1, y2, y3, y4, y5, y6⟩ := box7 hb (Below.refl _ _)
  have z0 := Blk.frozen hb 0
  have z1 := Blk.frozen hb 1
  have z2 := Blk.frozen hb 2
  have z3 := Blk.frozen hb 3
  have z4 := Blk.frozen hb 4
  have z5 := Blk.frozen hb 5
  have z6 := Blk.frozen hb 6
  refine ⟨((((((W.setCell ⟨h, 0, none⟩ (.int .i64 i0)).setCell ⟨h, 1, none⟩ (.int .i64 i1)).setCell ⟨h, 2, none⟩ (.slice A n cap)).setCell ⟨h, 3, none⟩ (.int .i64 i3)).setCell ⟨h, 4, none⟩ (.int .i64 i4)).setCell ⟨h, 5, none⟩ (.int .i64 i5)).setCell ⟨h, 6, none⟩ (.int .i64 i6), fun o a p q ho hx hy => ?_,
    ?_, ((((((grown_set _ _ _ _).trans (grown_set _ _ _ _)).trans (grown_set _ _ _ _)).trans (grown_set _ _ _ _)).trans (grown_set _ _ _ _)).trans (grown_set _ _ _ _)).trans (grown_set _ _ _ _)⟩
  case refine_2 =>
    have h0 := Blk.set_ hb 0 (.int .i64 i0)
    have h1 := Blk.set_ h0 1 (.int .i64 i1)
    have h2 := Blk.set_ h1 2 (.slice A n cap)
    have h3 := Blk.set_ h2 3 (.int .i64 i3)
    have h4 := Blk.set_ h3 4 (.int .i64 i4)
    have h5 := Blk.set_ h4 5 (.int .i64 i5)
    have h6 := Blk.set_ h5 6 (.int .i64 i6)
    simpa only [List.setIfInBounds_toArray, List.set_cons_zero, List.set_cons_succ] using h6
  simp only [execOp, ho, hx, hy]
  go_simp
def GetCTold (X : Nat → Prop) (s : ByteArray) (d : Ca) (b : Int) (w : World) (e : Ending) (w' : World) : Prop :=
  ∃ (A : Option Addr) (n cap : Nat), e = .returned (.tuple #[.string s, .agg #[.int .i64 d.width, .int .i64 d.room, .slice A n cap, .int .i64 d.hits, .int .i64 d.misses, .int .i64 d.clashes, .int .i64 d.evicted], .int .i64 b]) ∧ d.parts.length = n ∧ PartsAt X w' A d.parts ∧ Below w.heap.size w w' ∧ n ≤ cap
theorem op_allocS (W : World) : ∃ g W1, (∀ (o : Oper) (a : Act), o.op = Op.alloc 63 → (execOp a.eval o).run Try.prog W = .ok (.value (.pointer (some ⟨g, 0, none⟩))) W1) ∧ Blk W1 g 63 #[.int .u64 zeroS.sum, .int .i64 zeroS.len, .string zeroS.left, .string zeroS.right, .string zeroS.val] ∧ Below W.heap.size W W1 ∧ W.heap.size ≤ g := by
  refine ⟨W.heap.size, W.alloc (.cells #[.int .u64 0, .int .i64 0, .string ⟨#[]⟩, .string ⟨#[]⟩, .string ⟨#[]⟩] 63), fun o a ho => ?_, Blk.new _ _ _, (Below.refl _ _).alloc (Nat.le_refl _) _, Nat.le_refl _⟩
  rw [show execOp a.eval o = execOp a.eval { o with op := Op.alloc 63 } from by rw [← ho]]
  kernel_rfl
/-- what is found, and what is there then -/
def FoundIn (w6 : World) (y : Sl) (M : List Sl) (bg : Int) (v12 v13 v14 : Value) (wx : World) : Prop :=
  ∃ (gs : Nat) (A : Option Addr) (n cc : Nat), v12 = .pointer (some ⟨gs, 0, none⟩) ∧ v13 = .slice A n cc ∧ v14 = .int .i64 bg ∧ Blk wx gs 63 #[.int .u64 y.sum, .int .i64 y.len, .string y.left, .string y.right, .string y.val] ∧ M.length = n ∧ SlotsAt wx A M ∧ n ≤ cc ∧ Below w6.heap.size w6 wx ∧ w6.heap.size ≤ gs ∧ ∀ a, A = some a → w6.heap.size ≤ a.block

set_option maxHeartbeats 8000000 in
set_option maxRecDepth 100000 in
theorem rgetC_any (c : Ca) (A : Option Addr) (n cap : Nat) (l r : ByteArray) (w : World) (s0 : ByteArray) (d0 : Ca) (b0 : Int) (hm : getC c l r = (s0, d0, b0)) (X : Nat → Prop) (hX : ∀ b, X b → b < w.heap.size) (ha : PartsAt X w A c.parts) (hn : c.parts.length = n) (hcap : n ≤ cap) (hf : CaFit c) (hl : l.size ≤ 4096) (hr : r.size ≤ 4096) :
    Calls Try.prog 22 #[.agg #[.int .i64 c.width, .int .i64 c.room, .slice A n cap, .int .i64 c.hits, .int .i64 c.misses, .int .i64 c.clashes, .int .i64 c.evicted], .string l, .string r] w (GetCTold X s0 d0 b0 w) := by
  subst hn
  have HA := Lib.hid ha
  have HF := Lib.hid hf
  have HM := Lib.hid hm
  have HXX := Lib.hid hX
  have HLL := Lib.hid hl
  have HRR := Lib.hid hr
  have hlen := hf.len
  clear ha hf hm hl hr hX
  obtain ⟨rb, hrb⟩ : ∃ b, rightC c = b := ⟨_, rfl⟩
  have HRB := Lib.hid hrb
  clear hrb
  go_enter Try.func22, Try.ntmps22
  go_wp2_with fail
  have hb0 : Blk ((w.alloc (.cells #[.int .i64 c.width, .int .i64 c.room, .slice A c.parts.length cap, .int .i64 c.hits, .int .i64 c.misses, .int .i64 c.clashes, .int .i64 c.evicted] 28)).alloc (.cells #[.int .i64 0, .int .i64 0, .slice none 0 0, .int .i64 0, .int .i64 0, .int .i64 0, .int .i64 0] 28)) w.heap.size 28 #[.int .i64 c.width, .int .i64 c.room, .slice A c.parts.length cap, .int .i64 c.hits, .int .i64 c.misses, .int .i64 c.clashes, .int .i64 c.evicted] := (Blk.new w _ _).alloc _
  have hb2 : Blk ((w.alloc (.cells #[.int .i64 c.width, .int .i64 c.room, .slice A c.parts.length cap, .int .i64 c.hits, .int .i64 c.misses, .int .i64 c.clashes, .int .i64 c.evicted] 28)).alloc (.cells #[.int .i64 0, .int .i64 0, .slice none 0 0, .int .i64 0, .int .i64 0, .int .i64 0, .int .i64 0] 28)) (w.heap.size + 1) 28 #[.int .i64 0, .int .i64 0, .slice none 0 0, .int .i64 0, .int .i64 0, .int .i64 0, .int .i64 0] := by
    have := Blk.new (w.alloc (.cells #[.int .i64 c.width, .int .i64 c.room, .slice A c.parts.length cap, .int .i64 c.hits, .int .i64 c.misses, .int .i64 c.clashes, .int .i64 c.evicted] 28)) 28 #[.int .i64 0, .int .i64 0, .slice none 0 0, .int .i64 0, .int .i64 0, .int .i64 0, .int .i64 0]
    simpa using this
  have hw0 : Below w.heap.size w ((w.alloc (.cells #[.int .i64 c.width, .int .i64 c.room, .slice A c.parts.length cap, .int .i64 c.hits, .int .i64 c.misses, .int .i64 c.clashes, .int .i64 c.evicted] 28)).alloc (.cells #[.int .i64 0, .int .i64 0, .slice none 0 0, .int .i64 0, .int .i64 0, .int .i64 0, .int .i64 0] 28)) := ((Below.refl _ _).alloc (Nat.le_refl _) _).alloc (by simp) _
  obtain ⟨w1, hw1⟩ : ∃ w1, w1 = ((w.alloc (.cells #[.int .i64 c.width, .int .i64 c.room, .slice A c.parts.length cap, .int .i64 c.hits, .int .i64 c.misses, .int .i64 c.clashes, .int .i64 c.evicted] 28)).alloc (.cells #[.int .i64 0, .int .i64 0, .slice none 0 0, .int .i64 0, .int .i64 0, .int .i64 0, .int .i64 0] 28)) := ⟨_, rfl⟩
  obtain ⟨g, hg⟩ : ∃ g, g = w.heap.size := ⟨_, rfl⟩
  obtain ⟨h, hh⟩ : ∃ h, h = w.heap.size + 1 := ⟨_, rfl⟩
  rw [← hw1] at hb0 hb2 hw0 ⊢
  rw [← hh] at hb2 ⊢
  rw [← hg] at hb0
  have HH2 : Hid (w.heap.size ≤ h) := Lib.hid (by omega)
  rw [show (⟨w.heap.size, 0, none⟩ : Addr) = ⟨g, 0, none⟩ from by rw [hg]]
  have HX1 := Lib.hid hb0
  have HH1 := Lib.hid hb2
  have HW1 := Lib.hid hw0
  clear hb0 hb2 hw0 hw1 hg hh
  refine (rrightC_any c A c.parts.length cap _ rb HRB.out (HA.out.up HW1.out) rfl HF.out).mono ?_
  rintro e w2 ⟨rfl, hb⟩
  have HB2 := Lib.hid hb
  have HX2 := Lib.hid (Blk.below HX1.out hb HX1.out.lt)
  have HHb := Lib.hid (Blk.below HH1.out hb HH1.out.lt)
  have HW2 := Lib.hid (HW1.out.trans (hb.mono HW1.out.size))
  clear hb
  cases rb with
  | false =>
    have hfin : s0 = ⟨#[]⟩ ∧ d0 = zeroC ∧ b0 = 1 := by have := HM.out; unfold getC at this; rw [HRB.out] at this; simp only [Bool.false_eq_true, if_false, Prod.mk.injEq] at this; exact ⟨this.1.symm, this.2.1.symm, this.2.2.symm⟩
    obtain ⟨rfl, rfl, rfl⟩ := hfin
    obtain ⟨z0, z1, z2, z3, z4, z5, z6⟩ := box7 HHb.out (Below.refl _ _)
    have q0 := Blk.frozen HHb.out 0
    have q1 := Blk.frozen HHb.out 1
    have q2 := Blk.frozen HHb.out 2
    have q3 := Blk.frozen HHb.out 3
    have q4 := Blk.frozen HHb.out 4
    have q5 := Blk.frozen HHb.out 5
    have q6 := Blk.frozen HHb.out 6
    go_wp2_with fail
    refine bodyPost_ret (v := .tuple #[.string ⟨#[]⟩, .agg #[.int .i64 0, .int .i64 0, .slice none 0 0, .int .i64 0, .int .i64 0, .int .i64 0, .int .i64 0], .int .i64 1]) (by simp [results, Try.results22, go_sem, z0, z1, z2, z3, z4, z5, z6]) rfl ?_
    exact ⟨none, 0, 0, rfl, rfl, PartsAt.nil, ((((((HW2.out.setCell HH2.out _).setCell HH2.out _).setCell HH2.out _).setCell HH2.out _).setCell HH2.out _).setCell HH2.out _).setCell HH2.out _, Nat.le_refl _⟩
  | true =>
    have hR := rightC_iff.1 HRB.out
    have HR := Lib.hid hR
    have n1 := hR.n1
    obtain ⟨a, rfl⟩ : ∃ a, A = some a := by
      obtain ⟨a, e, _⟩ := HA.out (by intro e; rw [e] at n1; simp at n1)
      exact ⟨a, e⟩
    obtain ⟨p, q, hpq⟩ : ∃ p q, c.key l r = (p, q) := ⟨_, _, rfl⟩
    obtain ⟨i, hi⟩ : ∃ i, partN c.parts.length (p, q) = i := ⟨_, rfl⟩
    have hnum : c.num l r = i := by unfold Ca.num; rw [hpq]; exact hi
    have hilt : i < c.parts.length := by rw [← hnum]; exact Ca.num_lt hR l r
    obtain ⟨L, hL⟩ : ∃ L, c.parts[i]? = some L := ⟨_, List.getElem?_eq_getElem hilt⟩
    have hLb := HF.out.each L (List.mem_of_getElem? hL)
    have l1 := hLb.1
    have HWF : Hid ((Lit.int .u64 p).wf = true) := Lib.hid (by
      have : p = ((Sm.low (Sm.two l.data.toList r.data.toList) c.width : Nat) : Int) := (congrArg Prod.fst hpq).symm
      rw [this]
      have h2 := Sm.low_lt (Sm.two l.data.toList r.data.toList) c.width
      unfold Sm.M at h2
      exact wf_u64 (by omega) (by omega))
    have HPQ := Lib.hid hpq
    have HI := Lib.hid hi
    have HNUM := Lib.hid hnum
    have HL := Lib.hid hL
    have hrl : rightB L = true := by have := (hR.part i hilt).1; rwa [part_is hL] at this
    obtain ⟨y, M, bg, hgm⟩ : ∃ y M bg, getM L (p, q) = (y, M, bg) := ⟨_, _, _, rfl⟩
    have HGM := Lib.hid hgm
    have HRL := Lib.hid hrl
    clear hR hpq hi hnum hL hLb hrl hgm
    obtain ⟨y0, y1, y2, y3, y4, y5, y6⟩ := box7 HX2.out (Below.refl _ _)
    go_upto_region 5 with (fail)
    have hb3 : Blk (w2.alloc (.cells #[.int .i64 c.width, .int .i64 c.room, .slice (some a) c.parts.length cap, .int .i64 c.hits, .int .i64 c.misses, .int .i64 c.clashes, .int .i64 c.evicted] 28)) w2.heap.size 28 #[.int .i64 c.width, .int .i64 c.room, .slice (some a) c.parts.length cap, .int .i64 c.hits, .int .i64 c.misses, .int .i64 c.clashes, .int .i64 c.evicted] := Blk.new w2 _ _
    have hw3 : Below w2.heap.size w2 (w2.alloc (.cells #[.int .i64 c.width, .int .i64 c.room, .slice (some a) c.parts.length cap, .int .i64 c.hits, .int .i64 c.misses, .int .i64 c.clashes, .int .i64 c.evicted] 28)) := (Below.refl _ _).alloc (Nat.le_refl _) _
    obtain ⟨w3, hwe⟩ : ∃ w3, w3 = w2.alloc (.cells #[.int .i64 c.width, .int .i64 c.room, .slice (some a) c.parts.length cap, .int .i64 c.hits, .int .i64 c.misses, .int .i64 c.clashes, .int .i64 c.evicted] 28) := ⟨_, rfl⟩
    obtain ⟨gn, hgn⟩ : ∃ gn, gn = w2.heap.size := ⟨_, rfl⟩
    rw [← hwe] at hb3 hw3 ⊢
    rw [← hgn] at hb3 ⊢
    have HN3 := Lib.hid hb3
    have HB3 := Lib.hid (below_step HB2.out hw3)
    have HGG : Hid (g < gn) := Lib.hid (by rw [hgn]; exact Nat.lt_of_lt_of_le HX1.out.lt HB2.out.size)
    have HNE : Hid (h < gn) := Lib.hid (by rw [hgn]; exact HHb.out.lt)
    have HNG : Hid (w.heap.size ≤ gn) := Lib.hid (by rw [hgn]; exact HW2.out.size)
    clear hb3 hw3 hwe hgn y0 y1 y2 y3 y4 y5 y6
    obtain ⟨y0, y1, y2, y3, y4, y5, y6⟩ := box7 HX1.out HB3.out
    go_wp2_with fail
    refine (rboth_v l r c.width _ p q HPQ.out HLL.out HRR.out).mono ?_
    rintro e w4 ⟨rfl, hb4⟩
    have HB4 := Lib.hid (below_step HB3.out hb4)
    have HN4 := Lib.hid (Blk.below HN3.out hb4 HN3.out.lt)
    clear hb4 y0 y1 y2 y3 y4 y5 y6
    go_upto_region 6 with (fail)
    have hb5 : Blk (w4.alloc (.cells #[.int .u64 p, .int .i64 q] 61)) w4.heap.size 61 #[.int .u64 p, .int .i64 q] := Blk.new w4 _ _
    have hw5 : Below w4.heap.size w4 (w4.alloc (.cells #[.int .u64 p, .int .i64 q] 61)) := (Below.refl _ _).alloc (Nat.le_refl _) _
    obtain ⟨w6, hwe⟩ : ∃ w6, w6 = w4.alloc (.cells #[.int .u64 p, .int .i64 q] 61) := ⟨_, rfl⟩
    obtain ⟨gk, hgk⟩ : ∃ gk, gk = w4.heap.size := ⟨_, rfl⟩
    rw [← hwe] at hb5 hw5 ⊢
    rw [← hgk] at hb5 ⊢
    have HK6 := Lib.hid hb5
    have HB6 := Lib.hid (below_step HB4.out hw5)
    have HN6 := Lib.hid (Blk.below HN4.out hw5 HN4.out.lt)
    have HGK : Hid (gn < gk) := Lib.hid (by rw [hgk]; exact HN4.out.lt)
    have HCB : Hid (∀ W, Below w6.heap.size w6 W → W.cell? ⟨g, 0, none⟩ = some (.int .i64 c.width) ∧ W.cell? ⟨g, 1, none⟩ = some (.int .i64 c.room) ∧ W.cell? ⟨g, 2, none⟩ = some (.slice (some a) c.parts.length cap) ∧ W.cell? ⟨g, 3, none⟩ = some (.int .i64 c.hits) ∧ W.cell? ⟨g, 4, none⟩ = some (.int .i64 c.misses) ∧ W.cell? ⟨g, 5, none⟩ = some (.int .i64 c.clashes) ∧ W.cell? ⟨g, 6, none⟩ = some (.int .i64 c.evicted)) := Lib.hid fun W hW => box7 HX1.out (below_step HB6.out hW)
    have HCK : Hid (∀ W, Below w6.heap.size w6 W → W.cell? ⟨gk, 0, none⟩ = some (.int .u64 p) ∧ W.cell? ⟨gk, 1, none⟩ = some (.int .i64 q)) := Lib.hid fun W hW => ⟨(Blk.below HK6.out hW HK6.out.lt).cell 0, (Blk.below HK6.out hW HK6.out.lt).cell 1⟩
    obtain ⟨a', B, cl, ea, hal1, hcell1, hSB1, hcl⟩ := (HA.out.up HW1.out).at_ HL.out
    injection ea with ea
    subst ea
    have HCE : Hid (∀ W, Below w6.heap.size w6 W → W.cell? (a.add i) = some (.slice B L.length cl)) := Lib.hid fun W hW => ((below_step HB6.out hW).cell (by rw [add_block]; exact hal1)).trans hcell1
    have HSU : Hid (∀ W, Below w6.heap.size w6 W → SlotsAt W B L) := Lib.hid fun W hW => hSB1.up (below_step HB6.out hW)
    clear hb5 hw5 hwe hgk hal1 hcell1 hSB1 hcl
    go_cut [12, 13, 14] (fun s12 s13 s14 wx => FoundIn w6 y M bg s12 s13 s14 wx)
    case first =>
      refine wp_region_noPanic ?_
      refine wp_region_held_drew (S := fun W => Below w6.heap.size w6 W) (by kernel_rfl) ((Below.refl w6.heap.size w6).drew) (fun hS0 => ?_)
      change wpAnyH _ _ _ _ _ 17 #[false, false, false, false, false, false, false, false, false, false, false, false, false, false, false, false, false] _ (World.drew _)
      refine wpAnyH_take (i := 0) (v := .pointer (some ⟨g, 2, none⟩)) rfl (by kernel_rfl) (by kernel_rfl) (by kernel_rfl) (fun _ _ _ h => h) (Or.inl ⟨by rfl, fun w' hS' => by go_simp⟩) hS0 ?_
      change wpAnyH _ _ _ _ _ _ _ (Act.put _ (some 27) (.pointer (some ⟨g, 2, none⟩))) _
      simp only [Act.put, List.setIfInBounds_toArray, List.set_cons_zero, List.set_cons_succ]
      refine wpAnyH_take (i := 1) (v := .slice (some a) c.parts.length cap) rfl (by kernel_rfl) (by kernel_rfl) (by kernel_rfl) (fun _ _ _ h => h) (Or.inl ⟨by rfl, fun w' hS' => by obtain ⟨y0, y1, y2, y3, y4, y5, y6⟩ := HCB.out _ hS'; go_simp⟩) hS0 ?_
      change wpAnyH _ _ _ _ _ _ _ (Act.put _ (some 28) (.slice (some a) c.parts.length cap)) _
      simp only [Act.put, List.setIfInBounds_toArray, List.set_cons_zero, List.set_cons_succ]
      refine wpAnyH_take (i := 2) (v := .agg #[.int .i64 c.width, .int .i64 c.room, .slice (some a) c.parts.length cap, .int .i64 c.hits, .int .i64 c.misses, .int .i64 c.clashes, .int .i64 c.evicted]) rfl (by kernel_rfl) (by kernel_rfl) (by kernel_rfl) (fun _ _ _ h => h) (Or.inl ⟨by rfl, fun w' hS' => by obtain ⟨y0, y1, y2, y3, y4, y5, y6⟩ := HCB.out _ hS'; go_simp⟩) hS0 ?_
      change wpAnyH _ _ _ _ _ _ _ (Act.put _ (some 29) (.agg #[.int .i64 c.width, .int .i64 c.room, .slice (some a) c.parts.length cap, .int .i64 c.hits, .int .i64 c.misses, .int .i64 c.clashes, .int .i64 c.evicted])) _
      simp only [Act.put, List.setIfInBounds_toArray, List.set_cons_zero, List.set_cons_succ]
      refine wpAnyH_take (i := 3) (v := .agg #[.int .u64 p, .int .i64 q]) rfl (by kernel_rfl) (by kernel_rfl) (by kernel_rfl) (fun _ _ _ h => h) (Or.inl ⟨by rfl, fun w' hS' => by obtain ⟨k0, k1⟩ := HCK.out _ hS'; go_simp⟩) hS0 ?_
      change wpAnyH _ _ _ _ _ _ _ (Act.put _ (some 30) (.agg #[.int .u64 p, .int .i64 q])) _
      simp only [Act.put, List.setIfInBounds_toArray, List.set_cons_zero, List.set_cons_succ]
      refine wpAnyH_take (i := 7) (v := .agg #[.int .u64 p, .int .i64 q]) rfl (by kernel_rfl) (by kernel_rfl) (by kernel_rfl) (fun _ _ _ h => h) (Or.inl ⟨by rfl, fun w' hS' => by obtain ⟨k0, k1⟩ := HCK.out _ hS'; go_simp⟩) hS0 ?_
      change wpAnyH _ _ _ _ _ _ _ (Act.put _ (some 34) (.agg #[.int .u64 p, .int .i64 q])) _
      simp only [Act.put, List.setIfInBounds_toArray, List.set_cons_zero, List.set_cons_succ]
      refine wpAnyH_ready (rs := [4, 13]) (by kernel_rfl) (by simp) (AllReadyH.cons rfl (fun K hK => ?_) (AllReadyH.cons rfl (fun K hK => ?_) (AllReadyH.nil)))
      · skip
        go_simp
        refine (rpart_any c.width c.room c.hits c.misses c.clashes c.evicted (some a) c.parts.length cap p q _ n1 (by omega) HWF.out).mono ?_
        rintro e W1 ⟨rfl, hb3⟩
        rw [HI.out]
        refine hK.out _ _ (hS0.trans (hb3.mono hS0.size)) (fun hS2 => ?_)
        clear hK K
        simp only [List.setIfInBounds_toArray, List.set_cons_zero, List.set_cons_succ]
        refine wpAnyH_take (i := 5) (v := .pointer (some (a.add i))) rfl (by kernel_rfl) (by kernel_rfl) (by kernel_rfl) (fun _ _ _ h => h) (Or.inl ⟨by rfl, fun w' hS' => by go_simp⟩) hS2 ?_
        change wpAnyH _ _ _ _ _ _ _ (Act.put _ (some 32) (.pointer (some (a.add i)))) _
        simp only [Act.put, List.setIfInBounds_toArray, List.set_cons_zero, List.set_cons_succ]
        refine wpAnyH_take (i := 6) (v := .slice B L.length cl) rfl (by kernel_rfl) (by kernel_rfl) (by kernel_rfl) (fun _ _ _ h => h) (Or.inl ⟨by rfl, fun w' hS' => by have k2 := HCE.out _ hS'; go_simp⟩) hS2 ?_
        change wpAnyH _ _ _ _ _ _ _ (Act.put _ (some 33) (.slice B L.length cl)) _
        simp only [Act.put, List.setIfInBounds_toArray, List.set_cons_zero, List.set_cons_succ]
        refine wpAnyH_ready (rs := [8, 13]) (by kernel_rfl) (by simp) (AllReadyH.cons rfl (fun K hK => ?_) (AllReadyH.cons rfl (fun K hK => ?_) (AllReadyH.nil)))
        · skip
          go_simp
          refine (rget_any B L L.length cl p q _ y M bg HGM.out (HSU.out _ hS2) rfl (by omega)).mono ?_
          rintro e W4 ⟨A7, n8, c9, rfl, hn11, hs10, hb6, hc12, hw13⟩
          refine hK.out _ _ (hS2.trans (hb6.mono hS2.size)) (fun hS5 => ?_)
          clear hK K
          simp only [List.setIfInBounds_toArray, List.set_cons_zero, List.set_cons_succ]
          refine wpAnyH_take (i := 9) (v := .tuple #[.agg #[.int .u64 y.sum, .int .i64 y.len, .string y.left, .string y.right, .string y.val], .slice A7 n8 c9, .int .i64 bg]) rfl (by kernel_rfl) (by kernel_rfl) (by kernel_rfl) (fun _ _ _ h => h) (Or.inl ⟨by rfl, fun w' hS' => by exact op_move rfl rfl⟩) hS5 ?_
          change wpAnyH _ _ _ _ _ _ _ (Act.put _ (some 26) (.tuple #[.agg #[.int .u64 y.sum, .int .i64 y.len, .string y.left, .string y.right, .string y.val], .slice A7 n8 c9, .int .i64 bg])) _
          simp only [Act.put, List.setIfInBounds_toArray, List.set_cons_zero, List.set_cons_succ]
          refine wpAnyH_take (i := 10) (v := .agg #[.int .u64 y.sum, .int .i64 y.len, .string y.left, .string y.right, .string y.val]) rfl (by kernel_rfl) (by kernel_rfl) (by kernel_rfl) (fun _ _ _ h => h) (Or.inl ⟨by rfl, fun w' hS' => by go_simp⟩) hS5 ?_
          change wpAnyH _ _ _ _ _ _ _ (Act.put _ (some 36) (.agg #[.int .u64 y.sum, .int .i64 y.len, .string y.left, .string y.right, .string y.val])) _
          simp only [Act.put, List.setIfInBounds_toArray, List.set_cons_zero, List.set_cons_succ]
          refine wpAnyH_take (i := 11) (v := .slice A7 n8 c9) rfl (by kernel_rfl) (by kernel_rfl) (by kernel_rfl) (fun _ _ _ h => h) (Or.inl ⟨by rfl, fun w' hS' => by go_simp⟩) hS5 ?_
          change wpAnyH _ _ _ _ _ _ _ (Act.put _ (some 37) (.slice A7 n8 c9)) _
          simp only [Act.put, List.setIfInBounds_toArray, List.set_cons_zero, List.set_cons_succ]
          refine wpAnyH_take (i := 12) (v := .int .i64 bg) rfl (by kernel_rfl) (by kernel_rfl) (by kernel_rfl) (fun _ _ _ h => h) (Or.inl ⟨by rfl, fun w' hS' => by go_simp⟩) hS5 ?_
          change wpAnyH _ _ _ _ _ _ _ (Act.put _ (some 38) (.int .i64 bg)) _
          simp only [Act.put, List.setIfInBounds_toArray, List.set_cons_zero, List.set_cons_succ]
          refine wpAnyH_ready (rs := [13]) (by kernel_rfl) (by simp) (AllReadyH.cons rfl (fun K hK => ?_) (AllReadyH.nil))
          · skip
            obtain ⟨gs15, W14, hr18, hk19, hb17, hg20⟩ := op_allocS W4
            refine step_op_run (hr18 _ _ rfl) rfl ?_
            refine hK.out _ _ (hS5.trans (hb17.mono hS5.size)) (fun hS16 => ?_)
            clear hK K
            change wpAnyH _ _ _ _ _ _ _ (Act.put _ (some 12) (.pointer (some ⟨gs15, 0, none⟩))) _
            simp only [Act.put, List.setIfInBounds_toArray, List.set_cons_zero, List.set_cons_succ]
            refine wpAnyH_ready (rs := [14]) (by kernel_rfl) (by simp) (AllReadyH.cons rfl (fun K hK => ?_) (AllReadyH.nil))
            · skip
              obtain ⟨W21, hr23, hk24, hgr25⟩ := op_store gs15 y zeroS _ hk19
              refine step_op_skip (hr23 _ _ _ _ rfl rfl rfl) rfl ?_
              refine hK.out _ _ (hS16.grown hgr25 hS16.size (fun b e => by injection e with e; rw [← e]; exact Nat.le_trans (hS5).size hg20)) (fun hS22 => ?_)
              clear hK K
              change wpAnyH _ _ _ _ _ _ _ (Act.put _ none (undef)) _
              simp only [Act.put]
              refine wpAnyH_take (i := 15) (v := .slice A7 n8 c9) rfl (by kernel_rfl) (by kernel_rfl) (by kernel_rfl) (fun _ _ _ h => h) (Or.inl ⟨by rfl, fun w' hS' => by exact op_assign rfl rfl⟩) hS22 ?_
              change wpAnyH _ _ _ _ _ _ _ (Act.put _ (some 13) (.slice A7 n8 c9)) _
              simp only [Act.put, List.setIfInBounds_toArray, List.set_cons_zero, List.set_cons_succ]
              refine wpAnyH_take (i := 16) (v := .int .i64 bg) rfl (by kernel_rfl) (by kernel_rfl) (by kernel_rfl) (fun _ _ _ h => h) (Or.inl ⟨by rfl, fun w' hS' => by exact op_assign rfl rfl⟩) hS22 ?_
              change wpAnyH _ _ _ _ _ _ _ (Act.put _ (some 14) (.int .i64 bg)) _
              simp only [Act.put, List.setIfInBounds_toArray, List.set_cons_zero, List.set_cons_succ]
              refine wpAnyH_done (by kernel_rfl) ?_ _
              refine NoPanic.normal ?_
              go_wp2_with fail
              go_meet
              refine ⟨gs15, A7, n8, c9, rfl, rfl, rfl, hk24, hn11, ?_, hc12, hS22, Nat.le_trans (hS5).size hg20, fun a ha => Nat.le_trans (hS2).size (hw13 a ha)⟩
              refine RowAt.kept_ne (hs10.up hb17) hgr25 (fun a ha hm0 e => ?_)
              obtain ⟨a', ea, hlt, _⟩ := hs10 hm0
              rw [ha] at ea
              injection ea with ea
              subst ea
              have h2 := hg20
              omega
        · skip
          obtain ⟨gs27, W26, hr30, hk31, hb29, hg32⟩ := op_allocS W1
          refine step_op_run (hr30 _ _ rfl) rfl ?_
          refine hK.out _ _ (hS2.trans (hb29.mono hS2.size)) (fun hS28 => ?_)
          clear hK K
          change wpAnyH _ _ _ _ _ _ _ (Act.put _ (some 12) (.pointer (some ⟨gs27, 0, none⟩))) _
          simp only [Act.put, List.setIfInBounds_toArray, List.set_cons_zero, List.set_cons_succ]
          refine wpAnyH_ready (rs := [8]) (by kernel_rfl) (by simp) (AllReadyH.cons rfl (fun K hK => ?_) (AllReadyH.nil))
          · skip
            go_simp
            refine (rget_any B L L.length cl p q _ y M bg HGM.out (HSU.out _ hS28) rfl (by omega)).mono ?_
            rintro e W33 ⟨A36, n37, c38, rfl, hn40, hs39, hb35, hc41, hw42⟩
            refine hK.out _ _ (hS28.trans (hb35.mono hS28.size)) (fun hS34 => ?_)
            clear hK K
            simp only [List.setIfInBounds_toArray, List.set_cons_zero, List.set_cons_succ]
            refine wpAnyH_take (i := 9) (v := .tuple #[.agg #[.int .u64 y.sum, .int .i64 y.len, .string y.left, .string y.right, .string y.val], .slice A36 n37 c38, .int .i64 bg]) rfl (by kernel_rfl) (by kernel_rfl) (by kernel_rfl) (fun _ _ _ h => h) (Or.inl ⟨by rfl, fun w' hS' => by exact op_move rfl rfl⟩) hS34 ?_
            change wpAnyH _ _ _ _ _ _ _ (Act.put _ (some 26) (.tuple #[.agg #[.int .u64 y.sum, .int .i64 y.len, .string y.left, .string y.right, .string y.val], .slice A36 n37 c38, .int .i64 bg])) _
            simp only [Act.put, List.setIfInBounds_toArray, List.set_cons_zero, List.set_cons_succ]
            refine wpAnyH_take (i := 10) (v := .agg #[.int .u64 y.sum, .int .i64 y.len, .string y.left, .string y.right, .string y.val]) rfl (by kernel_rfl) (by kernel_rfl) (by kernel_rfl) (fun _ _ _ h => h) (Or.inl ⟨by rfl, fun w' hS' => by go_simp⟩) hS34 ?_
            change wpAnyH _ _ _ _ _ _ _ (Act.put _ (some 36) (.agg #[.int .u64 y.sum, .int .i64 y.len, .string y.left, .string y.right, .string y.val])) _
            simp only [Act.put, List.setIfInBounds_toArray, List.set_cons_zero, List.set_cons_succ]
            refine wpAnyH_take (i := 11) (v := .slice A36 n37 c38) rfl (by kernel_rfl) (by kernel_rfl) (by kernel_rfl) (fun _ _ _ h => h) (Or.inl ⟨by rfl, fun w' hS' => by go_simp⟩) hS34 ?_
            change wpAnyH _ _ _ _ _ _ _ (Act.put _ (some 37) (.slice A36 n37 c38)) _
            simp only [Act.put, List.setIfInBounds_toArray, List.set_cons_zero, List.set_cons_succ]
            refine wpAnyH_take (i := 12) (v := .int .i64 bg) rfl (by kernel_rfl) (by kernel_rfl) (by kernel_rfl) (fun _ _ _ h => h) (Or.inl ⟨by rfl, fun w' hS' => by go_simp⟩) hS34 ?_
            change wpAnyH _ _ _ _ _ _ _ (Act.put _ (some 38) (.int .i64 bg)) _
            simp only [Act.put, List.setIfInBounds_toArray, List.set_cons_zero, List.set_cons_succ]
            refine wpAnyH_ready (rs := [14]) (by kernel_rfl) (by simp) (AllReadyH.cons rfl (fun K hK => ?_) (AllReadyH.nil))
            · skip
              obtain ⟨W43, hr45, hk46, hgr47⟩ := op_store gs27 y zeroS _ (Blk.below hk31 hb35 hk31.lt)
              refine step_op_skip (hr45 _ _ _ _ rfl rfl rfl) rfl ?_
              refine hK.out _ _ (hS34.grown hgr47 hS34.size (fun b e => by injection e with e; rw [← e]; exact Nat.le_trans (hS2).size hg32)) (fun hS44 => ?_)
              clear hK K
              change wpAnyH _ _ _ _ _ _ _ (Act.put _ none (undef)) _
              simp only [Act.put]
              refine wpAnyH_take (i := 15) (v := .slice A36 n37 c38) rfl (by kernel_rfl) (by kernel_rfl) (by kernel_rfl) (fun _ _ _ h => h) (Or.inl ⟨by rfl, fun w' hS' => by exact op_assign rfl rfl⟩) hS44 ?_
              change wpAnyH _ _ _ _ _ _ _ (Act.put _ (some 13) (.slice A36 n37 c38)) _
              simp only [Act.put, List.setIfInBounds_toArray, List.set_cons_zero, List.set_cons_succ]
              refine wpAnyH_take (i := 16) (v := .int .i64 bg) rfl (by kernel_rfl) (by kernel_rfl) (by kernel_rfl) (fun _ _ _ h => h) (Or.inl ⟨by rfl, fun w' hS' => by exact op_assign rfl rfl⟩) hS44 ?_
              change wpAnyH _ _ _ _ _ _ _ (Act.put _ (some 14) (.int .i64 bg)) _
              simp only [Act.put, List.setIfInBounds_toArray, List.set_cons_zero, List.set_cons_succ]
              refine wpAnyH_done (by kernel_rfl) ?_ _
              refine NoPanic.normal ?_
              go_wp2_with fail
              go_meet
              refine ⟨gs27, A36, n37, c38, rfl, rfl, rfl, hk46, hn40, ?_, hc41, hS44, Nat.le_trans (hS2).size hg32, fun a ha => Nat.le_trans (hS28).size (hw42 a ha)⟩
              refine RowAt.kept_ne hs39 hgr47 (fun a ha hm0 e => ?_)
              have h1 := hw42 a ha
              have h2 := (hk31).lt
              omega
      · skip
        obtain ⟨gs49, W48, hr52, hk53, hb51, hg54⟩ := op_allocS w6.drew
        refine step_op_run (hr52 _ _ rfl) rfl ?_
        refine hK.out _ _ (hS0.trans (hb51.mono hS0.size)) (fun hS50 => ?_)
        clear hK K
        change wpAnyH _ _ _ _ _ _ _ (Act.put _ (some 12) (.pointer (some ⟨gs49, 0, none⟩))) _
        simp only [Act.put, List.setIfInBounds_toArray, List.set_cons_zero, List.set_cons_succ]
        refine wpAnyH_ready (rs := [4]) (by kernel_rfl) (by simp) (AllReadyH.cons rfl (fun K hK => ?_) (AllReadyH.nil))
        · skip
          go_simp
          refine (rpart_any c.width c.room c.hits c.misses c.clashes c.evicted (some a) c.parts.length cap p q _ n1 (by omega) HWF.out).mono ?_
          rintro e W55 ⟨rfl, hb57⟩
          rw [HI.out]
          refine hK.out _ _ (hS50.trans (hb57.mono hS50.size)) (fun hS56 => ?_)
          clear hK K
          simp only [List.setIfInBounds_toArray, List.set_cons_zero, List.set_cons_succ]
          refine wpAnyH_take (i := 5) (v := .pointer (some (a.add i))) rfl (by kernel_rfl) (by kernel_rfl) (by kernel_rfl) (fun _ _ _ h => h) (Or.inl ⟨by rfl, fun w' hS' => by go_simp⟩) hS56 ?_
          change wpAnyH _ _ _ _ _ _ _ (Act.put _ (some 32) (.pointer (some (a.add i)))) _
          simp only [Act.put, List.setIfInBounds_toArray, List.set_cons_zero, List.set_cons_succ]
          refine wpAnyH_take (i := 6) (v := .slice B L.length cl) rfl (by kernel_rfl) (by kernel_rfl) (by kernel_rfl) (fun _ _ _ h => h) (Or.inl ⟨by rfl, fun w' hS' => by have k2 := HCE.out _ hS'; go_simp⟩) hS56 ?_
          change wpAnyH _ _ _ _ _ _ _ (Act.put _ (some 33) (.slice B L.length cl)) _
          simp only [Act.put, List.setIfInBounds_toArray, List.set_cons_zero, List.set_cons_succ]
          refine wpAnyH_ready (rs := [8]) (by kernel_rfl) (by simp) (AllReadyH.cons rfl (fun K hK => ?_) (AllReadyH.nil))
          · skip
            go_simp
            refine (rget_any B L L.length cl p q _ y M bg HGM.out (HSU.out _ hS56) rfl (by omega)).mono ?_
            rintro e W58 ⟨A61, n62, c63, rfl, hn65, hs64, hb60, hc66, hw67⟩
            refine hK.out _ _ (hS56.trans (hb60.mono hS56.size)) (fun hS59 => ?_)
            clear hK K
            simp only [List.setIfInBounds_toArray, List.set_cons_zero, List.set_cons_succ]
            refine wpAnyH_take (i := 9) (v := .tuple #[.agg #[.int .u64 y.sum, .int .i64 y.len, .string y.left, .string y.right, .string y.val], .slice A61 n62 c63, .int .i64 bg]) rfl (by kernel_rfl) (by kernel_rfl) (by kernel_rfl) (fun _ _ _ h => h) (Or.inl ⟨by rfl, fun w' hS' => by exact op_move rfl rfl⟩) hS59 ?_
            change wpAnyH _ _ _ _ _ _ _ (Act.put _ (some 26) (.tuple #[.agg #[.int .u64 y.sum, .int .i64 y.len, .string y.left, .string y.right, .string y.val], .slice A61 n62 c63, .int .i64 bg])) _
            simp only [Act.put, List.setIfInBounds_toArray, List.set_cons_zero, List.set_cons_succ]
            refine wpAnyH_take (i := 10) (v := .agg #[.int .u64 y.sum, .int .i64 y.len, .string y.left, .string y.right, .string y.val]) rfl (by kernel_rfl) (by kernel_rfl) (by kernel_rfl) (fun _ _ _ h => h) (Or.inl ⟨by rfl, fun w' hS' => by go_simp⟩) hS59 ?_
            change wpAnyH _ _ _ _ _ _ _ (Act.put _ (some 36) (.agg #[.int .u64 y.sum, .int .i64 y.len, .string y.left, .string y.right, .string y.val])) _
            simp only [Act.put, List.setIfInBounds_toArray, List.set_cons_zero, List.set_cons_succ]
            refine wpAnyH_take (i := 11) (v := .slice A61 n62 c63) rfl (by kernel_rfl) (by kernel_rfl) (by kernel_rfl) (fun _ _ _ h => h) (Or.inl ⟨by rfl, fun w' hS' => by go_simp⟩) hS59 ?_
            change wpAnyH _ _ _ _ _ _ _ (Act.put _ (some 37) (.slice A61 n62 c63)) _
            simp only [Act.put, List.setIfInBounds_toArray, List.set_cons_zero, List.set_cons_succ]
            refine wpAnyH_take (i := 12) (v := .int .i64 bg) rfl (by kernel_rfl) (by kernel_rfl) (by kernel_rfl) (fun _ _ _ h => h) (Or.inl ⟨by rfl, fun w' hS' => by go_simp⟩) hS59 ?_
            change wpAnyH _ _ _ _ _ _ _ (Act.put _ (some 38) (.int .i64 bg)) _
            simp only [Act.put, List.setIfInBounds_toArray, List.set_cons_zero, List.set_cons_succ]
            refine wpAnyH_ready (rs := [14]) (by kernel_rfl) (by simp) (AllReadyH.cons rfl (fun K hK => ?_) (AllReadyH.nil))
            · skip
              obtain ⟨W68, hr70, hk71, hgr72⟩ := op_store gs49 y zeroS _ (Blk.below (Blk.below hk53 hb57 hk53.lt) hb60 (Blk.below hk53 hb57 hk53.lt).lt)
              refine step_op_skip (hr70 _ _ _ _ rfl rfl rfl) rfl ?_
              refine hK.out _ _ (hS59.grown hgr72 hS59.size (fun b e => by injection e with e; rw [← e]; exact Nat.le_trans (hS0).size hg54)) (fun hS69 => ?_)
              clear hK K
              change wpAnyH _ _ _ _ _ _ _ (Act.put _ none (undef)) _
              simp only [Act.put]
              refine wpAnyH_take (i := 15) (v := .slice A61 n62 c63) rfl (by kernel_rfl) (by kernel_rfl) (by kernel_rfl) (fun _ _ _ h => h) (Or.inl ⟨by rfl, fun w' hS' => by exact op_assign rfl rfl⟩) hS69 ?_
              change wpAnyH _ _ _ _ _ _ _ (Act.put _ (some 13) (.slice A61 n62 c63)) _
              simp only [Act.put, List.setIfInBounds_toArray, List.set_cons_zero, List.set_cons_succ]
              refine wpAnyH_take (i := 16) (v := .int .i64 bg) rfl (by kernel_rfl) (by kernel_rfl) (by kernel_rfl) (fun _ _ _ h => h) (Or.inl ⟨by rfl, fun w' hS' => by exact op_assign rfl rfl⟩) hS69 ?_
              change wpAnyH _ _ _ _ _ _ _ (Act.put _ (some 14) (.int .i64 bg)) _
              simp only [Act.put, List.setIfInBounds_toArray, List.set_cons_zero, List.set_cons_succ]
              refine wpAnyH_done (by kernel_rfl) ?_ _
              refine NoPanic.normal ?_
              go_wp2_with fail
              go_meet
              refine ⟨gs49, A61, n62, c63, rfl, rfl, rfl, hk71, hn65, ?_, hc66, hS69, Nat.le_trans (hS0).size hg54, fun a ha => Nat.le_trans (hS56).size (hw67 a ha)⟩
              refine RowAt.kept_ne hs64 hgr72 (fun a ha hm0 e => ?_)
              have h1 := hw67 a ha
              have h2 := ((Blk.below hk53 hb57 hk53.lt)).lt
              omega
    case rest =>
      obtain ⟨gs, A6, n6, c6, rfl, rfl, rfl, hbs, hn6, hs6, hc6, hbw, hg6, hnw6⟩ := hcut
      subst hn6
      obtain ⟨hat, hpart, -⟩ := at_get HPQ.out HI.out HL.out
      have HAT := Lib.hid hat
      have HPT := Lib.hid hpart
      have HBW := Lib.hid hbw
      have HBS := Lib.hid hbs
      have HS6 := Lib.hid hs6
      have HNW6 := Lib.hid hnw6
      have HNc := Lib.hid (Blk.below HN6.out hbw HN6.out.lt)
      have hb1c := below_step HB6.out hbw
      have HB1C := Lib.hid hb1c
      have HHC := Lib.hid (Blk.below HH1.out hb1c HH1.out.lt)
      have HWC := Lib.hid (below_step HW1.out hb1c)
      have hms := HR.out.cm
      have hcs := HR.out.cc
      have hhs := HR.out.ch
      unfold maxC at hms hcs hhs
      clear hat hpart hbw hbs hs6 hnw6 hb1c
      rcases get_cases HR.out HM.out with ⟨h1, rfl, rfl, rfl⟩ | ⟨x, h1, h2, rfl, rfl, rfl⟩ | ⟨x, h1, h2, h3, rfl, rfl, rfl⟩
      case inl =>
        have hg : y = zeroS ∧ bg = 10 := by have h := HGM.out; rw [getM_none HRL.out (HAT.out.symm.trans h1)] at h; simp only [Prod.mk.injEq] at h; exact ⟨h.1.symm, h.2.2.symm⟩
        obtain ⟨rfl, rfl⟩ := hg
        clear h1
        obtain ⟨z0, z1, z2, z3, z4, z5, z6⟩ := box7 HNc.out (Below.refl _ _)
        have q0 := Blk.frozen HNc.out 0
        have q1 := Blk.frozen HNc.out 1
        have q2 := Blk.frozen HNc.out 2
        have q3 := Blk.frozen HNc.out 3
        have q4 := Blk.frozen HNc.out 4
        have q5 := Blk.frozen HNc.out 5
        have q6 := Blk.frozen HNc.out 6
        obtain ⟨y0, y1, y2, y3, y4, y5, y6⟩ := HCB.out _ HBW.out
        obtain ⟨s0, s1, s2, s3, s4⟩ := blk_cells HBS.out (Below.refl _ _)
        go_upto_region 9 with (fail)
        have hb7 := Blk.set_ HNc.out 4 (.int .i64 (min (c.misses + 1) 1099511627776))
        have hw7 : Below w.heap.size w (wc.setCell ⟨gn, 4, none⟩ (.int .i64 (min (c.misses + 1) 1099511627776))) := HWC.out.setCell HNG.out _
        have hh7 := Blk.far HHC.out (show h ≠ gn by have := HNE.out; omega) (p := ⟨gn, 4, none⟩) (.int .i64 (min (c.misses + 1) 1099511627776))
        obtain ⟨w7, hwe⟩ : ∃ w7, w7 = wc.setCell ⟨gn, 4, none⟩ (.int .i64 (min (c.misses + 1) 1099511627776)) := ⟨_, rfl⟩
        rw [← hwe] at hb7 hw7 hh7 ⊢
        have HN7 : Hid (Blk w7 gn 28 #[.int .i64 c.width, .int .i64 c.room, .slice (some a) c.parts.length cap, .int .i64 (c.hits), .int .i64 (min (c.misses + 1) 1099511627776), .int .i64 (c.clashes), .int .i64 (c.evicted)]) := Lib.hid hb7
        have HW7 := Lib.hid hw7
        have HH7 := Lib.hid hh7
        have hne := HNE.out
        clear hb7 hw7 hh7 hwe z0 z1 z2 z3 z4 z5 z6 q0 q1 q2 q3 q4 q5 q6 y0 y1 y2 y3 y4 y5 y6 s0 s1 s2 s3 s4
        refine wp_region_noPanic ?_
        refine wp_region_held_drew (S := fun W => Blk W gn 28 #[.int .i64 c.width, .int .i64 c.room, .slice (some a) c.parts.length cap, .int .i64 (c.hits), .int .i64 (min (c.misses + 1) 1099511627776), .int .i64 (c.clashes), .int .i64 (c.evicted)] ∧ Below w.heap.size w W) (by kernel_rfl) (⟨HN7.out, HW7.out.drew⟩) (fun hS0 => ?_)
        change wpAnyH _ _ _ _ _ 4 #[false, false, false, false] _ (World.drew _)
        refine wpAnyH_take (i := 0) (v := .agg #[.int .i64 c.width, .int .i64 c.room, .slice (some a) c.parts.length cap, .int .i64 (c.hits), .int .i64 (min (c.misses + 1) 1099511627776), .int .i64 (c.clashes), .int .i64 (c.evicted)]) rfl (by kernel_rfl) (by kernel_rfl) (by kernel_rfl) (fun _ _ _ h => h) (Or.inl ⟨by rfl, fun w' hS' => by obtain ⟨y0, y1, y2, y3, y4, y5, y6⟩ := box7 hS'.1 (Below.refl _ _); go_simp⟩) hS0 ?_
        change wpAnyH _ _ _ _ _ _ _ (Act.put _ (some 46) (.agg #[.int .i64 c.width, .int .i64 c.room, .slice (some a) c.parts.length cap, .int .i64 (c.hits), .int .i64 (min (c.misses + 1) 1099511627776), .int .i64 (c.clashes), .int .i64 (c.evicted)])) _
        simp only [Act.put, List.setIfInBounds_toArray, List.set_cons_zero, List.set_cons_succ]
        refine wpAnyH_take (i := 1) (v := .string ⟨#[]⟩) rfl (by kernel_rfl) (by kernel_rfl) (by kernel_rfl) (fun _ _ _ h => h) (Or.inl ⟨by rfl, fun w' hS' => by exact op_assign rfl rfl⟩) hS0 ?_
        change wpAnyH _ _ _ _ _ _ _ (Act.put _ (some 6) (.string ⟨#[]⟩)) _
        simp only [Act.put, List.setIfInBounds_toArray, List.set_cons_zero, List.set_cons_succ]
        refine wpAnyH_ready (rs := [2]) (by kernel_rfl) (by simp) (AllReadyH.cons rfl (fun K hK => ?_) (AllReadyH.nil))
        · skip
          obtain ⟨W1, hr3, hk4, hgr5⟩ := op_store7 (W := w7.drew) HH7.out (c.width) (c.room) (some a) c.parts.length cap ((c.hits)) ((min (c.misses + 1) 1099511627776)) ((c.clashes)) ((c.evicted))
          refine step_op_skip (hr3 _ _ _ _ rfl rfl rfl) rfl ?_
          refine hK.out _ _ ⟨Blk.grown hS0.1 hgr5 (fun e => by injection e with e; omega), hS0.2.grown hgr5 hS0.2.size (fun b e => by injection e with e; rw [← e]; exact HH2.out)⟩ (fun hS2 => ?_)
          clear hK K
          change wpAnyH _ _ _ _ _ _ _ (Act.put _ none (undef)) _
          simp only [Act.put]
          refine wpAnyH_take (i := 3) (v := .int .i64 10) rfl (by kernel_rfl) (by kernel_rfl) (by kernel_rfl) (fun _ _ _ h => h) (Or.inl ⟨by rfl, fun w' hS' => by exact op_assign rfl rfl⟩) hS2 ?_
          change wpAnyH _ _ _ _ _ _ _ (Act.put _ (some 8) (.int .i64 10)) _
          simp only [Act.put, List.setIfInBounds_toArray, List.set_cons_zero, List.set_cons_succ]
          refine wpAnyH_done (by kernel_rfl) ?_ _
          refine NoPanic.normal ?_
          obtain ⟨x0, x1, x2, x3, x4, x5, x6⟩ := box7 hk4 (Below.refl _ _)
          have HSF := Lib.hid hS2.2
          have HLAST := Lib.hid hk4
          go_wp2_with fail
          refine bodyPost_ret (v := .tuple #[.string ⟨#[]⟩, .agg #[.int .i64 c.width, .int .i64 c.room, .slice (some a) c.parts.length cap, .int .i64 (c.hits), .int .i64 (min (c.misses + 1) 1099511627776), .int .i64 (c.clashes), .int .i64 (c.evicted)], .int .i64 10]) (by simp [results, Try.results22, go_sem, x0, x1, x2, x3, x4, x5, x6]) rfl ?_
          exact ⟨some a, c.parts.length, cap, rfl, rfl, HA.out.up HSF.out, HSF.out, hcap⟩
      case inr.inl =>
        have hg : y = x ∧ bg = 0 := by have h := HGM.out; rw [getM_some HRL.out (HAT.out.symm.trans h1)] at h; simp only [Prod.mk.injEq] at h; exact ⟨h.1.symm, h.2.2.symm⟩
        obtain ⟨rfl, rfl⟩ := hg
        clear h1
        cases t1 : (y.left.toList == l.toList) with
        | false =>
          clear h2
          obtain ⟨z0, z1, z2, z3, z4, z5, z6⟩ := box7 HNc.out (Below.refl _ _)
          have q0 := Blk.frozen HNc.out 0
          have q1 := Blk.frozen HNc.out 1
          have q2 := Blk.frozen HNc.out 2
          have q3 := Blk.frozen HNc.out 3
          have q4 := Blk.frozen HNc.out 4
          have q5 := Blk.frozen HNc.out 5
          have q6 := Blk.frozen HNc.out 6
          obtain ⟨y0, y1, y2, y3, y4, y5, y6⟩ := HCB.out _ HBW.out
          obtain ⟨s0, s1, s2, s3, s4⟩ := blk_cells HBS.out (Below.refl _ _)
          go_upto_region 12 with (fail)
          have hb7 := Blk.set_ HNc.out 5 (.int .i64 (min (c.clashes + 1) 1099511627776))
          have hw7 : Below w.heap.size w (wc.setCell ⟨gn, 5, none⟩ (.int .i64 (min (c.clashes + 1) 1099511627776))) := HWC.out.setCell HNG.out _
          have hh7 := Blk.far HHC.out (show h ≠ gn by have := HNE.out; omega) (p := ⟨gn, 5, none⟩) (.int .i64 (min (c.clashes + 1) 1099511627776))
          obtain ⟨w7, hwe⟩ : ∃ w7, w7 = wc.setCell ⟨gn, 5, none⟩ (.int .i64 (min (c.clashes + 1) 1099511627776)) := ⟨_, rfl⟩
          rw [← hwe] at hb7 hw7 hh7 ⊢
          have HN7 : Hid (Blk w7 gn 28 #[.int .i64 c.width, .int .i64 c.room, .slice (some a) c.parts.length cap, .int .i64 (c.hits), .int .i64 (c.misses), .int .i64 (min (c.clashes + 1) 1099511627776), .int .i64 (c.evicted)]) := Lib.hid hb7
          have HW7 := Lib.hid hw7
          have HH7 := Lib.hid hh7
          have hne := HNE.out
          clear hb7 hw7 hh7 hwe z0 z1 z2 z3 z4 z5 z6 q0 q1 q2 q3 q4 q5 q6 y0 y1 y2 y3 y4 y5 y6 s0 s1 s2 s3 s4
          refine wp_region_noPanic ?_
          refine wp_region_held_drew (S := fun W => Blk W gn 28 #[.int .i64 c.width, .int .i64 c.room, .slice (some a) c.parts.length cap, .int .i64 (c.hits), .int .i64 (c.misses), .int .i64 (min (c.clashes + 1) 1099511627776), .int .i64 (c.evicted)] ∧ Below w.heap.size w W) (by kernel_rfl) (⟨HN7.out, HW7.out.drew⟩) (fun hS0 => ?_)
          change wpAnyH _ _ _ _ _ 4 #[false, false, false, false] _ (World.drew _)
          refine wpAnyH_take (i := 0) (v := .agg #[.int .i64 c.width, .int .i64 c.room, .slice (some a) c.parts.length cap, .int .i64 (c.hits), .int .i64 (c.misses), .int .i64 (min (c.clashes + 1) 1099511627776), .int .i64 (c.evicted)]) rfl (by kernel_rfl) (by kernel_rfl) (by kernel_rfl) (fun _ _ _ h => h) (Or.inl ⟨by rfl, fun w' hS' => by obtain ⟨y0, y1, y2, y3, y4, y5, y6⟩ := box7 hS'.1 (Below.refl _ _); go_simp⟩) hS0 ?_
          change wpAnyH _ _ _ _ _ _ _ (Act.put _ (some 62) (.agg #[.int .i64 c.width, .int .i64 c.room, .slice (some a) c.parts.length cap, .int .i64 (c.hits), .int .i64 (c.misses), .int .i64 (min (c.clashes + 1) 1099511627776), .int .i64 (c.evicted)])) _
          simp only [Act.put, List.setIfInBounds_toArray, List.set_cons_zero, List.set_cons_succ]
          refine wpAnyH_take (i := 1) (v := .string ⟨#[]⟩) rfl (by kernel_rfl) (by kernel_rfl) (by kernel_rfl) (fun _ _ _ h => h) (Or.inl ⟨by rfl, fun w' hS' => by exact op_assign rfl rfl⟩) hS0 ?_
          change wpAnyH _ _ _ _ _ _ _ (Act.put _ (some 6) (.string ⟨#[]⟩)) _
          simp only [Act.put, List.setIfInBounds_toArray, List.set_cons_zero, List.set_cons_succ]
          refine wpAnyH_ready (rs := [2]) (by kernel_rfl) (by simp) (AllReadyH.cons rfl (fun K hK => ?_) (AllReadyH.nil))
          · skip
            obtain ⟨W1, hr3, hk4, hgr5⟩ := op_store7 (W := w7.drew) HH7.out (c.width) (c.room) (some a) c.parts.length cap ((c.hits)) ((c.misses)) ((min (c.clashes + 1) 1099511627776)) ((c.evicted))
            refine step_op_skip (hr3 _ _ _ _ rfl rfl rfl) rfl ?_
            refine hK.out _ _ ⟨Blk.grown hS0.1 hgr5 (fun e => by injection e with e; omega), hS0.2.grown hgr5 hS0.2.size (fun b e => by injection e with e; rw [← e]; exact HH2.out)⟩ (fun hS2 => ?_)
            clear hK K
            change wpAnyH _ _ _ _ _ _ _ (Act.put _ none (undef)) _
            simp only [Act.put]
            refine wpAnyH_take (i := 3) (v := .int .i64 10) rfl (by kernel_rfl) (by kernel_rfl) (by kernel_rfl) (fun _ _ _ h => h) (Or.inl ⟨by rfl, fun w' hS' => by exact op_assign rfl rfl⟩) hS2 ?_
            change wpAnyH _ _ _ _ _ _ _ (Act.put _ (some 8) (.int .i64 10)) _
            simp only [Act.put, List.setIfInBounds_toArray, List.set_cons_zero, List.set_cons_succ]
            refine wpAnyH_done (by kernel_rfl) ?_ _
            refine NoPanic.normal ?_
            obtain ⟨x0, x1, x2, x3, x4, x5, x6⟩ := box7 hk4 (Below.refl _ _)
            have HSF := Lib.hid hS2.2
            have HLAST := Lib.hid hk4
            go_wp2_with fail
            refine bodyPost_ret (v := .tuple #[.string ⟨#[]⟩, .agg #[.int .i64 c.width, .int .i64 c.room, .slice (some a) c.parts.length cap, .int .i64 (c.hits), .int .i64 (c.misses), .int .i64 (min (c.clashes + 1) 1099511627776), .int .i64 (c.evicted)], .int .i64 10]) (by simp [results, Try.results22, go_sem, x0, x1, x2, x3, x4, x5, x6]) rfl ?_
            exact ⟨some a, c.parts.length, cap, rfl, rfl, HA.out.up HSF.out, HSF.out, hcap⟩
        | true =>
          cases t2 : (y.right.toList == r.toList) with
          | true => exact absurd ⟨text_eq t1, text_eq t2⟩ h2
          | false =>
            clear h2
            obtain ⟨z0, z1, z2, z3, z4, z5, z6⟩ := box7 HNc.out (Below.refl _ _)
            have q0 := Blk.frozen HNc.out 0
            have q1 := Blk.frozen HNc.out 1
            have q2 := Blk.frozen HNc.out 2
            have q3 := Blk.frozen HNc.out 3
            have q4 := Blk.frozen HNc.out 4
            have q5 := Blk.frozen HNc.out 5
            have q6 := Blk.frozen HNc.out 6
            obtain ⟨y0, y1, y2, y3, y4, y5, y6⟩ := HCB.out _ HBW.out
            obtain ⟨s0, s1, s2, s3, s4⟩ := blk_cells HBS.out (Below.refl _ _)
            go_upto_region 12 with (fail)
            have hb7 := Blk.set_ HNc.out 5 (.int .i64 (min (c.clashes + 1) 1099511627776))
            have hw7 : Below w.heap.size w (wc.setCell ⟨gn, 5, none⟩ (.int .i64 (min (c.clashes + 1) 1099511627776))) := HWC.out.setCell HNG.out _
            have hh7 := Blk.far HHC.out (show h ≠ gn by have := HNE.out; omega) (p := ⟨gn, 5, none⟩) (.int .i64 (min (c.clashes + 1) 1099511627776))
            obtain ⟨w7, hwe⟩ : ∃ w7, w7 = wc.setCell ⟨gn, 5, none⟩ (.int .i64 (min (c.clashes + 1) 1099511627776)) := ⟨_, rfl⟩
            rw [← hwe] at hb7 hw7 hh7 ⊢
            have HN7 : Hid (Blk w7 gn 28 #[.int .i64 c.width, .int .i64 c.room, .slice (some a) c.parts.length cap, .int .i64 (c.hits), .int .i64 (c.misses), .int .i64 (min (c.clashes + 1) 1099511627776), .int .i64 (c.evicted)]) := Lib.hid hb7
            have HW7 := Lib.hid hw7
            have HH7 := Lib.hid hh7
            have hne := HNE.out
            clear hb7 hw7 hh7 hwe z0 z1 z2 z3 z4 z5 z6 q0 q1 q2 q3 q4 q5 q6 y0 y1 y2 y3 y4 y5 y6 s0 s1 s2 s3 s4
            refine wp_region_noPanic ?_
            refine wp_region_held_drew (S := fun W => Blk W gn 28 #[.int .i64 c.width, .int .i64 c.room, .slice (some a) c.parts.length cap, .int .i64 (c.hits), .int .i64 (c.misses), .int .i64 (min (c.clashes + 1) 1099511627776), .int .i64 (c.evicted)] ∧ Below w.heap.size w W) (by kernel_rfl) (⟨HN7.out, HW7.out.drew⟩) (fun hS0 => ?_)
            change wpAnyH _ _ _ _ _ 4 #[false, false, false, false] _ (World.drew _)
            refine wpAnyH_take (i := 0) (v := .agg #[.int .i64 c.width, .int .i64 c.room, .slice (some a) c.parts.length cap, .int .i64 (c.hits), .int .i64 (c.misses), .int .i64 (min (c.clashes + 1) 1099511627776), .int .i64 (c.evicted)]) rfl (by kernel_rfl) (by kernel_rfl) (by kernel_rfl) (fun _ _ _ h => h) (Or.inl ⟨by rfl, fun w' hS' => by obtain ⟨y0, y1, y2, y3, y4, y5, y6⟩ := box7 hS'.1 (Below.refl _ _); go_simp⟩) hS0 ?_
            change wpAnyH _ _ _ _ _ _ _ (Act.put _ (some 62) (.agg #[.int .i64 c.width, .int .i64 c.room, .slice (some a) c.parts.length cap, .int .i64 (c.hits), .int .i64 (c.misses), .int .i64 (min (c.clashes + 1) 1099511627776), .int .i64 (c.evicted)])) _
            simp only [Act.put, List.setIfInBounds_toArray, List.set_cons_zero, List.set_cons_succ]
            refine wpAnyH_take (i := 1) (v := .string ⟨#[]⟩) rfl (by kernel_rfl) (by kernel_rfl) (by kernel_rfl) (fun _ _ _ h => h) (Or.inl ⟨by rfl, fun w' hS' => by exact op_assign rfl rfl⟩) hS0 ?_
            change wpAnyH _ _ _ _ _ _ _ (Act.put _ (some 6) (.string ⟨#[]⟩)) _
            simp only [Act.put, List.setIfInBounds_toArray, List.set_cons_zero, List.set_cons_succ]
            refine wpAnyH_ready (rs := [2]) (by kernel_rfl) (by simp) (AllReadyH.cons rfl (fun K hK => ?_) (AllReadyH.nil))
            · skip
              obtain ⟨W1, hr3, hk4, hgr5⟩ := op_store7 (W := w7.drew) HH7.out (c.width) (c.room) (some a) c.parts.length cap ((c.hits)) ((c.misses)) ((min (c.clashes + 1) 1099511627776)) ((c.evicted))
              refine step_op_skip (hr3 _ _ _ _ rfl rfl rfl) rfl ?_
              refine hK.out _ _ ⟨Blk.grown hS0.1 hgr5 (fun e => by injection e with e; omega), hS0.2.grown hgr5 hS0.2.size (fun b e => by injection e with e; rw [← e]; exact HH2.out)⟩ (fun hS2 => ?_)
              clear hK K
              change wpAnyH _ _ _ _ _ _ _ (Act.put _ none (undef)) _
              simp only [Act.put]
              refine wpAnyH_take (i := 3) (v := .int .i64 10) rfl (by kernel_rfl) (by kernel_rfl) (by kernel_rfl) (fun _ _ _ h => h) (Or.inl ⟨by rfl, fun w' hS' => by exact op_assign rfl rfl⟩) hS2 ?_
              change wpAnyH _ _ _ _ _ _ _ (Act.put _ (some 8) (.int .i64 10)) _
              simp only [Act.put, List.setIfInBounds_toArray, List.set_cons_zero, List.set_cons_succ]
              refine wpAnyH_done (by kernel_rfl) ?_ _
              refine NoPanic.normal ?_
              obtain ⟨x0, x1, x2, x3, x4, x5, x6⟩ := box7 hk4 (Below.refl _ _)
              have HSF := Lib.hid hS2.2
              have HLAST := Lib.hid hk4
              go_wp2_with fail
              refine bodyPost_ret (v := .tuple #[.string ⟨#[]⟩, .agg #[.int .i64 c.width, .int .i64 c.room, .slice (some a) c.parts.length cap, .int .i64 (c.hits), .int .i64 (c.misses), .int .i64 (min (c.clashes + 1) 1099511627776), .int .i64 (c.evicted)], .int .i64 10]) (by simp [results, Try.results22, go_sem, x0, x1, x2, x3, x4, x5, x6]) rfl ?_
              exact ⟨some a, c.parts.length, cap, rfl, rfl, HA.out.up HSF.out, HSF.out, hcap⟩
      case inr.inr =>
        have hg : y = x ∧ M = x :: withoutS L (p, q) ∧ bg = 0 := by have h := HGM.out; rw [getM_some HRL.out (HAT.out.symm.trans h1)] at h; simp only [Prod.mk.injEq] at h; exact ⟨h.1.symm, h.2.1.symm, h.2.2.symm⟩
        obtain ⟨rfl, hMM, rfl⟩ := hg
        have HMM : Hid (M = y :: withoutS L (p, q)) := Lib.hid hMM
        clear hMM
        have t1 : (y.left.toList == l.toList) = true := by rw [h2]; simp
        have t2 : (y.right.toList == r.toList) = true := by rw [h3]; simp
        clear h1 h2 h3
        obtain ⟨Rr, hRR, hok⟩ := HA.out.rows
        have HRR0 := Lib.hid hRR
        have HOK := Lib.hid hok
        have hgk : gn < gk := HGK.out
        have hgs : gn < gs := Nat.lt_of_lt_of_le HN6.out.lt hg6
        have HNW : Hid (∀ a, A6 = some a → gn < a.block) := Lib.hid fun a ha => Nat.lt_of_lt_of_le HN6.out.lt (HNW6.out a ha)
        have hhn := HNE.out
        have hgg : g < gn := HGG.out
        have HIT0 : Hid (HitS w wc g gk gn h gs c a cap p q y A6 M) := Lib.hid ⟨HWC.out, Blk.below HX1.out HB1C.out HX1.out.lt, Blk.below HK6.out HBW.out HK6.out.lt, ⟨_, HNc.out⟩, HHC.out, HBS.out, HS6.out⟩
        clear hRR hok
        obtain ⟨y0, y1, y2, y3, y4, y5, y6⟩ := HCB.out _ HBW.out
        obtain ⟨s0, s1, s2, s3, s4⟩ := blk_cells HBS.out (Below.refl _ _)
        go_upto_region 13 with (fail)
        clear y0 y1 y2 y3 y4 y5 y6 s0 s1 s2 s3 s4
        refine wp_region_noPanic ?_
        refine wp_region_held_drew (S := fun W => HitS w W g gk gn h gs c a cap p q y A6 M) (by kernel_rfl) (HIT0.out.drew) (fun hS0 => ?_)
        change wpAnyH _ _ _ _ _ 9 #[false, false, false, false, false, false, false, false, false] _ (World.drew _)
        refine wpAnyH_take (i := 0) (v := .pointer (some ⟨g, 2, none⟩)) rfl (by kernel_rfl) (by kernel_rfl) (by kernel_rfl) (fun _ _ _ h => h) (Or.inl ⟨by rfl, fun w' hS' => by go_simp⟩) hS0 ?_
        change wpAnyH _ _ _ _ _ _ _ (Act.put _ (some 63) (.pointer (some ⟨g, 2, none⟩))) _
        simp only [Act.put, List.setIfInBounds_toArray, List.set_cons_zero, List.set_cons_succ]
        refine wpAnyH_take (i := 1) (v := .slice (some a) c.parts.length cap) rfl (by kernel_rfl) (by kernel_rfl) (by kernel_rfl) (fun _ _ _ h => h) (Or.inl ⟨by rfl, fun w' hS' => by obtain ⟨y0, y1, y2, y3, y4, y5, y6⟩ := box7 hS'.box (Below.refl _ _); go_simp⟩) hS0 ?_
        change wpAnyH _ _ _ _ _ _ _ (Act.put _ (some 64) (.slice (some a) c.parts.length cap)) _
        simp only [Act.put, List.setIfInBounds_toArray, List.set_cons_zero, List.set_cons_succ]
        refine wpAnyH_take (i := 2) (v := .agg #[.int .i64 c.width, .int .i64 c.room, .slice (some a) c.parts.length cap, .int .i64 c.hits, .int .i64 c.misses, .int .i64 c.clashes, .int .i64 c.evicted]) rfl (by kernel_rfl) (by kernel_rfl) (by kernel_rfl) (fun _ _ _ h => h) (Or.inl ⟨by rfl, fun w' hS' => by obtain ⟨y0, y1, y2, y3, y4, y5, y6⟩ := box7 hS'.box (Below.refl _ _); go_simp⟩) hS0 ?_
        change wpAnyH _ _ _ _ _ _ _ (Act.put _ (some 65) (.agg #[.int .i64 c.width, .int .i64 c.room, .slice (some a) c.parts.length cap, .int .i64 c.hits, .int .i64 c.misses, .int .i64 c.clashes, .int .i64 c.evicted])) _
        simp only [Act.put, List.setIfInBounds_toArray, List.set_cons_zero, List.set_cons_succ]
        refine wpAnyH_take (i := 3) (v := .agg #[.int .u64 p, .int .i64 q]) rfl (by kernel_rfl) (by kernel_rfl) (by kernel_rfl) (fun _ _ _ h => h) (Or.inl ⟨by rfl, fun w' hS' => by have k0 := Blk.cell hS'.key 0; have k1 := Blk.cell hS'.key 1; simp only [List.getElem?_toArray, List.getElem?_cons_zero, List.getElem?_cons_succ] at k0 k1; go_simp⟩) hS0 ?_
        change wpAnyH _ _ _ _ _ _ _ (Act.put _ (some 66) (.agg #[.int .u64 p, .int .i64 q])) _
        simp only [Act.put, List.setIfInBounds_toArray, List.set_cons_zero, List.set_cons_succ]
        refine wpAnyH_take (i := 5) (v := .slice A6 M.length c6) rfl (by kernel_rfl) (by kernel_rfl) (by kernel_rfl) (fun _ _ _ h => h) (Or.inl ⟨by rfl, fun w' hS' => by exact op_move rfl rfl⟩) hS0 ?_
        change wpAnyH _ _ _ _ _ _ _ (Act.put _ (some 68) (.slice A6 M.length c6)) _
        simp only [Act.put, List.setIfInBounds_toArray, List.set_cons_zero, List.set_cons_succ]
        refine wpAnyH_ready (rs := [4]) (by kernel_rfl) (by simp) (AllReadyH.cons rfl (fun K hK => ?_) (AllReadyH.nil))
        · skip
          go_simp
          refine (rpart_any c.width c.room c.hits c.misses c.clashes c.evicted (some a) c.parts.length cap p q _ n1 (by omega) HWF.out).mono ?_
          rintro e W1 ⟨rfl, hb3⟩
          rw [HI.out]
          refine hK.out _ _ (hS0.up hb3) (fun hS2 => ?_)
          clear hK K
          simp only [List.setIfInBounds_toArray, List.set_cons_zero, List.set_cons_succ]
          refine wpAnyH_ready (rs := [6]) (by kernel_rfl) (by simp) (AllReadyH.cons rfl (fun K hK => ?_) (AllReadyH.nil))
          · skip
            go_simp
            refine (rwith_any (some a) Rr c.parts.length cap i A6 M.length c6 _ (HRR0.out.up hS2.below) (HOK.out.1) (by rw [HOK.out.1]; exact hilt) (by rw [HOK.out.1]; exact hlen)).mono ?_
            rintro e W4 ⟨gw7, cw8, rfl, hro9, hb6, hgw10, hcpw⟩
            refine hK.out _ _ (hS2.up hb6) (fun hS5 => ?_)
            clear hK K
            simp only [List.setIfInBounds_toArray, List.set_cons_zero, List.set_cons_succ]
            refine wpAnyH_take (i := 7) (v := .pointer (some ⟨gn, 2, none⟩)) rfl (by kernel_rfl) (by kernel_rfl) (by kernel_rfl) (fun _ _ _ h => h) (Or.inl ⟨by rfl, fun w' hS' => by go_simp⟩) hS5 ?_
            change wpAnyH _ _ _ _ _ _ _ (Act.put _ (some 70) (.pointer (some ⟨gn, 2, none⟩))) _
            simp only [Act.put, List.setIfInBounds_toArray, List.set_cons_zero, List.set_cons_succ]
            refine wpAnyH_ready (rs := [8]) (by kernel_rfl) (by simp) (AllReadyH.cons rfl (fun K hK => ?_) (AllReadyH.nil))
            · skip
              obtain ⟨v9, hv9⟩ := hS5.now
              have hlg : gn < gw7 := Nat.lt_of_lt_of_le (hS2.now.elim fun _ hz => hz.lt) hgw10
              obtain ⟨W11, hrs, hes⟩ := op_store_row (some ⟨gw7, 0, none⟩) Rr.length cw8 hv9
              refine step_op_skip (hrs _ _ _ _ rfl rfl rfl) rfl ?_
              have hs8 : HitS w W11 g gk gn h gs c a cap p q y A6 M := by rw [hes]; exact hS5.set hv9 HNG.out hgk HNE.out hgs HNW.out hgg _
              have hn8 : Blk W11 gn 28 #[.int .i64 c.width, .int .i64 c.room, .slice (some ⟨gw7, 0, none⟩) Rr.length cw8, .int .i64 (c.hits), .int .i64 (c.misses), .int .i64 (c.clashes), .int .i64 (c.evicted)] := by rw [hes]; exact Blk.set_ hv9 2 _
              have hr8 : RowAt rsv 1 W11 (some ⟨gw7, 0, none⟩) (Rr.set i (A6, M.length, c6)) := by rw [hes]; exact RowAt.kept_ne hro9 (grown_set _ gn 2 _) (fun a ha _ e => by injection ha with ha; rw [← ha] at e; simp only at e; omega)
              refine hK.out _ _ hs8 (fun hS12 => ?_)
              have HN8 := Lib.hid hn8
              have HR8 := Lib.hid hr8
              clear hes hrs hv9 hs8 hn8 hr8
              clear hK K
              change wpAnyH _ _ _ _ _ _ _ (Act.put _ none (undef)) _
              simp only [Act.put]
              refine wpAnyH_done (by kernel_rfl) ?_ _
              refine NoPanic.normal ?_
              have HS8 := Lib.hid hS12
              obtain ⟨y0, y1, y2, y3, y4, y5, y6⟩ := box7 HS8.out.box (Below.refl _ _)
              obtain ⟨z0, z1, z2, z3, z4, z5, z6⟩ := box7 HN8.out (Below.refl _ _)
              have q0 := Blk.frozen HN8.out 0
              have q1 := Blk.frozen HN8.out 1
              have q2 := Blk.frozen HN8.out 2
              have q3 := Blk.frozen HN8.out 3
              have q4 := Blk.frozen HN8.out 4
              have q5 := Blk.frozen HN8.out 5
              have q6 := Blk.frozen HN8.out 6
              go_upto_region 15 with (fail)
              have HT9 : Hid (HitT w (W11.setCell ⟨gn, 3, none⟩ (.int .i64 (min (c.hits + 1) 1099511627776))) gn gs h gw7 cw8 Rr.length (Rr.set i (A6, M.length, c6)) c y A6 M (min (c.hits + 1) 1099511627776)) :=
                Lib.hid ⟨HS8.out.below.setCell HNG.out _, Blk.set_ HN8.out 3 _, Blk.far HS8.out.slot (show gs ≠ gn by omega) (p := ⟨gn, 3, none⟩) _, ⟨_, _, _, _, _, _, _, Blk.far HS8.out.res (show h ≠ gn by omega) (p := ⟨gn, 3, none⟩) _⟩, RowAt.kept_ne HR8.out (grown_set _ gn 3 _) (fun a ha _ e => by injection ha with ha; rw [← ha] at e; simp only at e; omega), RowAt.kept_ne HS8.out.row (grown_set _ gn 3 _) (fun a ha _ e => by have := HNW.out a ha; omega)⟩
              obtain ⟨w9, hw9⟩ : ∃ w9, w9 = W11.setCell ⟨gn, 3, none⟩ (.int .i64 (min (c.hits + 1) 1099511627776)) := ⟨_, rfl⟩
              rw [← hw9] at HT9 ⊢
              have HGS : Hid (gn < gs) := Lib.hid hgs
              have HGP : Hid (gn < gw7) := Lib.hid hlg
              clear hw9 y0 y1 y2 y3 y4 y5 y6 z0 z1 z2 z3 z4 z5 z6 q0 q1 q2 q3 q4 q5 q6
              refine wp_region_noPanic ?_
              refine wp_region_held_drew (S := fun W => HitT w W gn gs h gw7 cw8 Rr.length (Rr.set i (A6, M.length, c6)) c y A6 M (min (c.hits + 1) 1099511627776)) (by kernel_rfl) (HT9.out.drew) (fun hS0 => ?_)
              change wpAnyH _ _ _ _ _ 6 #[false, false, false, false, false, false] _ (World.drew _)
              refine wpAnyH_take (i := 0) (v := .pointer (some ⟨gs, 4, none⟩)) rfl (by kernel_rfl) (by kernel_rfl) (by kernel_rfl) (fun _ _ _ h => h) (Or.inl ⟨by rfl, fun w' hS' => by go_simp⟩) hS0 ?_
              change wpAnyH _ _ _ _ _ _ _ (Act.put _ (some 76) (.pointer (some ⟨gs, 4, none⟩))) _
              simp only [Act.put, List.setIfInBounds_toArray, List.set_cons_zero, List.set_cons_succ]
              refine wpAnyH_take (i := 1) (v := .string y.val) rfl (by kernel_rfl) (by kernel_rfl) (by kernel_rfl) (fun _ _ _ h => h) (Or.inl ⟨by rfl, fun w' hS' => by obtain ⟨y0, y1, y2, y3, y4⟩ := blk_cells hS'.slot (Below.refl _ _); go_simp⟩) hS0 ?_
              change wpAnyH _ _ _ _ _ _ _ (Act.put _ (some 77) (.string y.val)) _
              simp only [Act.put, List.setIfInBounds_toArray, List.set_cons_zero, List.set_cons_succ]
              refine wpAnyH_take (i := 2) (v := .agg #[.int .i64 c.width, .int .i64 c.room, .slice (some ⟨gw7, 0, none⟩) Rr.length cw8, .int .i64 (min (c.hits + 1) 1099511627776), .int .i64 (c.misses), .int .i64 (c.clashes), .int .i64 (c.evicted)]) rfl (by kernel_rfl) (by kernel_rfl) (by kernel_rfl) (fun _ _ _ h => h) (Or.inl ⟨by rfl, fun w' hS' => by obtain ⟨y0, y1, y2, y3, y4, y5, y6⟩ := box7 hS'.now (Below.refl _ _); go_simp⟩) hS0 ?_
              change wpAnyH _ _ _ _ _ _ _ (Act.put _ (some 78) (.agg #[.int .i64 c.width, .int .i64 c.room, .slice (some ⟨gw7, 0, none⟩) Rr.length cw8, .int .i64 (min (c.hits + 1) 1099511627776), .int .i64 (c.misses), .int .i64 (c.clashes), .int .i64 (c.evicted)])) _
              simp only [Act.put, List.setIfInBounds_toArray, List.set_cons_zero, List.set_cons_succ]
              refine wpAnyH_take (i := 3) (v := .string y.val) rfl (by kernel_rfl) (by kernel_rfl) (by kernel_rfl) (fun _ _ _ h => h) (Or.inl ⟨by rfl, fun w' hS' => by exact op_assign rfl rfl⟩) hS0 ?_
              change wpAnyH _ _ _ _ _ _ _ (Act.put _ (some 6) (.string y.val)) _
              simp only [Act.put, List.setIfInBounds_toArray, List.set_cons_zero, List.set_cons_succ]
              refine wpAnyH_ready (rs := [4]) (by kernel_rfl) (by simp) (AllReadyH.cons rfl (fun K hK => ?_) (AllReadyH.nil))
              · skip
                obtain ⟨_, _, _, _, _, _, _, hres⟩ := hS0.res'
                obtain ⟨W1, hrs, hkb, hgr⟩ := op_store7 hres (c.width) (c.room) (some ⟨gw7, 0, none⟩) Rr.length cw8 ((min (c.hits + 1) 1099511627776)) ((c.misses)) ((c.clashes)) ((c.evicted))
                refine step_op_skip (hrs _ _ _ _ rfl rfl rfl) rfl ?_
                have HLAST := Lib.hid hkb
                refine hK.out _ _ (hS0.last HH2.out HNE.out HGS.out HGP.out HNW.out hkb hgr) (fun hS2 => ?_)
                clear hrs hkb hgr
                clear hK K
                change wpAnyH _ _ _ _ _ _ _ (Act.put _ none (undef)) _
                simp only [Act.put]
                refine wpAnyH_take (i := 5) (v := .int .i64 0) rfl (by kernel_rfl) (by kernel_rfl) (by kernel_rfl) (fun _ _ _ h => h) (Or.inl ⟨by rfl, fun w' hS' => by exact op_assign rfl rfl⟩) hS2 ?_
                change wpAnyH _ _ _ _ _ _ _ (Act.put _ (some 8) (.int .i64 0)) _
                simp only [Act.put, List.setIfInBounds_toArray, List.set_cons_zero, List.set_cons_succ]
                refine wpAnyH_done (by kernel_rfl) ?_ _
                refine NoPanic.normal ?_
                obtain ⟨x0, x1, x2, x3, x4, x5, x6⟩ := box7 HLAST.out (Below.refl _ _)
                have HSF := Lib.hid hS2
                go_wp2_with fail
                refine bodyPost_ret (v := .tuple #[.string y.val, .agg #[.int .i64 c.width, .int .i64 c.room, .slice (some ⟨gw7, 0, none⟩) Rr.length cw8, .int .i64 (min (c.hits + 1) 1099511627776), .int .i64 (c.misses), .int .i64 (c.clashes), .int .i64 (c.evicted)], .int .i64 0]) (by simp [results, Try.results22, go_sem, x0, x1, x2, x3, x4, x5, x6]) rfl ?_
                refine ⟨some ⟨gw7, 0, none⟩, Rr.length, cw8, rfl, by rw [HOK.out.1]; simp, ?_, HSF.out.below, hcpw⟩
                have hok := (HOK.out.up HSF.out.below).set i HSF.out.row hc6 (fun b eb hxb => by have h1 := HXX.out _ hxb; have h2 := HNW.out b eb; have h3 := HNG.out; omega)
                have := PartsAt.of_rows HSF.out.rows hok (fun b eb hxb => by have h1 := HXX.out _ hxb; injection eb with eb; rw [← eb] at h1; simp only at h1; have h2 := HGP.out; have h3 := HNG.out; omega)
                rw [HMM.out] at this
                rw [HNUM.out, part_is HL.out, HPQ.out]
                exact this

end Go.Proofs.Ytjifmfgfmciaeaa
