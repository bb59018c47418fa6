/-
  What lies in memory while Diff goes on: the variables that its closure has caught, and the script. No walk.
-/
import Derived.Test.YtmonemgjgcfhlaaGoing
namespace Go.Proofs.Ytmonemgjgcfhlaa
open Go.RowKit

/-- the variables that the closure has caught, and where they lie -/
structure Place where
  b7 : Nat
  b8 : Nat
  b9 : Nat
  b10 : Nat
  base : Nat
structure Place.ok (q : Place) (B : Nat) : Prop where
  l7 : B ≤ q.b7
  l8 : B ≤ q.b8
  l9 : B ≤ q.b9
  l10 : B ≤ q.b10
  u7 : q.b7 < q.base
  u8 : q.b8 < q.base
  u9 : q.b9 < q.base
  u10 : q.b10 < q.base
  n78 : q.b7 ≠ q.b8
  n79 : q.b7 ≠ q.b9
  n7t : q.b7 ≠ q.b10
  n89 : q.b8 ≠ q.b9
  n8t : q.b8 ≠ q.b10
  n9t : q.b9 ≠ q.b10
structure DMem (wT : World) (q : Place) (bt : Nat) (lx ly c : Nat) (v : Value) (L : List MEd) (wr : World) : Prop where
  below : Below wT.heap.size wT wr
  k7 : Blk wr q.b7 47 #[.pointer (some ⟨bt, 0, none⟩)]
  k8 : Blk wr q.b8 3 #[.int .i64 (lx : Nat)]
  k9 : Blk wr q.b9 3 #[.int .i64 (ly : Nat)]
  k10 : Blk wr q.b10 3 #[.int .i64 (c : Nat)]
  scr : Scr wr q.base v L
  size : q.base ≤ wr.heap.size
section
variable {wT wr w' : World} {q : Place} {bt lx ly c : Nat} {v v' : Value} {L L' : List MEd}
theorem DMem.step (h : DMem wT q bt lx ly c v L wr) (hb : Below wr.heap.size wr w') : DMem wT q bt lx ly c v L w' :=
  ⟨below_step h.below hb, h.k7.below hb h.k7.lt, h.k8.below hb h.k8.lt, h.k9.below hb h.k9.lt, h.k10.below hb h.k10.lt, h.scr.step hb, Nat.le_trans h.size hb.size⟩
theorem DMem.drewN (h : DMem wT q bt lx ly c v L wr) (n : Nat) : DMem wT q bt lx ly c v L (wr.drewN n) := h.step (below_drewN (Below.refl _ _) n)
theorem DMem.with_ (h : DMem wT q bt lx ly c v L wr) (hq : q.ok wT.heap.size) (hS : Scr w' q.base v' L') (hb : Below q.base wr w') : DMem wT q bt lx ly c v' L' w' :=
  ⟨h.below.trans (hb.mono (Nat.le_trans hq.l7 (Nat.le_of_lt hq.u7))), h.k7.below hb hq.u7, h.k8.below hb hq.u8, h.k9.below hb hq.u9, h.k10.below hb hq.u10, hS, Nat.le_trans h.size hb.size⟩
theorem DMem.set8 (h : DMem wT q bt lx ly c v L wr) (hq : q.ok wT.heap.size) (n : Nat) : DMem wT q bt n ly c v L (wr.setCell ⟨q.b8, 0, none⟩ (.int .i64 (n : Nat))) :=
  ⟨h.below.setCell (p := ⟨q.b8, 0, none⟩) hq.l8 _, h.k7.far (p := ⟨q.b8, 0, none⟩) hq.n78 _, h.k8.set_ 0 _, h.k9.far (p := ⟨q.b8, 0, none⟩) (Ne.symm hq.n89) _, h.k10.far (p := ⟨q.b8, 0, none⟩) (Ne.symm hq.n8t) _, h.scr.set_far hq.u8 0 _, by simpa using h.size⟩
theorem DMem.set9 (h : DMem wT q bt lx ly c v L wr) (hq : q.ok wT.heap.size) (n : Nat) : DMem wT q bt lx n c v L (wr.setCell ⟨q.b9, 0, none⟩ (.int .i64 (n : Nat))) :=
  ⟨h.below.setCell (p := ⟨q.b9, 0, none⟩) hq.l9 _, h.k7.far (p := ⟨q.b9, 0, none⟩) hq.n79 _, h.k8.far (p := ⟨q.b9, 0, none⟩) hq.n89 _, h.k9.set_ 0 _, h.k10.far (p := ⟨q.b9, 0, none⟩) (Ne.symm hq.n9t) _, h.scr.set_far hq.u9 0 _, by simpa using h.size⟩
theorem DMem.set10 (h : DMem wT q bt lx ly c v L wr) (hq : q.ok wT.heap.size) (n : Nat) : DMem wT q bt lx ly n v L (wr.setCell ⟨q.b10, 0, none⟩ (.int .i64 (n : Nat))) :=
  ⟨h.below.setCell (p := ⟨q.b10, 0, none⟩) hq.l10 _, h.k7.far (p := ⟨q.b10, 0, none⟩) hq.n7t _, h.k8.far (p := ⟨q.b10, 0, none⟩) hq.n8t _, h.k9.far (p := ⟨q.b10, 0, none⟩) hq.n9t _, h.k10.set_ 0 _, h.scr.set_far hq.u10 0 _, by simpa using h.size⟩
end

theorem keep_drew {W : World} {p : Addr} {v : Value} (h : W.cell? p = some v) : W.drew.cell? p = some v := h
theorem keep_alloc {W : World} {p : Addr} {v : Value} (o : Obj) (h : W.cell? p = some v) : (W.alloc o).cell? p = some v := (World.cell?_alloc_lt W o p (lt_of_cell h)).trans h
theorem keep_set {W : World} {p q : Addr} {v : Value} (u : Value) (hn : q.block ≠ p.block) (h : W.cell? p = some v) : (W.setCell q u).cell? p = some v := (World.cell?_setCell_other W q p u (fun e => hn (by rw [e]))).trans h

/-- three variables that are made one behind the other -/
theorem three (W : World) (z1 z2 z3 : Value) : Blk (((W.alloc (.cells #[z1] 3)).alloc (.cells #[z2] 3)).alloc (.cells #[z3] 3)) W.heap.size 3 #[z1] ∧ Blk (((W.alloc (.cells #[z1] 3)).alloc (.cells #[z2] 3)).alloc (.cells #[z3] 3)) (W.heap.size + 1) 3 #[z2] ∧
    Blk (((W.alloc (.cells #[z1] 3)).alloc (.cells #[z2] 3)).alloc (.cells #[z3] 3)) (W.heap.size + 1 + 1) 3 #[z3] ∧ Below W.heap.size W (((W.alloc (.cells #[z1] 3)).alloc (.cells #[z2] 3)).alloc (.cells #[z3] 3)) := by
  have h1 := Blk.new W 3 #[z1]
  have h2 := Blk.new (W.alloc (.cells #[z1] 3)) 3 #[z2]
  have h3 := Blk.new ((W.alloc (.cells #[z1] 3)).alloc (.cells #[z2] 3)) 3 #[z3]
  have e1 : (W.alloc (.cells #[z1] 3)).heap.size = W.heap.size + 1 := by simp
  have e2 : ((W.alloc (.cells #[z1] 3)).alloc (.cells #[z2] 3)).heap.size = W.heap.size + 1 + 1 := by simp
  rw [e1] at h2
  rw [e2] at h3
  exact ⟨(h1.alloc _).alloc _, h2.alloc _, h3, (((Below.refl _ _).alloc (Nat.le_refl _) _).alloc (by simp) _).alloc (by simp; omega) _⟩
theorem placed {B W b8 b9 b10 : Nat} (hB : B < W) (h8 : W ≤ b8 ∧ b8 < W + 3) (h9 : W ≤ b9 ∧ b9 < W + 3) (h10 : W ≤ b10 ∧ b10 < W + 3) (h : b8 ≠ b9 ∧ b8 ≠ b10) (h' : b9 ≠ b10) : Place.ok ⟨B, b8, b9, b10, W + 3⟩ B :=
  ⟨Nat.le_refl _, by show B ≤ b8; omega, by show B ≤ b9; omega, by show B ≤ b10; omega, by show B < W + 3; omega, h8.2, h9.2, h10.2, by show B ≠ b8; omega, by show B ≠ b9; omega, by show B ≠ b10; omega, h.1, h.2, h'⟩
theorem first_mem {w4 W5 W : World} {bt b8 b9 b10 n lx ly c : Nat} (h5 : Below w4.heap.size w4 W5) (h7 : Blk W5 w4.heap.size 47 #[.pointer (some ⟨bt, 0, none⟩)]) (hb : Below W5.heap.size W5 W) (h8 : Blk W b8 3 #[.int .i64 (lx : Nat)]) (h9 : Blk W b9 3 #[.int .i64 (ly : Nat)]) (h10 : Blk W b10 3 #[.int .i64 (c : Nat)]) (hn : n ≤ W.heap.size) :
    DMem w4 ⟨w4.heap.size, b8, b9, b10, n⟩ bt lx ly c (.slice none 0 0) [] W.drew :=
  ⟨below_drewN (below_step h5 hb) 1, h7.below (below_drewN hb 1) h7.lt, h8, h9, h10, Scr.nil _ _, hn⟩

end Go.Proofs.Ytmonemgjgcfhlaa
