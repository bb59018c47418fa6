/-
  What rows of fronts are in memory, and that they stay as they are while others are made. No walk.
-/
import Derived.Test.YtmonemgjgcfhlaaReach
namespace Go.Proofs.Ytmonemgjgcfhlaa
open Go.RowKit

/-- a block that is known whole -/
def Blk (w : World) (g : Nat) (t : TypeId) (cs : Array Value) : Prop := w.heap[g]? = some (.cells cs t (0, 0))
section
variable {w w' : World} {g : Nat} {t : TypeId} {cs : Array Value}
theorem Blk.lt (h : Blk w g t cs) : g < w.heap.size := by
  rcases Nat.lt_or_ge g w.heap.size with hlt | hge
  · exact hlt
  · unfold Blk at h; rw [Array.getElem?_eq_none hge] at h; cases h
theorem Blk.cell (h : Blk w g t cs) (i : Nat) : w.cell? ⟨g, i, none⟩ = cs[i]? := cell_of_row w g i cs t (0, 0) h
theorem Blk.frozen (h : Blk w g t cs) (i : Nat) : w.frozen? ⟨g, i, none⟩ = false := by
  unfold Blk at h
  simp [World.frozen?, h]
theorem Blk.new (w : World) (t : TypeId) (cs : Array Value) : Blk (w.alloc (.cells cs t)) w.heap.size t cs := heap_alloc_new w _
theorem Blk.alloc (h : Blk w g t cs) (o : Obj) : Blk (w.alloc o) g t cs := (Below.heap_alloc w o g h.lt).trans h
theorem Blk.set_ (h : Blk w g t cs) (i : Nat) (u : Value) : Blk (w.setCell ⟨g, i, none⟩ u) g t (cs.setIfInBounds i u) := by
  unfold Blk at h ⊢
  simp [World.setCell, Array.getElem?_modify, h]
theorem Blk.far (h : Blk w g t cs) {p : Addr} (hp : g ≠ p.block) (u : Value) : Blk (w.setCell p u) g t cs := (Below.heap_setCell w p u g hp).trans h
theorem Blk.below {B : Nat} (h : Blk w g t cs) (hb : Below B w w') (hg : g < B) : Blk w' g t cs := (hb.block g hg).trans h
theorem Blk.grown {row : Option Nat} (h : Blk w g t cs) (hb : w.grownBy w' row) (hg : some g ≠ row) : Blk w' g t cs := (hb.block g h.lt hg).trans h
theorem own_blk_ne {base : Nat} {e : TypeId} {size n : Nat} {v : Value} {xs : List Value} (h : w.ownsRow base e size v n xs) (hg : Blk w g t cs) (hne : e ≠ t) : some g ≠ v.ownBlock := by
  rcases h.2 with ⟨rfl, _⟩ | ⟨g', cap, cur, rfl, _, hh, _⟩
  · simp [Value.ownBlock]
  · intro he
    have : g = g' := by simpa [Value.ownBlock] using he
    subst this
    unfold Blk at hg
    rw [hg] at hh
    injection hh with hh
    injection hh with _ ht
    exact hne ht.symm
theorem own_own_ne {base base' : Nat} {e e' : TypeId} {size size' n n' : Nat} {v v' : Value} {xs xs' : List Value} (h : w.ownsRow base e size v n xs) (h' : w.ownsRow base' e' size' v' n' xs') (hne : e ≠ e') : v.ownBlock = none ∨ v.ownBlock ≠ v'.ownBlock := by
  rcases h.2 with ⟨rfl, _⟩ | ⟨g, cap, cur, rfl, _, hh, _⟩
  · left; rfl
  · right
    exact own_blk_ne (g := g) (t := e) (cs := cur) h' hh (Ne.symm hne)
end

/-- a front, as it lies in memory -/
structure Fr where
  low : Int
  A : Option Addr
  cap : Nat
  far : List Int
def Fr.val (f : Fr) : Value := .slice f.A f.far.length f.cap
def Fr.cells (f : Fr) : List Value := [.int .i64 f.low, f.val]
def Fr.own (W : World) (f : Fr) : Prop := W.ownsRow 0 3 1 f.val f.far.length (f.far.map (.int .i64))
def frCells (L : List Fr) : List Value := L.flatMap Fr.cells
theorem frCells_length (L : List Fr) : (frCells L).length = L.length * 2 := by
  induction L with
  | nil => rfl
  | cons f L ih => simp only [frCells, List.flatMap_cons, List.length_append] at ih ⊢; rw [ih]; simp [Fr.cells]; omega
theorem frCells_snoc (L : List Fr) (f : Fr) : frCells (L ++ [f]) = frCells L ++ [.int .i64 f.low, f.val] := by simp [frCells, Fr.cells]
theorem frCells_at : ∀ {L : List Fr} {t : Nat} {f : Fr}, L[t]? = some f → (frCells L)[2 * t]? = some (.int .i64 f.low) ∧ (frCells L)[2 * t + 1]? = some f.val
  | [], t, f, h => by simp at h
  | x :: L, 0, f, h => by simp at h; subst h; exact ⟨rfl, rfl⟩
  | x :: L, t + 1, f, h => by
    have ih := frCells_at (L := L) (t := t) (f := f) (by simpa using h)
    have e : frCells (x :: L) = .int .i64 x.low :: x.val :: frCells L := rfl
    rw [e, show 2 * (t + 1) = 2 * t + 1 + 1 from by omega]
    simpa using ih
theorem Fr.own.ints {W : World} {f : Fr} (h : f.own W) : Ints W W.heap.size f.A f.far := Ints.of_own h

/-- the fronts that are there so far, and the grid's box -/
structure Fronts (w : World) (xs ys : List Int) (X Y : Value) (g : Nat) (L : List Fr) (v : Value) (W : World) : Prop where
  row : W.ownsRow w.heap.size 56 2 v L.length (frCells L)
  own : ∀ f ∈ L, f.own W
  ok : ∀ (t : Nat) (f : Fr), L[t]? = some f → Pm.FrontOk xs ys t f.low f.far
  box : Blk W g 51 #[X, Y]
  below : Below w.heap.size w W
theorem Fronts.step {w : World} {xs ys : List Int} {X Y : Value} {g : Nat} {L : List Fr} {v : Value} {W W' : World} (h : Fronts w xs ys X Y g L v W) (hb : Below W.heap.size W W') : Fronts w xs ys X Y g L v W' :=
  ⟨h.row.kept (grown_of_below hb none) (by cases v.ownBlock <;> simp), fun f hf => (h.own f hf).kept (grown_of_below hb none) (by cases f.val.ownBlock <;> simp), h.ok, h.box.below hb h.box.lt, below_step h.below hb⟩
theorem info54 : (Try.prog.info? 56).map (fun i => (i.zero, i.size, i.bytes)) = some (some (.agg #[.int .i64 0, .slice none 0 0]), 2, 32) := by kernel_rfl
/-- one front more -/
theorem Fronts.more {w : World} {xs ys : List Int} {X Y : Value} {g : Nat} {L : List Fr} {v : Value} {W : World} (h : Fronts w xs ys X Y g L v W) (f : Fr) (hf : f.own W) (hok : Pm.FrontOk xs ys L.length f.low f.far) (hL : L.length ≤ 1073741) :
    ∃ v' W', (Builtin.append_ #[52, 52] 52 #[v, .slice (some ⟨W.heap.size, 0, none⟩) 1 1]).run Try.prog (W.alloc (.cells #[.int .i64 f.low, f.val] 56)) = .ok v' W' ∧ Fronts w xs ys X Y g (L ++ [f]) v' W' := by
  obtain ⟨i0, hi, hz0, hz1, hz2⟩ := info_parts info54
  have h2 := h.step ((Below.refl W.heap.size W).alloc (Nat.le_refl _) (.cells #[.int .i64 f.low, f.val] 56))
  have hf2 : f.own (W.alloc (.cells #[.int .i64 f.low, f.val] 56)) := World.ownsRow.alloc hf _
  have hnew := Blk.new W 56 #[.int .i64 f.low, f.val]
  obtain ⟨v', W', hrun, hown, hg, _, _⟩ := run_append_own_at (P := Try.prog) (W.alloc (.cells #[.int .i64 f.low, f.val] 56)) w.heap.size 52 52 56 i0 _ 2 32 Try.underlying52 hi hz0 hz1 hz2 rfl (by decide) v L.length (frCells L) h2.row
    ⟨W.heap.size, 0, none⟩ 1 1 [.int .i64 f.low, f.val] rfl (by
      intro j u hu
      have he : ((⟨W.heap.size, 0, none⟩ : Addr).add j) = ⟨W.heap.size, j, none⟩ := by by_cases hj0 : j = 0 <;> simp [Addr.add, hj0]
      rw [he, hnew.cell j]
      simpa using hu) (by intro u hu; simp at hu; rcases hu with rfl | rfl <;> rfl) (by unfold maxLen; omega) (by omega) (by have := h.below.size; simp; omega)
  refine ⟨v', W', hrun, ?_, ?_, ?_, h2.box.grown hg (own_blk_ne h2.row h2.box (by decide)), h2.below.grown hg (by have := h.below.size; simp; omega) (fun k hk => (h2.row.lt k hk).1)⟩
  · rw [frCells_snoc, List.length_append]; exact hown
  · intro f' hf'
    rcases List.mem_append.1 hf' with e | e
    · exact (h2.own f' e).kept hg (own_own_ne (h2.own f' e) h2.row (by decide))
    · simp at e; subst e; exact World.ownsRow.kept hf2 hg (own_own_ne hf2 h2.row (by decide))
  · intro t f' ht
    rcases Nat.lt_or_ge t L.length with g1 | g1
    · rw [List.getElem?_append_left g1] at ht; exact h.ok t f' ht
    · rw [List.getElem?_append_right g1] at ht
      have e : t - L.length = 0 := by
        rcases Nat.eq_zero_or_pos (t - L.length) with e | e
        · exact e
        · rw [List.getElem?_eq_none (by simp; omega)] at ht; cases ht
      rw [e] at ht
      simp at ht
      subst ht
      rw [show t = L.length from by omega]
      exact hok

/-- the front that is being made, behind the world W at the beginning of the round -/
structure Inner (W : World) (xs ys : List Int) (c : Nat) (nl : Int) (lb : Array Value) (bm : Nat) (far : List Int) (v : Value) (wx : World) : Prop where
  row : wx.ownsRow W.heap.size 3 1 v far.length (far.map (.int .i64))
  made : Blk wx bm 56 #[.int .i64 nl, v]
  last : Blk wx W.heap.size 56 lb
  at_ : ∀ (t : Nat) (z : Int), far[t]? = some z → Pm.IsFar xs ys (c + 1) (nl + 2 * t) z
  going : ∀ (t : Nat) (z : Int), far[t]? = some z → ¬ (z = xs.length ∧ z - (nl + 2 * t) = ys.length)
  bm_ : W.heap.size < bm
  below : Below W.heap.size W wx
section
variable {W : World} {xs ys : List Int} {c : Nat} {nl : Int} {lb : Array Value} {bm : Nat} {far : List Int} {v : Value} {wx wy : World}
theorem Inner.step (h : Inner W xs ys c nl lb bm far v wx) (hb : Below wx.heap.size wx wy) : Inner W xs ys c nl lb bm far v wy :=
  ⟨h.row.kept (grown_of_below hb none) (by cases v.ownBlock <;> simp), h.made.below hb h.made.lt, h.last.below hb h.last.lt, h.at_, h.going, h.bm_, below_step h.below hb⟩
theorem Inner.more (h : Inner W xs ys c nl lb bm far v wx) (z : Int) (hl : far.length ≤ 1073741) (h1 : Pm.IsFar xs ys (c + 1) (nl + 2 * (far.length : Int)) z) (h2 : ¬ (z = xs.length ∧ z - (nl + 2 * (far.length : Int)) = ys.length)) :
    ∃ A' c' w6, (Builtin.append_ #[23, 23] 23 #[v, .slice (some ⟨wx.heap.size, 0, none⟩) 1 1]).run Try.prog (wx.alloc (.cells #[.int .i64 z] 3)) = .ok (.slice A' (far.length + 1) c') w6 ∧
      w6.cell? ⟨bm, 1, none⟩ = some v ∧ w6.frozen? ⟨bm, 1, none⟩ = false ∧ Inner W xs ys c nl lb bm (far ++ [z]) (.slice A' (far.length + 1) c') (w6.setCell ⟨bm, 1, none⟩ (.slice A' (far.length + 1) c')) := by
  have h3 := h.step ((Below.refl wx.heap.size wx).alloc (Nat.le_refl _) (.cells #[.int .i64 z] 3))
  have hbs := h.below.size
  obtain ⟨A', c', w6, hrun, hown, hg⟩ := run_append_ints (wx.alloc (.cells #[.int .i64 z] 3)) W.heap.size v far.length _ h3.row ⟨wx.heap.size, 0, none⟩ 1 z ((Blk.new wx 3 #[.int .i64 z]).cell 0) (by omega) (by simp; omega)
  have hm6 : Blk w6 bm 56 #[.int .i64 nl, v] := h3.made.grown hg (own_blk_ne h3.row h3.made (by decide))
  have hl6 : Blk w6 W.heap.size 56 lb := h3.last.grown hg (own_blk_ne h3.row h3.last (by decide))
  have hne := own_blk_ne hown hm6 (by decide)
  have hbm := h.bm_
  have hB6 : Below W.heap.size W w6 := h3.below.grown hg (by simp; omega) (fun k hk => (h3.row.lt k hk).1)
  refine ⟨A', c', w6, hrun, hm6.cell 1, hm6.frozen 1, ?_, hm6.set_ 1 _, hl6.far (p := ⟨bm, 1, none⟩) (by show W.heap.size ≠ bm; omega) _, ?_, ?_, h.bm_, hB6.setCell (p := ⟨bm, 1, none⟩) (by show W.heap.size ≤ bm; omega) _⟩
  · rw [List.map_append, List.length_append]
    refine hown.kept (row := some bm) ⟨rfl, rfl, rfl, by simp, fun k _ hk => heap_setCell_other w6 ⟨bm, 1, none⟩ k _ (fun e => hk (by simp [e]))⟩ (.inr (Ne.symm hne))
  · intro t y ht
    rcases Nat.lt_or_ge t far.length with g | g
    · rw [List.getElem?_append_left g] at ht; exact h.at_ t y ht
    · rw [List.getElem?_append_right g] at ht
      rcases Nat.eq_zero_or_pos (t - far.length) with e | e
      · rw [e] at ht
        simp at ht
        subst ht
        rw [show t = far.length from by omega]
        exact h1
      · rw [List.getElem?_eq_none (by simp; omega)] at ht; cases ht
  · intro t y ht
    rcases Nat.lt_or_ge t far.length with g | g
    · rw [List.getElem?_append_left g] at ht; exact h.going t y ht
    · rw [List.getElem?_append_right g] at ht
      rcases Nat.eq_zero_or_pos (t - far.length) with e | e
      · rw [e] at ht
        simp at ht
        subst ht
        rw [show t = far.length from by omega]
        exact h2
      · rw [List.getElem?_eq_none (by simp; omega)] at ht; cases ht
end

end Go.Proofs.Ytmonemgjgcfhlaa
