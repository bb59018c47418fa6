/-
  Plain mathematics, no walk: what holds at each round of Diff, and what its steps make of it.
-/
import Derived.Test.YtmonemgjgcfhlaaStep
import Derived.Test.YtmonemgjgcfhlaaGo
namespace Go.Proofs.Ytmonemgjgcfhlaa
open Pm

/-- edits of steps, behind others -/
def grp (es : List Edt) (ss : List (Stp ByteArray)) : List Edt := ss.foldl (fun es s => stepE es s.1 s.2) es
theorem grp_cons (es : List Edt) (s : Stp ByteArray) (ss : List (Stp ByteArray)) : grp es (s :: ss) = grp (stepE es s.1 s.2) ss := rfl
/-- how great a script is -/
def Bnd (es : List Edt) (k : Nat) : Prop := es.length ≤ k ∧ ∀ e ∈ es, e.n ≤ k ∧ e.lines.length ≤ k
theorem Bnd.step {es : List Edt} {k : Nat} (h : Bnd es k) (op : Int) (ls : List ByteArray) (hl : ls.length ≤ 1) : Bnd (stepE es op ls) (k + 1) := by
  obtain ⟨h1, h2⟩ := h
  rcases List.eq_nil_or_concat es with rfl | ⟨es0, e, rfl⟩
  · exact ⟨by simp [stepE], by intro e he; simp [stepE] at he; subst he; simp; omega⟩
  · rw [List.concat_eq_append] at h1 h2 ⊢
    by_cases e1 : e.op = op
    · subst e1
      rw [stepE_same]
      refine ⟨by simp at h1 ⊢; omega, fun e' he => ?_⟩
      rcases List.mem_append.1 he with g | g
      · have := h2 e' (by simp [g]); omega
      · simp at g; subst g; have := h2 e (by simp); simp; omega
    · rw [stepE_new _ _ _ (by simp [e1])]
      refine ⟨by simp at h1 ⊢; omega, fun e' he => ?_⟩
      rcases List.mem_append.1 he with g | g
      · have := h2 e' g; omega
      · simp at g; subst g; simp; omega

section
variable {a b : List ByteArray}
/-- the numbers of the two lists -/
abbrev xn (a b : List ByteArray) : List Int := numL a a b (-1)
abbrev yn (a b : List ByteArray) : List Int := numL b a b (-2)
theorem sharedL_split (zs : List Int) (i : Nat) : (sharedL zs).reverse.take (sharedL (zs.drop i)).length = (sharedL (zs.drop i)).reverse := by
  have h : sharedL zs = sharedL (zs.take i) ++ sharedL (zs.drop i) := by
    unfold sharedL
    rw [← List.filter_append, List.take_append_drop]
  rw [h, List.reverse_append, List.take_append_of_le_length (by simp)]
  exact List.take_of_length_le (by simp)
theorem drop_num (l a b : List ByteArray) (o : Int) (i : Nat) : (numL l a b o).drop i = numL (l.drop i) a b o := by
  unfold numL
  rw [List.map_drop]

/-- at a round's head -/
structure Going (a b : List ByteArray) (X Y : List Int) (i j lx ly c : Nat) (es : List Edt) : Prop where
  hX : X = (sharedL (xn a b)).reverse
  hY : Y = (sharedL (yn a b)).reverse
  hi : i ≤ a.length
  hj : j ≤ b.length
  hlx : lx = (sharedL ((xn a b).drop i)).length
  hly : ly = (sharedL ((yn a b).drop j)).length
  hc : c = D X Y lx ly
  hw : (c : Int) + ((lx : Int) - ly) ≤ (D X Y X.length Y.length : Nat) + ((X.length : Int) - Y.length)
  hes : grp es (way (a.drop i) (b.drop j)) = grp [] (way a b)
  hbd : Bnd es (i + j)
section
variable {X Y : List Int} {i j lx ly c : Nat} {es : List Edt}
theorem Going.le (h : Going a b X Y i j lx ly c es) : lx ≤ X.length ∧ ly ≤ Y.length := by
  have e1 := congrArg List.length (sharedL_split (xn a b) i)
  have e2 := congrArg List.length (sharedL_split (yn a b) j)
  rw [← h.hX, ← h.hlx, List.length_take, List.length_reverse, ← h.hlx] at e1
  rw [← h.hY, ← h.hly, List.length_take, List.length_reverse, ← h.hly] at e2
  omega
/-- the search's cost at any two places -/
theorem cost_at (a b : List ByteArray) (i j : Nat) : D (sharedL (xn a b)).reverse (sharedL (yn a b)).reverse (sharedL ((xn a b).drop i)).length (sharedL ((yn a b).drop j)).length = ed (sharedL ((xn a b).drop i)) (sharedL ((yn a b).drop j)) := by
  unfold D
  rw [sharedL_split, sharedL_split, List.reverse_reverse, List.reverse_reverse]
theorem whole_at (a b : List ByteArray) (i j : Nat) : ed (a.drop i) (b.drop j) + (sharedL ((xn a b).drop i)).length + (sharedL ((yn a b).drop j)).length = ed (sharedL ((xn a b).drop i)) (sharedL ((yn a b).drop j)) + (a.drop i).length + (b.drop j).length := by
  rw [drop_num, drop_num]
  exact ed_numbers a b (a.drop i) (b.drop j) (fun s h => List.mem_of_mem_drop h) (fun s h => List.mem_of_mem_drop h) (-1) (-2) (by decide) (by decide)
theorem drop_at {α : Type} {l : List α} {k : Nat} {x : α} (h : l[k]? = some x) : l.drop k = x :: l.drop (k + 1) := by
  obtain ⟨hk, rfl⟩ := List.getElem?_eq_some_iff.1 h
  exact List.drop_eq_getElem_cons hk
theorem shared_pos {zs : List Int} {k : Nat} {z : Int} (h : zs[k]? = some z) (h0 : 0 ≤ z) : sharedL (zs.drop k) = z :: sharedL (zs.drop (k + 1)) := by
  rw [drop_at h]; unfold sharedL; rw [List.filter_cons]; simp [h0]
theorem shared_neg {zs : List Int} {k : Nat} {z : Int} (h : zs[k]? = some z) (h0 : z < 0) : sharedL (zs.drop k) = sharedL (zs.drop (k + 1)) := by
  rw [drop_at h]; unfold sharedL; rw [List.filter_cons]; simp; omega
theorem xn_at {s : ByteArray} (hs : a[i]? = some s) : (xn a b)[i]? = some (if s ∈ a ∧ s ∈ b then (firstAt s a : Int) else -1) := by
  unfold xn numL; rw [List.getElem?_map, hs]; rfl
theorem yn_at {t : ByteArray} (ht : b[j]? = some t) : (yn a b)[j]? = some (if t ∈ a ∧ t ∈ b then (firstAt t a : Int) else -2) := by
  unfold yn numL; rw [List.getElem?_map, ht]; rfl

theorem Going.first (hX : X = (sharedL (xn a b)).reverse) (hY : Y = (sharedL (yn a b)).reverse) : Going a b X Y 0 0 X.length Y.length (D X Y X.length Y.length) [] :=
  ⟨hX, hY, Nat.zero_le _, Nat.zero_le _, by rw [hX]; simp, by rw [hY]; simp, rfl, by omega, by simp, by simp [Bnd]⟩
theorem Going.done (h : Going a b X Y i j lx ly c es) (h1 : a.length ≤ i) (h2 : b.length ≤ j) : es = grp [] (way a b) := by
  have := h.hes
  rw [List.drop_eq_nil_of_le h1, List.drop_eq_nil_of_le h2] at this
  exact this
theorem Going.keep (h : Going a b X Y i j lx ly c es) {s t : ByteArray} (hs : a[i]? = some s) (ht : b[j]? = some t) (e : (if s ∈ a ∧ s ∈ b then (firstAt s a : Int) else -1) = (if t ∈ a ∧ t ∈ b then (firstAt t a : Int) else -2)) :
    1 ≤ lx ∧ 1 ≤ ly ∧ Going a b X Y (i + 1) (j + 1) (lx - 1) (ly - 1) c (stepE es 1 []) := by
  have hst := numL_eq e
  subst hst
  have ha := List.mem_of_getElem? hs
  have hb := List.mem_of_getElem? ht
  have x1 := xn_at (b := b) hs
  have y1 := yn_at (a := a) ht
  rw [if_pos ⟨ha, hb⟩] at x1 y1
  have sx := shared_pos x1 (by omega)
  have sy := shared_pos y1 (by omega)
  have l1 := congrArg List.length sx
  have l2 := congrArg List.length sy
  simp only [List.length_cons] at l1 l2
  have hlx := h.hlx
  have hly := h.hly
  have hw := h.hw
  refine ⟨by omega, by omega, h.hX, h.hY, ?_, ?_, by omega, by omega, ?_, by omega, ?_, ?_⟩
  · exact (List.getElem?_eq_some_iff.1 hs).1
  · exact (List.getElem?_eq_some_iff.1 ht).1
  · have k1 := cost_at a b i j
    have k2 := cost_at a b (i + 1) (j + 1)
    rw [sx, sy, ed_keep] at k1
    rw [h.hc, h.hX, h.hY, h.hlx, h.hly, sx, sy, k1, ← k2]
    simp only [List.length_cons, Nat.add_sub_cancel]
  · rw [← h.hes, drop_at hs, drop_at ht, way_keep, grp_cons]
  · have := h.hbd.step 1 [] (by simp)
    exact ⟨by have := this.1; omega, fun e he => by have := this.2 e he; omega⟩
theorem Going.cut0 (h : Going a b X Y i j lx ly c es) {s : ByteArray} (hs : a[i]? = some s) (e : (if s ∈ a ∧ s ∈ b then (firstAt s a : Int) else -1) < 0) : Going a b X Y (i + 1) j lx ly c (stepE es 2 []) := by
  have ha := List.mem_of_getElem? hs
  have hb : s ∉ b := fun hb => by rw [if_pos ⟨ha, hb⟩] at e; omega
  have x1 := xn_at (b := b) hs
  have sx := shared_neg x1 e
  refine ⟨h.hX, h.hY, (List.getElem?_eq_some_iff.1 hs).1, h.hj, by rw [← sx]; exact h.hlx, h.hly, h.hc, h.hw, ?_, ?_⟩
  · rw [← h.hes, drop_at hs, way_cut, grp_cons]
    · intro q b' hq e'
      exact hb (List.mem_of_mem_drop (i := j) (by rw [hq, e']; simp))
    · exact ed_skip _ s _ _ (Nat.le_refl _) (fun hb' => hb (List.mem_of_mem_drop hb'))
  · have := h.hbd.step 2 [] (by simp)
    exact ⟨by have := this.1; omega, fun e he => by have := this.2 e he; omega⟩
/-- the first line is cut at the least cost just if the search says so -/
theorem Going.isCut (h : Going a b X Y i j lx ly c es) {s : ByteArray} (hs : a[i]? = some s) (e : 0 ≤ (if s ∈ a ∧ s ∈ b then (firstAt s a : Int) else -1)) :
    1 ≤ lx ∧ lx - 1 = (sharedL ((xn a b).drop (i + 1))).length ∧ (ed (s :: a.drop (i + 1)) (b.drop j) = ed (a.drop (i + 1)) (b.drop j) + 1 ↔ c = D X Y (lx - 1) ly + 1) := by
  have sx := shared_pos (xn_at (b := b) hs) e
  have l1 := congrArg List.length sx
  simp only [List.length_cons] at l1
  have hlx := h.hlx
  have w1 := whole_at a b i j
  have w2 := whole_at a b (i + 1) j
  have k1 := cost_at a b i j
  have k2 := cost_at a b (i + 1) j
  have hi := (List.getElem?_eq_some_iff.1 hs).1
  have e3 : lx - 1 = (sharedL ((xn a b).drop (i + 1))).length := by omega
  have e4 : D X Y (lx - 1) ly = ed (sharedL ((xn a b).drop (i + 1))) (sharedL ((yn a b).drop j)) := by rw [← k2, h.hX, h.hY, e3, h.hly]
  have e5 : c = ed (sharedL ((xn a b).drop i)) (sharedL ((yn a b).drop j)) := by rw [← k1, h.hc, h.hX, h.hY, h.hlx, h.hly]
  rw [drop_at hs] at w1
  simp only [List.length_cons, List.length_drop] at w1 w2
  refine ⟨by omega, e3, ?_⟩
  rw [e4, e5]
  omega
theorem Going.cut1 (h : Going a b X Y i j lx ly c es) {s : ByteArray} (hs : a[i]? = some s) (e : 0 ≤ (if s ∈ a ∧ s ∈ b then (firstAt s a : Int) else -1)) (hne : ∀ t, b[j]? = some t → s ≠ t) (hc : c = D X Y (lx - 1) ly + 1) :
    Going a b X Y (i + 1) j (lx - 1) ly (c - 1) (stepE es 2 []) := by
  obtain ⟨g1, g2, g3⟩ := h.isCut hs e
  have hw := h.hw
  refine ⟨h.hX, h.hY, (List.getElem?_eq_some_iff.1 hs).1, h.hj, g2, h.hly, by omega, by omega, ?_, ?_⟩
  · rw [← h.hes, drop_at hs, way_cut _ _ _ ?_ (g3.2 hc), grp_cons]
    intro q b' hq
    refine hne q ?_
    have : (b.drop j)[0]? = some q := by rw [hq]; rfl
    rwa [List.getElem?_drop, Nat.add_zero] at this
  · have := h.hbd.step 2 [] (by simp)
    exact ⟨by have := this.1; omega, fun e he => by have := this.2 e he; omega⟩
/-- where nothing else may be, there is a line to add -/
theorem Going.addAt (h : Going a b X Y i j lx ly c es) (hend : i < a.length ∨ j < b.length) (hcut : ∀ s, a[i]? = some s → 0 ≤ (if s ∈ a ∧ s ∈ b then (firstAt s a : Int) else -1) ∧ c ≠ D X Y (lx - 1) ly + 1) : j < b.length := by
  rcases Nat.lt_or_ge j b.length with g | g
  · exact g
  · rcases hend with g1 | g1
    · obtain ⟨h1, h2⟩ := hcut _ (List.getElem?_eq_getElem g1)
      obtain ⟨_, _, g3⟩ := h.isCut (List.getElem?_eq_getElem g1) h1
      refine absurd (g3.1 ?_) h2
      rw [List.drop_eq_nil_of_le g, ed_nil', ed_nil']
      simp
      omega
    · exact g1
theorem Going.add0 (h : Going a b X Y i j lx ly c es) {t : ByteArray} (ht : b[j]? = some t) (hne : ∀ s, a[i]? = some s → s ≠ t) (hcut : ∀ s, a[i]? = some s → 0 ≤ (if s ∈ a ∧ s ∈ b then (firstAt s a : Int) else -1) ∧ c ≠ D X Y (lx - 1) ly + 1)
    (e : (if t ∈ a ∧ t ∈ b then (firstAt t a : Int) else -2) < 0) : Going a b X Y i (j + 1) lx ly c (stepE es 3 [t]) := by
  have sy := shared_neg (yn_at (a := a) ht) e
  refine ⟨h.hX, h.hY, h.hi, (List.getElem?_eq_some_iff.1 ht).1, h.hlx, by rw [← sy]; exact h.hly, h.hc, h.hw, ?_, ?_⟩
  · rw [← h.hes, drop_at ht, way_add _ _ _ ?_, grp_cons]
    intro p a' hp
    have hp' : a[i]? = some p := by
      have : (a.drop i)[0]? = some p := by rw [hp]; rfl
      rwa [List.getElem?_drop, Nat.add_zero] at this
    refine ⟨hne p hp', fun he => (hcut p hp').2 ((h.isCut hp' (hcut p hp').1).2.2.1 ?_)⟩
    rw [drop_at hp'] at hp
    injection hp with _ hp
    rw [hp, drop_at ht]
    exact he
  · have := h.hbd.step 3 [t] (by simp)
    exact ⟨by have := this.1; omega, fun e he => by have := this.2 e he; omega⟩
theorem Going.add1 (h : Going a b X Y i j lx ly c es) {t : ByteArray} (ht : b[j]? = some t) (hne : ∀ s, a[i]? = some s → s ≠ t) (hcut : ∀ s, a[i]? = some s → 0 ≤ (if s ∈ a ∧ s ∈ b then (firstAt s a : Int) else -1) ∧ c ≠ D X Y (lx - 1) ly + 1)
    (e : 0 ≤ (if t ∈ a ∧ t ∈ b then (firstAt t a : Int) else -2)) : 1 ≤ ly ∧ 1 ≤ c ∧ Going a b X Y i (j + 1) lx (ly - 1) (c - 1) (stepE es 3 [t]) := by
  have sy := shared_pos (yn_at (a := a) ht) e
  have l1 := congrArg List.length sy
  simp only [List.length_cons] at l1
  have hly := h.hly
  have hj := (List.getElem?_eq_some_iff.1 ht).1
  have hadd : ∀ p a', a.drop i = p :: a' → p ≠ t ∧ ed (p :: a') (t :: b.drop (j + 1)) ≠ ed a' (t :: b.drop (j + 1)) + 1 := by
    intro p a' hp
    have hp' : a[i]? = some p := by
      have : (a.drop i)[0]? = some p := by rw [hp]; rfl
      rwa [List.getElem?_drop, Nat.add_zero] at this
    refine ⟨hne p hp', fun he => (hcut p hp').2 ((h.isCut hp' (hcut p hp').1).2.2.1 ?_)⟩
    rw [drop_at hp'] at hp
    injection hp with _ hp
    rw [hp, drop_at ht]
    exact he
  have hed : ed (a.drop i) (t :: b.drop (j + 1)) = ed (a.drop i) (b.drop (j + 1)) + 1 := by
    cases ha : a.drop i with
    | nil => simp [ed_nil]
    | cons p a' => obtain ⟨h1, h2⟩ := hadd p a' ha; exact ed_add_of p t a' _ h1 h2
  have w1 := whole_at a b i j
  have w2 := whole_at a b i (j + 1)
  have k1 := cost_at a b i j
  have k2 := cost_at a b i (j + 1)
  have e3 : ly - 1 = (sharedL ((yn a b).drop (j + 1))).length := by omega
  have e4 : D X Y lx (ly - 1) = ed (sharedL ((xn a b).drop i)) (sharedL ((yn a b).drop (j + 1))) := by rw [← k2, h.hX, h.hY, e3, h.hlx]
  have e5 : c = ed (sharedL ((xn a b).drop i)) (sharedL ((yn a b).drop j)) := by rw [← k1, h.hc, h.hX, h.hY, h.hlx, h.hly]
  rw [drop_at ht] at w1
  simp only [List.length_cons, List.length_drop] at w1 w2
  have hw := h.hw
  refine ⟨by omega, by omega, h.hX, h.hY, h.hi, hj, h.hlx, e3, by omega, by omega, ?_, ?_⟩
  · rw [← h.hes, drop_at ht, way_add _ _ _ hadd, grp_cons]
  · have := h.hbd.step 3 [t] (by simp)
    exact ⟨by have := this.1; omega, fun e he => by have := this.2 e he; omega⟩
/-- what the front of the cost below tells -/
theorem Going.ask (h : Going a b X Y i j lx ly c es) (h1 : 1 ≤ lx) (hc : 1 ≤ c) {low : Int} {far : List Int} (hf : FrontOk X Y (c - 1) low far) :
    decide ((lx : Int) - 1 ≤ onL low far ((lx : Int) - 1 - ly)) = decide (c = D X Y (lx - 1) ly + 1) := by
  obtain ⟨hl1, hl2⟩ := h.le
  have hw := h.hw
  have hcd := h.hc
  have := hf.ask (i := lx - 1) (j := ly) (by omega) hl2 (by rw [show lx - 1 + 1 = lx from by omega]; omega) (by omega)
  have e1 : ((lx - 1 : Nat) : Int) = (lx : Int) - 1 := by omega
  rw [e1] at this
  have hd := D_up (x := X) (y := Y) (i := lx - 1) ly (by omega)
  rw [show lx - 1 + 1 = lx from by omega] at hd
  rw [decide_eq_decide, this]
  omega
end
end
end Go.Proofs.Ytmonemgjgcfhlaa
