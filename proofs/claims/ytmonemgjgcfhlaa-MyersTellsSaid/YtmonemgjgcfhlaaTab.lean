/-
  Plain mathematics: how many lines two lists have in common at most, by the recursion that collatorref05.table goes; what its table is in memory (TOut, TIn, TabAt). No walk of a function of the program.
-/
import Derived.Test.YtmonemgjgcfhlaaGoing
import Derived.Deep.OwnRows
namespace Go.Proofs.Ytmonemgjgcfhlaa
open Go.RowKit
namespace Pm
section
variable {α : Type} [DecidableEq α]
/-- how many lines may stay -/
def cmn (a b : List α) : Nat := (a.length + b.length - ed a b) / 2
theorem cmn_two (a b : List α) : 2 * cmn a b + ed a b = a.length + b.length := by
  unfold cmn
  have h1 := ed_parity a b
  have h2 := ed_top a b
  omega
theorem cmn_nil (b : List α) : cmn [] b = 0 := by have := cmn_two [] b; rw [ed_nil] at this; simp at this; omega
theorem cmn_nil' (a : List α) : cmn a [] = 0 := by have := cmn_two a []; rw [ed_nil'] at this; simp at this; omega
theorem cmn_keep (p : α) (a b : List α) : cmn (p :: a) (p :: b) = 1 + cmn a b := by
  have h1 := cmn_two (p :: a) (p :: b)
  have h2 := cmn_two a b
  rw [ed_keep] at h1
  simp only [List.length_cons] at h1
  omega
theorem cmn_ne {p q : α} (h : p ≠ q) (a b : List α) : cmn (p :: a) (q :: b) = max (cmn a (q :: b)) (cmn (p :: a) b) := by
  have h1 := cmn_two (p :: a) (q :: b)
  have h2 := cmn_two a (q :: b)
  have h3 := cmn_two (p :: a) b
  rw [ed_ne h] at h1
  simp only [List.length_cons] at h1 h2 h3
  omega
theorem cmn_le (a b : List α) : cmn a b ≤ a.length := by
  have h1 := cmn_two a b
  have h2 := (ed_low a b).2
  omega
/-- where the first of both are unlike: the first one is cut just if that leaves as much -/
theorem cut_iff {p q : α} (h : p ≠ q) (a b : List α) : ed (p :: a) (q :: b) = ed a (q :: b) + 1 ↔ cmn (p :: a) b ≤ cmn a (q :: b) := by
  have h2 := cmn_two a (q :: b)
  have h3 := cmn_two (p :: a) b
  rw [ed_ne h]
  simp only [List.length_cons] at h2 h3
  omega
end
end Pm

/-- from the places i and j on -/
def cAt (a b : List ByteArray) (i j : Nat) : Nat := Pm.cmn (a.drop i) (b.drop j)
theorem cAt_end (a b : List ByteArray) (j : Nat) : cAt a b a.length j = 0 := by unfold cAt; rw [List.drop_length]; exact Pm.cmn_nil _
theorem cAt_end' (a b : List ByteArray) (i : Nat) : cAt a b i b.length = 0 := by unfold cAt; rw [List.drop_length]; exact Pm.cmn_nil' _
theorem cAt_le (a b : List ByteArray) (i j : Nat) : cAt a b i j ≤ a.length := by
  have := Pm.cmn_le (a.drop i) (b.drop j)
  unfold cAt
  rw [List.length_drop] at this
  omega
theorem cAt_keep {a b : List ByteArray} {i j : Nat} {s : ByteArray} (hs : a[i]? = some s) (ht : b[j]? = some s) : cAt a b i j = 1 + cAt a b (i + 1) (j + 1) := by
  obtain ⟨h1, e1⟩ := List.getElem?_eq_some_iff.1 hs
  obtain ⟨h2, e2⟩ := List.getElem?_eq_some_iff.1 ht
  unfold cAt
  rw [List.drop_eq_getElem_cons h1, List.drop_eq_getElem_cons h2, e1, e2, Pm.cmn_keep]
theorem cAt_ne {a b : List ByteArray} {i j : Nat} {s t : ByteArray} (hs : a[i]? = some s) (ht : b[j]? = some t) (h : s ≠ t) : cAt a b i j = max (cAt a b (i + 1) j) (cAt a b i (j + 1)) := by
  obtain ⟨h1, e1⟩ := List.getElem?_eq_some_iff.1 hs
  obtain ⟨h2, e2⟩ := List.getElem?_eq_some_iff.1 ht
  unfold cAt
  rw [List.drop_eq_getElem_cons h1, List.drop_eq_getElem_cons h2, e1, e2, Pm.cmn_ne h]

/-- the row of rows, of which those from i on are made -/
def topF (H la lb i : Nat) : Nat → Value := fun r => if i ≤ r then .slice (some ⟨H + 1 + (la - r), 0, none⟩) (lb + 1) (lb + 1) else .slice none 0 0
structure TOut (w wr : World) (a b : List ByteArray) (i : Nat) : Prop where
  below : Below w.heap.size w wr
  size : wr.heap.size = w.heap.size + 1 + (a.length + 1 - i)
  top : wr.rowIs w.heap.size 23 (a.length + 1) (topF w.heap.size a.length b.length i)
  done : ∀ r, i ≤ r → r ≤ a.length → wr.rowIs (w.heap.size + 1 + (a.length - r)) 3 (b.length + 1) (fun j => .int .i64 (cAt a b r j : Nat))
structure TIn (w wr : World) (a b : List ByteArray) (i j : Nat) : Prop where
  below : Below w.heap.size w wr
  size : wr.heap.size = w.heap.size + 1 + (a.length + 1 - i)
  top : wr.rowIs w.heap.size 23 (a.length + 1) (topF w.heap.size a.length b.length i)
  done : ∀ r, i < r → r ≤ a.length → wr.rowIs (w.heap.size + 1 + (a.length - r)) 3 (b.length + 1) (fun j => .int .i64 (cAt a b r j : Nat))
  cur : wr.rowIs (w.heap.size + 1 + (a.length - i)) 3 (b.length + 1) (fun c => if j ≤ c then .int .i64 (cAt a b i c : Nat) else .int .i64 0)
theorem rowIs_drewN' {w : World} {b : Nat} {t : TypeId} {n : Nat} {f : Nat → Value} (h : w.rowIs b t n f) (k : Nat) : (w.drewN k).rowIs b t n f := h
theorem TOut.start (w : World) (a b : List ByteArray) : TOut w (w.alloc (.cells (madeCells #[.slice none 0 0] (a.length + 1)) 23)) a b (a.length + 1) :=
  ⟨(Below.refl _ _).alloc (Nat.le_refl _) _, by simp, (World.rowIs_made w _ (a.length + 1) 23).congr (fun j hj => by unfold topF; rw [if_neg (by omega)]), fun r h1 h2 => absurd h1 (by omega)⟩
theorem TIn.start {w wr : World} {a b : List ByteArray} {i : Nat} (h : TOut w wr a b (i + 1)) (hi : i ≤ a.length) :
    TIn w ((wr.alloc (.cells (madeCells #[.int .i64 0] (b.length + 1)) 3)).setCell ⟨w.heap.size, i, none⟩ (.slice (some ⟨wr.heap.size, 0, none⟩) (b.length + 1) (b.length + 1))) a b i b.length := by
  have hz : wr.heap.size = w.heap.size + 1 + (a.length - i) := by rw [h.size]; omega
  have hnew := World.rowIs_made wr (.int .i64 0) (b.length + 1) 3
  refine ⟨(h.below.alloc h.below.size _).setCell (p := ⟨w.heap.size, i, none⟩) (Nat.le_refl _) _, by simp [h.size]; omega, ((h.top.alloc _).set i _).congr (fun j hj => ?_), fun r h1 h2 => ((h.done r h1 h2).alloc _).setOther (by show w.heap.size + 1 + (a.length - r) ≠ w.heap.size; omega) _, ?_⟩
  · unfold topF
    by_cases e : j = i
    · subst e; rw [if_pos rfl, if_pos (Nat.le_refl _), hz]
    · rw [if_neg e]
      by_cases hlt : i + 1 ≤ j
      · rw [if_pos hlt, if_pos (by omega)]
      · rw [if_neg hlt, if_neg (by omega)]
  · rw [← hz]
    refine (hnew.setOther (by show wr.heap.size ≠ w.heap.size; omega) _).congr (fun c hc => ?_)
    by_cases e : b.length ≤ c
    · have : c = b.length := by omega
      subst this
      rw [if_pos (Nat.le_refl _), cAt_end']
      rfl
    · rw [if_neg e]
theorem TIn.drewN {w wr : World} {a b : List ByteArray} {i j : Nat} (h : TIn w wr a b i j) (n : Nat) : TIn w (wr.drewN n) a b i j := ⟨below_drewN h.below n, h.size, h.top, h.done, h.cur⟩
theorem TIn.drew {w wr : World} {a b : List ByteArray} {i j : Nat} (h : TIn w wr a b i j) : TIn w wr.drew a b i j := h.drewN 1
theorem TIn.set_ {w wr : World} {a b : List ByteArray} {i j : Nat} (h : TIn w wr a b i (j + 1)) (hi : i ≤ a.length) (z : Int) (hz : z = (cAt a b i j : Nat)) :
    TIn w (wr.setCell ⟨w.heap.size + 1 + (a.length - i), j, none⟩ (.int .i64 z)) a b i j := by
  refine ⟨h.below.setCell (p := ⟨w.heap.size + 1 + (a.length - i), j, none⟩) (by show w.heap.size ≤ w.heap.size + 1 + (a.length - i); omega) _, by simpa using h.size, h.top.setOther (by show w.heap.size ≠ w.heap.size + 1 + (a.length - i); omega) _, fun r h1 h2 => (h.done r h1 h2).setOther (by show w.heap.size + 1 + (a.length - r) ≠ w.heap.size + 1 + (a.length - i); omega) _, (h.cur.set j _).congr (fun c hc => ?_)⟩
  by_cases e : c = j
  · subst e; rw [if_pos rfl, if_pos (Nat.le_refl _), hz]
  · rw [if_neg e]
    by_cases hlt : j + 1 ≤ c
    · rw [if_pos hlt, if_pos (by omega)]
    · rw [if_neg hlt, if_neg (by omega)]
theorem TIn.full {w wr : World} {a b : List ByteArray} {i : Nat} (h : TIn w wr a b i 0) : TOut w wr a b i :=
  ⟨h.below, h.size, h.top, fun r h1 h2 => by
    by_cases e : r = i
    · subst e
      exact h.cur.congr (fun c hc => by rw [if_pos (Nat.zero_le _)])
    · exact h.done r (by omega) h2⟩
theorem TIn.last {w wr : World} {a b : List ByteArray} (h : TIn w wr a b a.length b.length) : TOut w wr a b a.length :=
  ⟨h.below, h.size, h.top, fun r h1 h2 => by
    have e : r = a.length := by omega
    subst e
    refine h.cur.congr (fun c hc => ?_)
    rw [cAt_end]
    by_cases h1 : b.length ≤ c
    · rw [if_pos h1]
    · rw [if_neg h1]; rfl⟩

/-- the table that is made, in the row of rows g0 -/
def TabAt (w : World) (g0 : Nat) (a b : List ByteArray) : Prop :=
  ∀ i, i ≤ a.length → ∃ g, w.cell? ⟨g0, i, none⟩ = some (.slice (some ⟨g, 0, none⟩) (b.length + 1) (b.length + 1)) ∧ ∀ j, j ≤ b.length → w.cell? ⟨g, j, none⟩ = some (.int .i64 (cAt a b i j : Nat))
theorem TOut.tab {w wr : World} {a b : List ByteArray} (h : TOut w wr a b 0) : TabAt wr w.heap.size a b := fun i hi => by
  refine ⟨w.heap.size + 1 + (a.length - i), ?_, fun j hj => (h.done i (Nat.zero_le _) hi).cell (by omega)⟩
  have := h.top.cell (i := i) (by omega)
  rw [this]
  unfold topF
  rw [if_pos (Nat.zero_le _)]
theorem TabAt.up {w w' : World} {g0 : Nat} {a b : List ByteArray} (h : TabAt w g0 a b) (hb : Below w.heap.size w w') : TabAt w' g0 a b := fun i hi => by
  obtain ⟨g, h1, h2⟩ := h i hi
  exact ⟨g, cell_keep' h1 hb, fun j hj => cell_keep' (h2 j hj) hb⟩
where
  cell_keep' {w w' : World} {p : Addr} {v : Value} (h : w.cell? p = some v) (hb : Below w.heap.size w w') : w'.cell? p = some v := (hb.cell (lt_of_cell h)).trans h

end Go.Proofs.Ytmonemgjgcfhlaa
