/-
  The account as it lies in memory, and the fills beside it.
-/
import Derived.Test.YtllkegonhghkcaaOnp
import Derived.Test.YtllkegonhghkcaaIdn
import Derived.Test.YtllkegonhghkcaaApp
namespace Go.Proofs.Ytllkegonhghkcaa
open Go.RowKit P15

/-- the account, as it lies in a block -/
def Gs (W : World) (g : Nat) (S : Nat → Tri) : Prop :=
  ∃ cs : Array Value, Blk W g 47 cs ∧ cs.size = 24 ∧ ∀ v : Nat, v < 8 → cs[v * 3]? = some (.int .i64 (S v).1) ∧ cs[v * 3 + 1]? = some (.int .i64 (S v).2.1) ∧ cs[v * 3 + 2]? = some (.int .i64 (S v).2.2)
section
variable {W W' : World} {g : Nat} {S : Nat → Tri}
theorem Gs.lt (h : Gs W g S) : g < W.heap.size := by obtain ⟨cs, hb, _⟩ := h; exact hb.lt
theorem Gs.cell (h : Gs W g S) {v : Nat} (hv : v < 8) : W.cell? ⟨g, v * 3, none⟩ = some (.int .i64 (S v).1) ∧ W.cell? ⟨g, v * 3 + 1, none⟩ = some (.int .i64 (S v).2.1) ∧ W.cell? ⟨g, v * 3 + 2, none⟩ = some (.int .i64 (S v).2.2) := by
  obtain ⟨cs, hb, _, hc⟩ := h
  obtain ⟨h0, h1, h2⟩ := hc v hv
  exact ⟨(hb.cell _).trans h0, (hb.cell _).trans h1, (hb.cell _).trans h2⟩
theorem Gs.frozen (h : Gs W g S) (i : Nat) : W.frozen? ⟨g, i, none⟩ = false := by obtain ⟨cs, hb, _⟩ := h; exact hb.frozen i
theorem Gs.up (h : Gs W g S) (hb : Below W.heap.size W W') : Gs W' g S := by
  have hl := h.lt
  obtain ⟨cs, h1, h2, h3⟩ := h
  exact ⟨cs, h1.below hb hl, h2, h3⟩
theorem Gs.set0 (h : Gs W g S) {v : Nat} (hv : v < 8) (z : Int) : Gs (W.setCell ⟨g, v * 3, none⟩ (.int .i64 z)) g (upd S v (z, (S v).2)) := by
  obtain ⟨cs, h1, h2, h3⟩ := h
  refine ⟨_, h1.set_ (v * 3) (.int .i64 z), by rw [Array.size_setIfInBounds]; exact h2, fun u hu => ?_⟩
  obtain ⟨q0, q1, q2⟩ := h3 u hu
  by_cases e : u = v
  · subst e
    rw [upd_same]
    refine ⟨?_, ?_, ?_⟩
    · rw [Array.getElem?_setIfInBounds_self_of_lt (by omega)]
    · rw [Array.getElem?_setIfInBounds_ne (by omega)]; exact q1
    · rw [Array.getElem?_setIfInBounds_ne (by omega)]; exact q2
  · rw [upd_other _ _ e]
    refine ⟨?_, ?_, ?_⟩
    · rw [Array.getElem?_setIfInBounds_ne (by omega)]; exact q0
    · rw [Array.getElem?_setIfInBounds_ne (by omega)]; exact q1
    · rw [Array.getElem?_setIfInBounds_ne (by omega)]; exact q2
theorem Gs.set3 (h : Gs W g S) {v : Nat} (hv : v < 8) (a b c : Int) : Gs (((W.setCell ⟨g, v * 3, none⟩ (.int .i64 a)).setCell ⟨g, v * 3 + 1, none⟩ (.int .i64 b)).setCell ⟨g, v * 3 + 2, none⟩ (.int .i64 c)) g (upd S v (a, b, c)) := by
  obtain ⟨cs, h1, h2, h3⟩ := h
  refine ⟨_, ((h1.set_ (v * 3) (.int .i64 a)).set_ (v * 3 + 1) (.int .i64 b)).set_ (v * 3 + 2) (.int .i64 c), by simp only [Array.size_setIfInBounds]; exact h2, fun u hu => ?_⟩
  obtain ⟨q0, q1, q2⟩ := h3 u hu
  by_cases e : u = v
  · subst e
    rw [upd_same]
    refine ⟨?_, ?_, ?_⟩
    · rw [Array.getElem?_setIfInBounds_ne (by omega), Array.getElem?_setIfInBounds_ne (by omega), Array.getElem?_setIfInBounds_self_of_lt (by omega)]
    · rw [Array.getElem?_setIfInBounds_ne (by omega), Array.getElem?_setIfInBounds_self_of_lt (by rw [Array.size_setIfInBounds]; omega)]
    · rw [Array.getElem?_setIfInBounds_self_of_lt (by simp only [Array.size_setIfInBounds]; omega)]
  · rw [upd_other _ _ e]
    refine ⟨?_, ?_, ?_⟩
    · rw [Array.getElem?_setIfInBounds_ne (by omega), Array.getElem?_setIfInBounds_ne (by omega), Array.getElem?_setIfInBounds_ne (by omega)]; exact q0
    · rw [Array.getElem?_setIfInBounds_ne (by omega), Array.getElem?_setIfInBounds_ne (by omega), Array.getElem?_setIfInBounds_ne (by omega)]; exact q1
    · rw [Array.getElem?_setIfInBounds_ne (by omega), Array.getElem?_setIfInBounds_ne (by omega), Array.getElem?_setIfInBounds_ne (by omega)]; exact q2
theorem setCell_size (W : World) (p : Addr) (u : Value) : (W.setCell p u).heap.size = W.heap.size := by simp [World.setCell]
theorem FillsNew.set {A : Option Addr} {L : List Fl} (h : FillsNew (g + 1) W A L) (i : Nat) (u : Value) : FillsNew (g + 1) (W.setCell ⟨g, i, none⟩ u) A L :=
  h.kept (by rw [setCell_size]; exact Nat.le_refl _) fun j hj _ => Below.heap_setCell W ⟨g, i, none⟩ u j (by show j ≠ g; omega)
theorem IntsT.set {x : Fw} (h : IntsT W x) (hg : Gs W g S) (i : Nat) (u : Value) : IntsT (W.setCell ⟨g, i, none⟩ u) x := by
  obtain ⟨cs, hb, _⟩ := hg
  exact h.kept fun k ds hk => hk.far (p := ⟨g, i, none⟩) (blk_ne hk hb (by decide)) u
theorem IntsT.up {x : Fw} (h : IntsT W x) (hb : Below W.heap.size W W') : IntsT W' x := h.kept fun _ _ hk => hk.below hb hk.lt
end
theorem gs_new (W : World) : Gs (W.alloc (.cells #[.int .i64 0, .int .i64 0, .int .i64 0, .int .i64 0, .int .i64 0, .int .i64 0, .int .i64 0, .int .i64 0, .int .i64 0, .int .i64 0, .int .i64 0, .int .i64 0, .int .i64 0, .int .i64 0, .int .i64 0, .int .i64 0, .int .i64 0, .int .i64 0, .int .i64 0, .int .i64 0, .int .i64 0, .int .i64 0, .int .i64 0, .int .i64 0] 47)) W.heap.size fun _ => (0, 0, 0) := by
  refine ⟨_, Blk.new W _ _, rfl, fun v hv => ?_⟩
  match v, hv with
  | 0, _ => exact ⟨rfl, rfl, rfl⟩
  | 1, _ => exact ⟨rfl, rfl, rfl⟩
  | 2, _ => exact ⟨rfl, rfl, rfl⟩
  | 3, _ => exact ⟨rfl, rfl, rfl⟩
  | 4, _ => exact ⟨rfl, rfl, rfl⟩
  | 5, _ => exact ⟨rfl, rfl, rfl⟩
  | 6, _ => exact ⟨rfl, rfl, rfl⟩
  | 7, _ => exact ⟨rfl, rfl, rfl⟩
/-- between two deeds -/
structure OneIn (w wr : World) (g : Nat) (k : Nat) (A : Option Addr) (n : Nat) (F : List Fl) (S : Nat → Tri) : Prop where
  acc : Acc F S k
  fls : FillsNew (g + 1) wr A F
  len : F.length = n
  gs : Gs wr g S
  below : Below w.heap.size w wr

end Go.Proofs.Ytllkegonhghkcaa
