/-
  collatorlaw07.awake: the fixed first calls are answered as they must be: it returns true; nothing that was there is changed.
-/
import Derived.Test.YtmonemgjgcfhlaaAlBasics
namespace Go.Proofs.Ytmonemgjgcfhlaa
open Go.RowKit
open Al

theorem alCommon_at (A B : Option Addr) (ss ts : List ByteArray) (l m c d : Nat) (r : Int) (w : World) (ha : Strs w w.heap.size A ss) (hb : Strs w w.heap.size B ts) (hl : ss.length = l) (hm : ts.length = m) (h1 : Fit ss) (h2 : Fit ts) (hr : (cm ss ts : Int) = r) :
    Calls Try.prog 24 #[.slice A l c, .slice B m d] w fun e w' => e = .returned (.int .i64 r) ∧ Below w.heap.size w w' := by
  subst hl hm hr
  exact alCommon_any A B ss ts c d w ha hb h1.1 h2.1 h1.2 h2.2
theorem score_at (A B : Option Addr) (ss ts : List ByteArray) (l m c d : Nat) (r : Int) (w : World) (ha : Strs w w.heap.size A ss) (hb : Strs w w.heap.size B ts) (hl : ss.length = l) (hm : ts.length = m) (h1 : Fit ss) (h2 : Fit ts) (hr : (score ss ts : Int) = r) :
    Calls Try.prog 38 #[.slice A l c, .slice B m d] w fun e w' => e = .returned (.int .i64 r) ∧ Below w.heap.size w w' := by
  subst hl hm hr
  exact score_any A B ss ts c d w ha hb h1.1 h2.1 h1.2 h2.2
theorem best_at (A B : Option Addr) (ss : List ByteArray) (L : List (List ByteArray)) (l n c d : Nat) (p : Int) (m : Nat) (r : Int) (w : World) (ha : Strs w w.heap.size A ss) (hb : Lsts w w.heap.size B L) (hl : ss.length = l) (hn : L.length = n) (h1 : Fit ss) (h2 : n ≤ 65536) (h3 : ∀ X ∈ L, Fit X) (hbest : IsBest ss L p m) (hr : (m : Int) = r) :
    Calls Try.prog 37 #[.slice A l c, .slice B n d] w fun e w' => e = .returned (.tuple #[.int .i64 p, .int .i64 r]) ∧ Below w.heap.size w w' := by
  subst hl hn hr
  refine (best_any A B ss L c d w ha hb h1 h2 h3).mono ?_
  rintro e w' ⟨p', m', hb', rfl, hbw⟩
  obtain ⟨rfl, rfl⟩ := hb'.one hbest
  exact ⟨rfl, hbw⟩

theorem lsts_new (w : World) (vs : List Value) (L : List (List ByteArray)) (h : ∀ (j : Nat) (X : List ByteArray), L[j]? = some X → ∃ (Ax : Option Addr) (cx : Nat), vs[j]? = some (Value.slice Ax X.length cx) ∧ Strs w w.heap.size Ax X) :
    Lsts (w.alloc (.cells vs.toArray 22)) (w.alloc (.cells vs.toArray 22)).heap.size (some ⟨w.heap.size, 0, none⟩) L := fun _ => by
  refine ⟨_, rfl, by simp, fun j X hj => ?_⟩
  obtain ⟨Ax, cx, h1, h2⟩ := h j X hj
  refine ⟨Ax, cx, ?_, (h2.alloc (Nat.le_refl _) _).more (by simp)⟩
  have hb := heap_alloc_new w (.cells vs.toArray 22)
  have := cell_of_row _ w.heap.size j _ 22 (0, 0) hb
  rw [add_zero_off, this]
  simp [h1]

def wx : ByteArray := ⟨#[120]⟩
def wy : ByteArray := ⟨#[121]⟩
def wz : ByteArray := ⟨#[122]⟩
def awA : List ByteArray := [wx, wy, wx]
def awB : List ByteArray := [wx, wz]
theorem fitA : Fit awA := ⟨by decide, by decide⟩
theorem fitB : Fit awB := ⟨by decide, by decide⟩
theorem fit_nil : Fit [] := ⟨by decide, by simp⟩
theorem aw_cm : cm awA awB = 1 := by decide
theorem aw_score : score awA awB = 40 := by decide
theorem aw_best : IsBest awA [awB, awA, awA] 1 100 := by
  have h := (((IsBest.none_ awA).snoc awB).snoc awA).snoc awA
  have h1 : score awA awB = 40 := by decide
  have h2 : score awA awA = 100 := by decide
  rw [h1, h2] at h
  exact h
theorem aw_lists (w0 w1 : Nat) (w : World) (h : Strs w w.heap.size (some ⟨w0, 0, none⟩) awA) (g : Strs w w.heap.size (some ⟨w1, 0, none⟩) awB) :
    Lsts (w.alloc (.cells #[.slice (some ⟨w1, 0, none⟩) 2 2, .slice (some ⟨w0, 0, none⟩) 3 3, .slice (some ⟨w0, 0, none⟩) 3 3] 22)) (w.alloc (.cells #[.slice (some ⟨w1, 0, none⟩) 2 2, .slice (some ⟨w0, 0, none⟩) 3 3, .slice (some ⟨w0, 0, none⟩) 3 3] 22)).heap.size (some ⟨w.heap.size, 0, none⟩) [awB, awA, awA] := by
  refine lsts_new w [_, _, _] _ fun j X hj => ?_
  match j with
  | 0 => injection hj with e; subst e; exact ⟨_, _, rfl, g⟩
  | 1 => injection hj with e; subst e; exact ⟨_, _, rfl, h⟩
  | 2 => injection hj with e; subst e; exact ⟨_, _, rfl, h⟩
  | j + 3 => simp at hj

/-- the world behind both lists -/
def awW (w : World) : World := (w.alloc (.cells #[.string ⟨#[120]⟩, .string ⟨#[121]⟩, .string ⟨#[120]⟩] 9)).alloc (.cells #[.string ⟨#[120]⟩, .string ⟨#[122]⟩] 9)
theorem aw_mem (w : World) : Strs (awW w) (awW w).heap.size (some ⟨w.heap.size, 0, none⟩) awA ∧ Strs (awW w) (awW w).heap.size (some ⟨w.heap.size + 1, 0, none⟩) awB ∧ Below w.heap.size w (awW w) ∧ (awW w).heap.size = w.heap.size + 1 + 1 := by
  have hA0 := strs_new w awA
  have hb0 : Below w.heap.size w (w.alloc (.cells (awA.map Value.string).toArray 9)) := (Below.refl _ w).alloc (Nat.le_refl _) _
  have hA1 : Strs (w.alloc (.cells (awA.map Value.string).toArray 9)) (w.alloc (.cells (awA.map Value.string).toArray 9)).heap.size (some ⟨w.heap.size, 0, none⟩) awA := hA0.more (by simp)
  have hB1 := strs_new (w.alloc (.cells (awA.map Value.string).toArray 9)) awB
  have hb1 := hb0.alloc hb0.size (.cells (awB.map Value.string).toArray 9)
  have hA2 := hA1.alloc (Nat.le_refl _) (.cells (awB.map Value.string).toArray 9)
  have e : awW w = (w.alloc (.cells (awA.map Value.string).toArray 9)).alloc (.cells (awB.map Value.string).toArray 9) := rfl
  rw [e]
  refine ⟨hA2.more (by simp), ?_, hb1, by simp⟩
  have := hB1.more (B' := ((w.alloc (.cells (awA.map Value.string).toArray 9)).alloc (.cells (awB.map Value.string).toArray 9)).heap.size) (by simp)
  simpa using this

set_option maxHeartbeats 1000000 in
set_option maxRecDepth 100000 in
theorem alAwake_any (w : World) : Calls Try.prog 23 #[] w fun e w' => e = .returned (.bool true) ∧ Below w.heap.size w w' := by
  go_enter Try.func23, Try.ntmps23
  go_wp2_with fail
  change Calls Try.prog 37 #[.slice (some ⟨w.heap.size, 0, none⟩) 3 3, .slice (some ⟨w.heap.size + 1 + 1, 0, none⟩) 3 3] ((awW w).alloc (.cells #[.slice (some ⟨w.heap.size + 1, 0, none⟩) 2 2, .slice (some ⟨w.heap.size, 0, none⟩) 3 3, .slice (some ⟨w.heap.size, 0, none⟩) 3 3] 22)) _
  obtain ⟨hA, hB, hb2, hz⟩ := aw_mem w
  generalize awW w = W at *
  have hL := aw_lists _ _ W hA hB
  rw [hz] at hL
  have hbl := (Below.refl W.heap.size W).alloc (Nat.le_refl _) (.cells #[.slice (some ⟨w.heap.size + 1, 0, none⟩) 2 2, .slice (some ⟨w.heap.size, 0, none⟩) 3 3, .slice (some ⟨w.heap.size, 0, none⟩) 3 3] 22)
  replace hb2 := hb2.trans (hbl.mono hb2.size)
  have hA' := hA.up hbl
  have hB' := hB.up hbl
  generalize W.alloc (.cells #[.slice (some ⟨w.heap.size + 1, 0, none⟩) 2 2, .slice (some ⟨w.heap.size, 0, none⟩) 3 3, .slice (some ⟨w.heap.size, 0, none⟩) 3 3] 22) = W2 at *
  clear hA hB hbl hz
  refine (best_at _ _ awA [awB, awA, awA] 3 3 _ _ 1 100 100 _ hA' hL rfl rfl fitA (by omega) (by intro X hX; simp at hX; rcases hX with rfl | rfl <;> first | exact fitA | exact fitB) aw_best rfl).mono ?_
  rintro e w3 ⟨rfl, hb3⟩
  replace hA' := hA'.up hb3
  replace hB' := hB'.up hb3
  replace hb2 := hb2.trans (hb3.mono hb2.size)
  clear hb3 hL
  go_wp2_with fail
  refine (best_at _ _ awA [] 3 0 _ _ (-1) 0 0 _ hA' Lsts.nil rfl rfl fitA (by omega) (by simp) (IsBest.none_ _) rfl).mono ?_
  rintro e w4 ⟨rfl, hb3⟩
  replace hA' := hA'.up hb3
  replace hB' := hB'.up hb3
  replace hb2 := hb2.trans (hb3.mono hb2.size)
  clear hb3
  go_wp2_with fail
  refine (alCommon_at _ _ awA awB 3 2 _ _ 1 _ hA' hB' rfl rfl fitA fitB (by rw [aw_cm]; rfl)).mono ?_
  rintro e w5 ⟨rfl, hb3⟩
  replace hA' := hA'.up hb3
  replace hB' := hB'.up hb3
  replace hb2 := hb2.trans (hb3.mono hb2.size)
  clear hb3
  go_wp2_with fail
  refine (score_at _ _ awA awB 3 2 _ _ 40 _ hA' hB' rfl rfl fitA fitB (by rw [aw_score]; rfl)).mono ?_
  rintro e w6 ⟨rfl, hb3⟩
  replace hA' := hA'.up hb3
  replace hb2 := hb2.trans (hb3.mono hb2.size)
  clear hb3 hB'
  go_wp2_with fail
  refine (score_at _ _ [] [] 0 0 _ _ 100 _ Strs.nil Strs.nil rfl rfl fit_nil fit_nil rfl).mono ?_
  rintro e w7 ⟨rfl, hb3⟩
  replace hA' := hA'.up hb3
  replace hb2 := hb2.trans (hb3.mono hb2.size)
  clear hb3
  go_wp2_with fail
  refine (score_at _ _ awA [] 3 0 _ _ 0 _ hA' Strs.nil rfl rfl fitA fit_nil rfl).mono ?_
  rintro e w8 ⟨rfl, hb3⟩
  replace hb2 := hb2.trans (hb3.mono hb2.size)
  clear hb3 hA'
  go_wp2_with fail
  go_ret
  exact ⟨rfl, hb2⟩

end Go.Proofs.Ytmonemgjgcfhlaa
