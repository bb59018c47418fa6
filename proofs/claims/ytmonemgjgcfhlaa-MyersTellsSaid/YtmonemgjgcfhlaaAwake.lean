/-
  collatorlaw05.awake: the fixed first calls are answered as they must be: it returns true; nothing that was there is changed.
-/
import Derived.Test.YtmonemgjgcfhlaaDiff
import Derived.Test.YtmonemgjgcfhlaaSameE
namespace Go.Proofs.Ytmonemgjgcfhlaa
open Go.RowKit

theorem Strs.up2 {w w' : World} {A : Option Addr} {ss : List ByteArray} (h : Strs w w.heap.size A ss) (hb : Below w.heap.size w w') : Strs w' w'.heap.size A ss := (h.below hb).more hb.size
theorem Eds.up {w w' : World} {A : Option Addr} {es : List Edt} (h : Eds w w.heap.size A es) (hb : Below w.heap.size w w') : Eds w' w'.heap.size A es := (h.below hb).more hb.size
/-- two lists of texts, written out one behind the other -/
def twoW (w : World) (ss ts : List ByteArray) : World := (w.alloc (.cells (ss.map Value.string).toArray 9)).alloc (.cells (ts.map Value.string).toArray 9)
theorem two_mem (w : World) (ss ts : List ByteArray) : Strs (twoW w ss ts) (twoW w ss ts).heap.size (some ⟨w.heap.size, 0, none⟩) ss ∧ Strs (twoW w ss ts) (twoW w ss ts).heap.size (some ⟨w.heap.size + 1, 0, none⟩) ts ∧ Below w.heap.size w (twoW w ss ts) := by
  unfold twoW
  have hb0 : Below w.heap.size w (w.alloc (.cells (ss.map Value.string).toArray 9)) := (Below.refl _ w).alloc (Nat.le_refl _) _
  have hA1 : Strs (w.alloc (.cells (ss.map Value.string).toArray 9)) (w.alloc (.cells (ss.map Value.string).toArray 9)).heap.size (some ⟨w.heap.size, 0, none⟩) ss := (strs_new w ss).more (by simp)
  have hB1 := strs_new (w.alloc (.cells (ss.map Value.string).toArray 9)) ts
  refine ⟨(hA1.alloc (Nat.le_refl _) _).more (by simp), ?_, hb0.alloc hb0.size _⟩
  have := hB1.more (B' := ((w.alloc (.cells (ss.map Value.string).toArray 9)).alloc (.cells (ts.map Value.string).toArray 9)).heap.size) (by simp)
  simpa using this
/-- edits, written out -/
theorem eds_new (w : World) (L : List MEd) (h : ∀ m ∈ L, Strs w w.heap.size m.A m.lines) : Eds (w.alloc (.cells (meCells L).toArray 38)) (w.alloc (.cells (meCells L).toArray 38)).heap.size (some ⟨w.heap.size, 0, none⟩) (L.map MEd.e) := fun _ => by
  refine ⟨_, rfl, by simp, fun k e hk => ?_⟩
  rw [List.getElem?_map] at hk
  cases hm : L[k]? with
  | none => rw [hm] at hk; cases hk
  | some m =>
    rw [hm] at hk
    injection hk with hk
    subst hk
    obtain ⟨h1, h2, h3⟩ := meCells_at hm
    have hb := heap_alloc_new w (.cells (meCells L).toArray 38)
    have hc : ∀ i, (w.alloc (.cells (meCells L).toArray 38)).cell? ⟨w.heap.size, i, none⟩ = (meCells L)[i]? := fun i => by
      rw [cell_of_row _ w.heap.size i _ 38 (0, 0) hb]
      simp
    refine ⟨?_, ?_, m.A, m.cap, ?_, ((h m (List.mem_of_getElem? hm)).alloc (Nat.le_refl _) _).more (by simp)⟩
    · rw [add_zero_block, hc, h1]; rfl
    · rw [add_zero_block, hc, h2]; rfl
    · rw [add_zero_block, hc, h3]; rfl
/-- one line, and edits behind it -/
def edW (w : World) (s : ByteArray) (L : List MEd) : World := (w.alloc (.cells #[.string s] 9)).alloc (.cells (meCells L).toArray 38)
theorem ed_mem (w : World) (s : ByteArray) (L : List MEd) (h : ∀ m ∈ L, m.lines = [] ∨ (m.A = some ⟨w.heap.size, 0, none⟩ ∧ m.lines = [s])) :
    Eds (edW w s L) (edW w s L).heap.size (some ⟨w.heap.size + 1, 0, none⟩) (L.map MEd.e) ∧ Below w.heap.size w (edW w s L) := by
  unfold edW
  have hb0 : Below w.heap.size w (w.alloc (.cells #[.string s] 9)) := (Below.refl _ w).alloc (Nat.le_refl _) _
  refine ⟨?_, hb0.alloc hb0.size _⟩
  have := eds_new (w.alloc (.cells #[.string s] 9)) L (fun m hm => by
    rcases h m hm with e | ⟨e1, e2⟩
    · rw [e]; exact Strs.nil
    · rw [e1, e2]; exact (strs_new w [s]).more (by simp))
  simpa using this

theorem diff_at (A B : Option Addr) (a b : List ByteArray) (l m c d n : Nat) (es : List Edt) (w : World) (ha : Strs w w.heap.size A a) (hb : Strs w w.heap.size B b) (hl : a.length = l) (hm : b.length = m) (hlen : l + m ≤ 256) (hsa : ∀ s ∈ a, s.size ≤ maxLen) (hsb : ∀ s ∈ b, s.size ≤ 140737488355328) (he : grp [] (Pm.way a b) = es) (hn : es.length = n) :
    Calls Try.prog 13 #[.slice A l c, .slice B m d] w fun e w' => ∃ A' c', e = .returned (.slice A' n c') ∧ Eds w' w'.heap.size A' es ∧ Below w.heap.size w w' := by
  subst hl hm hn he
  refine (diff_any A B a b c d w ha hb hlen hsa hsb).mono ?_
  rintro e w' ⟨A', n, c', rfl, rfl, h1, h2⟩
  exact ⟨A', c', rfl, h1, h2⟩
theorem same_at (A B : Option Addr) (es : List Edt) (n c d : Nat) (w : World) (ha : Eds w w.heap.size A es) (hb : Eds w w.heap.size B es) (hn : es.length = n) (h1 : n ≤ 65536) (h2 : ∀ e ∈ es, e.lines.length ≤ 65536) :
    Calls Try.prog 12 #[.slice A n c, .slice B n d] w fun e w' => e = .returned (.bool true) ∧ Below w.heap.size w w' := by
  subst hn
  exact same_true A B es c d _ w ha hb h1 h2
theorem cost_at' (A B : Option Addr) (a b : List ByteArray) (l m c d : Nat) (r : Int) (w : World) (ha : Strs w w.heap.size A a) (hb : Strs w w.heap.size B b) (hl : a.length = l) (hm : b.length = m) (hlen : l + m ≤ 256) (hsa : ∀ s ∈ a, s.size ≤ maxLen) (hsb : ∀ s ∈ b, s.size ≤ maxLen) (hr : ((Pm.ed a b : Nat) : Int) = r) :
    Calls Try.prog 15 #[.slice A l c, .slice B m d] w fun e w' => e = .returned (.int .i64 r) ∧ Below w.heap.size w w' := by
  subst hl hm hr
  exact cost_any A B a b c d w ha hb hlen hsa hsb
theorem common_at' (A B : Option Addr) (a b : List ByteArray) (l m c d : Nat) (r : Int) (w : World) (ha : Strs w w.heap.size A a) (hb : Strs w w.heap.size B b) (hl : a.length = l) (hm : b.length = m) (hlen : l + m ≤ 256) (hsa : ∀ s ∈ a, s.size ≤ maxLen) (hsb : ∀ s ∈ b, s.size ≤ maxLen) (hr : ((a.length : Int) + b.length - (Pm.ed a b : Nat)) / 2 = r) :
    Calls Try.prog 17 #[.slice A l c, .slice B m d] w fun e w' => e = .returned (.int .i64 r) ∧ Below w.heap.size w w' := by
  subst hl hm hr
  exact common_any A B a b c d w ha hb hlen hsa hsb

def ta : ByteArray := ⟨#[97]⟩
def tb : ByteArray := ⟨#[98]⟩
def tc : ByteArray := ⟨#[99]⟩
def td : ByteArray := ⟨#[100]⟩
def es1 : List Edt := [⟨2, 1, []⟩, ⟨1, 2, []⟩, ⟨3, 1, [td]⟩]
def es2 : List Edt := [⟨2, 1, []⟩, ⟨3, 1, [tb]⟩]
theorem way1 : grp [] (Pm.way [ta, tb, tc] [tb, tc, td]) = es1 := by decide
theorem way2 : grp [] (Pm.way [ta] [tb]) = es2 := by decide
theorem ed1 : Pm.ed [ta, tb] [tb] = 1 := by decide
theorem small3 : ∀ s ∈ [ta, tb, tc, td], s.size ≤ maxLen ∧ s.size ≤ 140737488355328 := by decide
def ml1 (g : Nat) : List MEd := [⟨2, 1, none, 0, []⟩, ⟨1, 2, none, 0, []⟩, ⟨3, 1, some ⟨g, 0, none⟩, 1, [td]⟩]
def ml2 (g : Nat) : List MEd := [⟨2, 1, none, 0, []⟩, ⟨3, 1, some ⟨g, 0, none⟩, 1, [tb]⟩]

set_option maxHeartbeats 1000000 in
set_option maxRecDepth 100000 in
theorem awake_any (w : World) : Calls Try.prog 10 #[] w fun e w' => e = .returned (.bool true) ∧ Below w.heap.size w w' := by
  go_enter Try.func10, Try.ntmps10
  go_wp2_with fail
  change Calls Try.prog 13 #[.slice (some ⟨w.heap.size, 0, none⟩) 3 3, .slice (some ⟨w.heap.size + 1, 0, none⟩) 3 3] (twoW w [ta, tb, tc] [tb, tc, td]) _
  obtain ⟨hA, hB, hbw⟩ := two_mem w [ta, tb, tc] [tb, tc, td]
  generalize twoW w [ta, tb, tc] [tb, tc, td] = W at *
  refine (diff_at _ _ _ _ 3 3 3 3 3 es1 _ hA hB rfl rfl (by omega) (by decide) (by decide) way1 rfl).mono ?_
  rintro e w1 ⟨A1, c1, rfl, h1, hb1⟩
  replace hbw := hbw.trans (hb1.mono hbw.size)
  clear hA hB hb1
  go_wp2_with fail
  change Calls Try.prog 13 #[.slice (some ⟨w1.heap.size, 0, none⟩) 1 1, .slice (some ⟨w1.heap.size + 1, 0, none⟩) 1 1] (twoW w1 [ta] [tb]) _
  obtain ⟨hA, hB, hb1⟩ := two_mem w1 [ta] [tb]
  replace h1 := h1.up hb1
  replace hbw := hbw.trans (hb1.mono hbw.size)
  generalize twoW w1 [ta] [tb] = W2 at *
  refine (diff_at _ _ _ _ 1 1 1 1 2 es2 _ hA hB rfl rfl (by omega) (by decide) (by decide) way2 rfl).mono ?_
  rintro e w2 ⟨A2, c2, rfl, h2, hb2⟩
  replace h1 := h1.up hb2
  replace hbw := hbw.trans (hb2.mono hbw.size)
  clear hA hB hb1 hb2
  go_wp2_with fail
  change Calls Try.prog 12 #[.slice A1 3 c1, .slice (some ⟨w2.heap.size + 1, 0, none⟩) 3 3] (edW w2 td (ml1 w2.heap.size)) _
  obtain ⟨hE, hb3⟩ := ed_mem w2 td (ml1 w2.heap.size) (by intro m hm; simp [ml1] at hm; rcases hm with rfl | rfl | rfl <;> simp)
  replace h1 := h1.up hb3
  replace h2 := h2.up hb3
  replace hbw := hbw.trans (hb3.mono hbw.size)
  generalize edW w2 td (ml1 w2.heap.size) = W3 at *
  refine (same_at _ _ es1 3 _ _ _ h1 hE rfl (by omega) (by decide)).mono ?_
  rintro e w3 ⟨rfl, hb4⟩
  replace h2 := h2.up hb4
  replace hbw := hbw.trans (hb4.mono hbw.size)
  clear h1 hE hb3 hb4
  go_wp2_with fail
  change Calls Try.prog 12 #[.slice A2 2 c2, .slice (some ⟨w3.heap.size + 1, 0, none⟩) 2 2] (edW w3 tb (ml2 w3.heap.size)) _
  obtain ⟨hE, hb3⟩ := ed_mem w3 tb (ml2 w3.heap.size) (by intro m hm; simp [ml2] at hm; rcases hm with rfl | rfl <;> simp)
  replace h2 := h2.up hb3
  replace hbw := hbw.trans (hb3.mono hbw.size)
  generalize edW w3 tb (ml2 w3.heap.size) = W4 at *
  refine (same_at _ _ es2 2 _ _ _ h2 hE rfl (by omega) (by decide)).mono ?_
  rintro e w4 ⟨rfl, hb4⟩
  replace hbw := hbw.trans (hb4.mono hbw.size)
  clear h2 hE hb3 hb4
  go_wp2_with fail
  refine (diff_at _ _ [] [] 0 0 0 0 0 [] _ Strs.nil Strs.nil rfl rfl (by omega) (by simp) (by simp) rfl rfl).mono ?_
  rintro e w5 ⟨A5, c5, rfl, _, hb5⟩
  replace hbw := hbw.trans (hb5.mono hbw.size)
  clear hb5
  go_wp2_with fail
  change Calls Try.prog 17 #[.slice (some ⟨w5.heap.size, 0, none⟩) 2 2, .slice (some ⟨w5.heap.size + 1, 0, none⟩) 1 1] (twoW w5 [ta, tb] [tb]) _
  obtain ⟨hA, hB, hb6⟩ := two_mem w5 [ta, tb] [tb]
  replace hbw := hbw.trans (hb6.mono hbw.size)
  generalize twoW w5 [ta, tb] [tb] = W6 at *
  refine (common_at' _ _ [ta, tb] [tb] 2 1 2 1 1 _ hA hB rfl rfl (by omega) (by decide) (by decide) (by rw [ed1]; rfl)).mono ?_
  rintro e w6 ⟨rfl, hb7⟩
  replace hbw := hbw.trans (hb7.mono hbw.size)
  clear hA hB hb6 hb7
  go_wp2_with fail
  change Calls Try.prog 15 #[.slice (some ⟨w6.heap.size, 0, none⟩) 2 2, .slice (some ⟨w6.heap.size + 1, 0, none⟩) 1 1] (twoW w6 [ta, tb] [tb]) _
  obtain ⟨hA, hB, hb6⟩ := two_mem w6 [ta, tb] [tb]
  replace hbw := hbw.trans (hb6.mono hbw.size)
  generalize twoW w6 [ta, tb] [tb] = W7 at *
  refine (cost_at' _ _ [ta, tb] [tb] 2 1 2 1 1 _ hA hB rfl rfl (by omega) (by decide) (by decide) (by rw [ed1]; rfl)).mono ?_
  rintro e w7 ⟨rfl, hb7⟩
  replace hbw := hbw.trans (hb7.mono hbw.size)
  clear hA hB hb6 hb7
  go_wp2_with fail
  go_ret
  exact ⟨rfl, hbw⟩

end Go.Proofs.Ytmonemgjgcfhlaa
