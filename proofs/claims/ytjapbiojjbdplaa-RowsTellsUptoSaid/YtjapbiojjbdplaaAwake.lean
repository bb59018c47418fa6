/-
  collatorlaw03.awake: the fixed first calls are answered as they must be: it returns true; nothing that was there is changed.
-/
import Derived.Test.YtjapbiojjbdplaaSplit
namespace Go.Proofs.Ytjapbiojjbdplaa
open Go.RowKit
open Pl

/-- a new list of texts, written out -/
theorem strs_new (w : World) (ss : List ByteArray) : Strs (w.alloc (.cells (ss.map Value.string).toArray 9)) (w.heap.size + 1) (some ⟨w.heap.size, 0, none⟩) ss := fun _ => by
  refine ⟨_, rfl, by simp, fun j s hj => ?_⟩
  have hb := heap_alloc_new w (.cells (ss.map Value.string).toArray 9)
  have := cell_of_row _ w.heap.size j _ 9 (0, 0) hb
  have he : ((⟨w.heap.size, 0, none⟩ : Addr).add j) = ⟨w.heap.size, j, none⟩ := by
    by_cases hj0 : j = 0 <;> simp [Addr.add, hj0]
  rw [he, this]
  simp [hj]

theorem below_drewN {B : Nat} {a w : World} (h : Below B a w) (n : Nat) : Below B a (w.drewN n) := ⟨h.os, h.tape, h.output, h.size, h.block⟩

/-! the same contracts, for lists whose length and answer are known -/
theorem shared_at (A B : Option Addr) (ss ts : List ByteArray) (l m c d H : Nat) (p q : Int) (w : World) (ha : Strs w H A ss) (hb : Strs w H B ts) (hl : ss.length = l) (hm : ts.length = m) (h1 : l ≤ c) (h2 : m ≤ d) (h3 : l ≤ 140737488355328) (h4 : m ≤ 140737488355328)
    (hp : (aheadL ss ts : Int) = p) (hq : (behindL (ss.drop (aheadL ss ts)) (ts.drop (aheadL ss ts)) : Int) = q) :
    Calls Try.prog 16 #[.slice A l c, .slice B m d] w fun e w' => e = .returned (.tuple #[.int .i64 p, .int .i64 q]) ∧ Below w.heap.size w w' := by
  subst hl hm hp hq
  refine (shared_any A B ss ts c d H w ha hb h1 h2 h3 h4).mono ?_
  rintro e w' ⟨rfl, n, rfl⟩
  exact ⟨rfl, below_drewN (Below.refl _ _) n⟩

theorem texts_at (A B : Option Addr) (ss ts : List ByteArray) (l m c d H : Nat) (r : Bool) (w : World) (ha : Strs w H A ss) (hb : Strs w H B ts) (hl : ss.length = l) (hm : ts.length = m) (h1 : l ≤ 140737488355328) (hr : decide (ss = ts) = r) :
    Calls Try.prog 18 #[.slice A l c, .slice B m d] w fun e w' => e = .returned (.bool r) ∧ Below w.heap.size w w' := by
  subst hl hm hr
  refine (texts_any A B ss ts c d H w ha hb h1).mono ?_
  rintro e w' ⟨rfl, n, rfl⟩
  exact ⟨rfl, below_drewN (Below.refl _ _) n⟩

theorem right_at (A : Option Addr) (ss : List ByteArray) (l c H : Nat) (r : Bool) (w : World) (ha : Strs w H A ss) (hl : ss.length = l) (h1 : l ≤ 140737488355328) (hsz : ∀ s ∈ ss, s.size ≤ 140737488355328) (hr : rightL (txts ss) = r) :
    Calls Try.prog 14 #[.slice A l c] w fun e w' => e = .returned (.bool r) ∧ Below w.heap.size w w' := by
  subst hl hr
  refine (right_any A ss c H w ha h1 hsz).mono ?_
  rintro e w' ⟨rfl, rfl⟩
  exact ⟨rfl, Below.refl _ _⟩

theorem join_at (A : Option Addr) (ss : List ByteArray) (l c : Nat) (t : ByteArray) (w : World) (ha : Strs w w.heap.size A ss) (hl : ss.length = l) (h1 : l ≤ 140737488355328) (ht : total ss ≤ 140737488355328) (hr : (txts ss).flatten = txt t) :
    Calls Try.prog 12 #[.slice A l c] w fun e w' => e = .returned (.string t) ∧ Below w.heap.size w w' := by
  subst hl
  refine (join_any A ss c w ha h1 ht).mono ?_
  rintro e w' ⟨rfl, hb⟩
  exact ⟨by rw [hr]; rfl, hb⟩

theorem txts_inj {a b : List ByteArray} (h : txts a = txts b) : a = b := by
  unfold txts at h
  refine List.map_inj_right (f := txt) ?_ |>.1 h
  intro x y e
  exact ByteArray.ext (Array.toList_inj.1 e)

/-- a text, of its bytes -/
def ba (l : List UInt8) : ByteArray := ⟨l.toArray⟩
theorem txt_ba (l : List UInt8) : txt (ba l) = l := rfl
theorem txts_ba (l : List (List UInt8)) : txts (l.map ba) = l := by
  induction l with
  | nil => rfl
  | cons x xs ih => simp only [List.map_cons]; show txt (ba x) :: txts (xs.map ba) = _; rw [ih, txt_ba]

/-- Split, its answer named -/
theorem split_at (s : ByteArray) (ys : List ByteArray) (hs : s.size ≤ 1099511627776) (hy : txts ys = splitL (txt s)) (w : World) :
    Calls Try.prog 19 #[.string s] w fun e W' => ∃ (A : Option Addr) (c : Nat), e = .returned (.slice A ys.length c) ∧ Strs W' W'.heap.size A ys ∧ ys.length ≤ c ∧ Below w.heap.size w W' := by
  refine (split_any s hs w).mono ?_
  rintro e w' ⟨zs, A, c, rfl, hz, h1, h2, _, h3⟩
  obtain rfl : zs = ys := txts_inj (hz.trans hy.symm)
  exact ⟨A, c, rfl, h1, h2, h3⟩

theorem one_new (w : World) (ss : List ByteArray) : Strs (w.alloc (.cells (ss.map Value.string).toArray 9)) (w.alloc (.cells (ss.map Value.string).toArray 9)).heap.size (some ⟨w.heap.size, 0, none⟩) ss ∧ Below w.heap.size w (w.alloc (.cells (ss.map Value.string).toArray 9)) :=
  ⟨(strs_new w ss).more (by simp), (Below.refl _ w).alloc (Nat.le_refl _) _⟩
theorem two_new (w : World) (ss ts : List ByteArray) :
    Strs ((w.alloc (.cells (ss.map Value.string).toArray 9)).alloc (.cells (ts.map Value.string).toArray 9)) (w.heap.size + 1 + 1) (some ⟨w.heap.size, 0, none⟩) ss ∧
    Strs ((w.alloc (.cells (ss.map Value.string).toArray 9)).alloc (.cells (ts.map Value.string).toArray 9)) (w.heap.size + 1 + 1) (some ⟨w.heap.size + 1, 0, none⟩) ts ∧
    Below w.heap.size w ((w.alloc (.cells (ss.map Value.string).toArray 9)).alloc (.cells (ts.map Value.string).toArray 9)) := by
  refine ⟨((strs_new w ss).alloc (by simp) _).more (by omega), ?_, ((Below.refl _ w).alloc (Nat.le_refl _) _).alloc (by simp) _⟩
  have h := strs_new (w.alloc (.cells (ss.map Value.string).toArray 9)) ts
  rw [World.size_alloc] at h
  exact h

theorem small_ba (n : Nat) (ss : List ByteArray) (h : ss.all (fun s => decide (s.size ≤ n)) = true) (hn : n ≤ 140737488355328) : ∀ s ∈ ss, s.size ≤ 140737488355328 := by
  intro s hs
  have := of_decide_eq_true (List.all_eq_true.1 h s hs)
  omega

set_option maxHeartbeats 4000000 in
set_option maxRecDepth 100000 in
theorem awake_any (w : World) : Calls Try.prog 9 #[] w fun e w' => e = .returned (.bool true) ∧ Below w.heap.size w w' := by
  go_enter Try.func9, Try.ntmps9
  go_wp2_with fail
  -- Shared of x, y, z and x, z
  obtain ⟨a1, a2, hb1⟩ := two_new w [ba [120], ba [121], ba [122]] [ba [120], ba [122]]
  refine (shared_at _ _ _ _ 3 2 3 2 _ 1 1 _ a1 a2 rfl rfl (by omega) (by omega) (by omega) (by omega) (by decide) (by decide)).mono ?_
  rintro e w1 ⟨rfl, hb⟩
  replace hb1 := hb1.trans (hb.mono (by simp; omega))
  clear hb a1 a2
  -- Shared of x, x and x
  go_wp2_with fail
  obtain ⟨a1, a2, hb2⟩ := two_new w1 [ba [120], ba [120]] [ba [120]]
  refine (shared_at _ _ _ _ 2 1 2 1 _ 1 0 _ a1 a2 rfl rfl (by omega) (by omega) (by omega) (by omega) (by decide) (by decide)).mono ?_
  rintro e w2 ⟨rfl, hb⟩
  replace hb1 := hb1.trans ((hb2.trans (hb.mono (by simp; omega))).mono hb1.size)
  clear hb a1 a2 hb2
  -- Split of three lines
  go_wp2_with fail
  refine (split_at _ [ba [97, 10], ba [10], ba [98]] (by decide) (by decide) _).mono ?_
  rintro e w3 ⟨A, c, rfl, a1, hc, hb⟩
  replace hb1 := hb1.trans (hb.mono hb1.size)
  clear hb
  go_wp2_with fail
  obtain ⟨a2, hb⟩ := one_new w3 [ba [97, 10], ba [10], ba [98]]
  replace hb1 := hb1.trans (hb.mono hb1.size)
  refine (texts_at _ _ _ _ 3 3 _ _ _ true _ ((a1.below hb).more hb.size) a2 rfl rfl (by omega) (by decide)).mono ?_
  rintro e w4 ⟨rfl, hb4⟩
  replace hb1 := hb1.trans (hb4.mono hb1.size)
  clear hb hb4 a1 a2 hc
  -- Split of nothing
  go_wp2_with fail
  refine (split_at _ [] (by decide) (by decide) _).mono ?_
  rintro e w5 ⟨A5, c5, rfl, _, _, hb⟩
  replace hb1 := hb1.trans (hb.mono hb1.size)
  clear hb
  -- Join
  go_wp2_with fail
  obtain ⟨a1, hb⟩ := one_new w5 [ba [97], ba [98]]
  replace hb1 := hb1.trans (hb.mono hb1.size)
  refine (join_at _ _ 2 _ ⟨#[97, 98]⟩ _ a1 rfl (by omega) (by decide) (by decide)).mono ?_
  rintro e w6 ⟨rfl, hb6⟩
  replace hb1 := hb1.trans (hb6.mono hb1.size)
  clear hb hb6 a1
  -- Right, three times
  go_wp2_with fail
  obtain ⟨a1, hb⟩ := one_new w6 [ba [97, 10], ba [98]]
  replace hb1 := hb1.trans (hb.mono hb1.size)
  refine (right_at _ _ 2 _ _ true _ a1 rfl (by omega) (small_ba 9 _ (by decide) (by omega)) (by decide)).mono ?_
  rintro e w7 ⟨rfl, hb7⟩
  replace hb1 := hb1.trans (hb7.mono hb1.size)
  clear hb hb7 a1
  go_wp2_with fail
  obtain ⟨a1, hb⟩ := one_new w7 [ba [97], ba [98]]
  replace hb1 := hb1.trans (hb.mono hb1.size)
  refine (right_at _ _ 2 _ _ false _ a1 rfl (by omega) (small_ba 9 _ (by decide) (by omega)) (by decide)).mono ?_
  rintro e w8 ⟨rfl, hb7⟩
  replace hb1 := hb1.trans (hb7.mono hb1.size)
  clear hb hb7 a1
  go_wp2_with fail
  obtain ⟨a1, hb⟩ := one_new w8 [ba []]
  replace hb1 := hb1.trans (hb.mono hb1.size)
  refine (right_at _ _ 1 _ _ false _ a1 rfl (by omega) (small_ba 9 _ (by decide) (by omega)) (by decide)).mono ?_
  rintro e w9 ⟨rfl, hb7⟩
  replace hb1 := hb1.trans (hb7.mono hb1.size)
  clear hb hb7 a1
  go_wp2_with fail
  go_ret
  exact ⟨rfl, hb1⟩

end Go.Proofs.Ytjapbiojjbdplaa
