/-
  What the laws of stage 14 share: who asks, and what is told; a cache that a call has told, in a box.
-/
import Derived.Test.YtjifmfgfmciaeaaCiG
import Derived.Test.YtjifmfgfmciaeaaLak
import Derived.Test.YtjifmfgfmciaeaaAtm
namespace Go.Proofs.Ytjifmfgfmciaeaa
open Go.RowKit

theorem get_told {c d : Ca} (hc : RightC c) (hd : RightC d) {l r : ByteArray} (h : c.at_ l r = d.at_ l r) : (getC c l r).1 = (getC d l r).1 ∧ (getC c l r).2.2 = (getC d l r).2.2 := by
  unfold getC
  rw [if_pos (rightC_iff.2 hc), if_pos (rightC_iff.2 hd), h]
  cases d.at_ l r with
  | none => exact ⟨rfl, rfl⟩
  | some x =>
    simp only
    split <;> exact ⟨rfl, rfl⟩
/-- a cache that is asked by raw numbers -/
def askC (c : Ca) (z : Tri) : Ca := (getC c (textOf z.1) (textOf z.2.1)).2.1
/-- who asks changes nothing of what is told -/
structure Asked (c d : Ca) (m : Nat) : Prop where
  good : Good d m
  at_ : ∀ l r, d.at_ l r = c.at_ l r
  size : sizeC d = sizeC c
theorem Asked.step {c d : Ca} {m : Nat} (h : Asked c d m) (l r : ByteArray) : Asked c (getC d l r).2.1 m :=
  ⟨h.good.get l r, fun l' r' => by rw [at_got h.good.right, h.at_], by rw [size_get h.good.right, h.size]⟩
theorem Asked.fold {c : Ca} {m : Nat} : ∀ (zs : List Tri) {d : Ca}, Asked c d m → Asked c (zs.foldl askC d) m
  | [], _, h => h
  | z :: zs, _, h => Asked.fold zs (h.step (textOf z.1) (textOf z.2.1))
theorem fold_take' {β : Type} {f : Ca → β → Ca} {zs : List β} {k : Nat} {z : β} (h : zs[k]? = some z) (c : Ca) : (zs.take (k + 1)).foldl f c = f ((zs.take k).foldl f c) z := by
  obtain ⟨hk, rfl⟩ := List.getElem?_eq_some_iff.1 h
  rw [List.take_succ_eq_append_getElem hk, List.foldl_append]
  rfl
/-- what Get has told, in its places -/
def GetCut (w4 : World) (s : ByteArray) (d : Ca) (b : Int) (vs vb ve : Value) (wx : World) : Prop :=
  ∃ (g : Nat) (A : Option Addr) (n cap : Nat), vs = .string s ∧ vb = .pointer (some ⟨g, 0, none⟩) ∧ ve = .int .i64 b ∧ Blk wx g 28 #[.int .i64 d.width, .int .i64 d.room, .slice A n cap, .int .i64 d.hits, .int .i64 d.misses, .int .i64 d.clashes, .int .i64 d.evicted] ∧ PartsAt (fun b => b < w4.heap.size) wx A d.parts ∧ d.parts.length = n ∧ n ≤ cap ∧ Below w4.heap.size w4 wx ∧ w4.heap.size ≤ g
/-- what Put has told, in its places -/
def PutCut (w4 : World) (d : Ca) (b : Int) (vb ve : Value) (wx : World) : Prop :=
  ∃ (g : Nat) (A : Option Addr) (n cap : Nat), vb = .pointer (some ⟨g, 0, none⟩) ∧ ve = .int .i64 b ∧ Blk wx g 28 #[.int .i64 d.width, .int .i64 d.room, .slice A n cap, .int .i64 d.hits, .int .i64 d.misses, .int .i64 d.clashes, .int .i64 d.evicted] ∧ PartsAt (fun b => b < w4.heap.size) wx A d.parts ∧ d.parts.length = n ∧ n ≤ cap ∧ Below w4.heap.size w4 wx ∧ w4.heap.size ≤ g
/-- a cache in a box: nothing of it lies in the blocks of X -/
def Boxed (X : Nat → Prop) (w : World) (g : Nat) (c : Ca) : Prop :=
  ∃ (A : Option Addr) (n cap : Nat), Blk w g 28 #[.int .i64 c.width, .int .i64 c.room, .slice A n cap, .int .i64 c.hits, .int .i64 c.misses, .int .i64 c.clashes, .int .i64 c.evicted] ∧ PartsAt X w A c.parts ∧ c.parts.length = n ∧ n ≤ cap
theorem Boxed.up {X : Nat → Prop} {w w' : World} {g : Nat} {c : Ca} (h : Boxed X w g c) (hb : Below w.heap.size w w') : Boxed X w' g c := by
  obtain ⟨A, n, cap, h1, h2, h3, h4⟩ := h
  exact ⟨A, n, cap, Blk.below h1 hb h1.lt, h2.up hb, h3, h4⟩
/-- another box is written over -/
theorem Boxed.kept {X : Nat → Prop} {w w' : World} {g k : Nat} {c : Ca} (h : Boxed X w g c) (hg : w.grownBy w' (some k)) (hk : X k) (hn : g ≠ k) : Boxed X w' g c := by
  obtain ⟨A, n, cap, h1, h2, h3, h4⟩ := h
  exact ⟨A, n, cap, Blk.grown h1 hg (fun e => hn (Option.some.inj e)), h2.kept hg hk, h3, h4⟩
theorem tri_cells {w : World} {A : Option Addr} {zs : List Tri} (h : TrisAt w A zs) {k : Nat} {z : Tri} (hk : zs[k]? = some z) :
    ∃ a, A = some a ∧ a.block < w.heap.size ∧ ∀ W, Below w.heap.size w W → W.cell? (a.add (k * 3)) = some (.int .i64 z.1) ∧ W.cell? ⟨(a.add (k * 3)).block, (a.add (k * 3)).off + 1, none⟩ = some (.int .i64 z.2.1) ∧ W.cell? ⟨(a.add (k * 3)).block, (a.add (k * 3)).off + 2, none⟩ = some (.int .i64 z.2.2) := by
  obtain ⟨a, e, hb, hc⟩ := h.at_ hk
  refine ⟨a, e, hb, fun W hW => ⟨?_, ?_, ?_⟩⟩
  · exact (hW.cell (by rw [add_block]; exact hb)).trans (hc 0 _ rfl)
  · rw [field_at _ _ 1 (by decide)]; exact (hW.cell (by rw [add_block]; exact hb)).trans (hc 1 _ rfl)
  · rw [field_at _ _ 2 (by decide)]; exact (hW.cell (by rw [add_block]; exact hb)).trans (hc 2 _ rfl)
theorem small_i64 {k : Nat} (h : k ≤ 1000) : I64 (k : Int) := ⟨by omega, by omega⟩

end Go.Proofs.Ytjifmfgfmciaeaa
