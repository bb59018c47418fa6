/-
  Blocks of which some cells become other ones; lists that a call makes, as the blocks in which they lie.
-/
import Derived.Test.YtaelenjnjoeheaaMem
namespace Go.Proofs.Ytaelenjnjoeheaa
open Go.RowKit

/-- cells, of which some are other ones -/
def putAt (cs : Array Value) (b : Nat) : List Value → Array Value
  | [] => cs
  | v :: vs => putAt (cs.setIfInBounds b v) (b + 1) vs
theorem putAt_size : ∀ (vs : List Value) (cs : Array Value) (b : Nat), (putAt cs b vs).size = cs.size
  | [], _, _ => rfl
  | v :: vs, cs, b => by rw [putAt, putAt_size vs, Array.size_setIfInBounds]
theorem putAt_far : ∀ (vs : List Value) (cs : Array Value) (b i : Nat), (i < b ∨ b + vs.length ≤ i) → (putAt cs b vs)[i]? = cs[i]?
  | [], _, _, _, _ => rfl
  | v :: vs, cs, b, i, h => by
    simp only [List.length_cons] at h
    rw [putAt, putAt_far vs _ (b + 1) i (by omega), Array.getElem?_setIfInBounds_ne (by omega)]
theorem putAt_in : ∀ (vs : List Value) (cs : Array Value) (b j : Nat) (u : Value), vs[j]? = some u → b + j < cs.size → (putAt cs b vs)[b + j]? = some u
  | v :: vs, cs, b, 0, u, h, hb => by
    simp at h
    subst h
    rw [putAt, putAt_far vs _ (b + 1) (b + 0) (by omega)]
    exact Array.getElem?_setIfInBounds_self_of_lt (by omega)
  | v :: vs, cs, b, j + 1, u, h, hb => by
    rw [putAt, show b + (j + 1) = b + 1 + j from by omega]
    exact putAt_in vs _ (b + 1) j u (by simpa using h) (by rw [Array.size_setIfInBounds]; omega)
/-- the first k rows of n cells each are those of L -/
def Filled {α : Type} (f : α → List Value) (n : Nat) (cs : Array Value) (L : List α) (k : Nat) : Prop := ∀ i x, i < k → L[i]? = some x → ∀ j u, (f x)[j]? = some u → cs[i * n + j]? = some u
theorem Filled.put {α : Type} {f : α → List Value} {n : Nat} (hl : ∀ x, (f x).length = n) {cs : Array Value} {L : List α} {k : Nat} (h : Filled f n cs L k) {x : α} (hx : L[k]? = some x) (hs : k * n + n ≤ cs.size) : Filled f n (putAt cs (k * n) (f x)) L (k + 1) := by
  intro i y hi hy j u hu
  have hj : j < n := by rw [← hl y]; exact (List.getElem?_eq_some_iff.1 hu).1
  by_cases e : i = k
  · subst e
    rw [hx] at hy
    injection hy with hy
    subst hy
    exact putAt_in _ _ _ _ _ hu (by omega)
  · have hik : i + 1 ≤ k := by omega
    have hm : (i + 1) * n ≤ k * n := Nat.mul_le_mul_right n hik
    rw [Nat.add_mul, Nat.one_mul] at hm
    rw [putAt_far _ _ _ _ (by left; omega)]
    exact h i y (by omega) hy j u hu
theorem Filled.at_ {α : Type} {f : α → List Value} {n : Nat} {cs : Array Value} {L : List α} {w : World} {g : Nat} {t : TypeId} (h : Filled f n cs L L.length) (hb : Blk w g t cs) : RowAt f n w (some ⟨g, 0, none⟩) L := fun _ => by
  refine ⟨_, rfl, hb.lt, fun k x hk j u hu => ?_⟩
  rw [add_zero_block]
  exact (hb.cell _).trans (h k x (List.getElem?_eq_some_iff.1 hk).1 hk j u hu)

/-- a list that a call has made, as the block in which it lies -/
theorem OwnR.filled {α : Type} {f : α → List Value} {k : Nat} {t : TypeId} (hl : ∀ x, (f x).length = k) {w0 w : World} {A : Option Addr} {n c : Nat} {L : List α} (h : OwnR f k t w0 w (.slice A n c) L) (h0 : 0 < L.length) :
    ∃ g cs, A = some ⟨g, 0, none⟩ ∧ Blk w g t cs ∧ L.length * k ≤ cs.size ∧ Filled f k cs L L.length ∧ w0.heap.size ≤ g ∧ n = L.length ∧ L.length ≤ c ∧ c ≤ maxLen := by
  have hcap := OwnR.cap h
  rcases h.1.2 with ⟨h1, h2⟩ | ⟨g, cap, cur, h1, hb, hg, hn, hm, hs, ht⟩
  · omega
  · injection h1 with hA hl' hc
    refine ⟨g, cur, hA, hg, by rw [hs]; exact Nat.mul_le_mul_right k hn, fun i x hi hx j u hu => ?_, hb, hl', hcap.1, hcap.2⟩
    have hf := flat_at hl hx j u hu
    rw [← ht, List.getElem?_take] at hf
    split at hf
    · rw [← Array.getElem?_toList]; exact hf
    · cases hf

end Go.Proofs.Ytaelenjnjoeheaa
