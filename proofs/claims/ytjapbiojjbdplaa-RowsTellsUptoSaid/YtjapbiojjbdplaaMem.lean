/-
  What a list of texts is in memory: 'Strs w B A ss': the slice at address A, as long as ss, holds the texts ss, in a block below B. No walk.
-/
import Derived.Test.YtjapbiojjbdplaaCalls
import Derived.Below
import Derived.Laws.OwnMore
import Derived.Deep.AppendLies
import Derived.Deep.Draws
namespace Go.Proofs.Ytjapbiojjbdplaa
open Go.RowKit
open Pl

/-- the slice '.slice A ss.length _' holds the texts ss, below block B -/
def Strs (w : World) (B : Nat) (A : Option Addr) (ss : List ByteArray) : Prop :=
  ss ≠ [] → ∃ a, A = some a ∧ a.block < B ∧ ∀ j s, ss[j]? = some s → w.cell? (a.add j) = some (.string s)

theorem add_block (a : Addr) (n : Nat) : (a.add n).block = a.block := by unfold Addr.add; split <;> rfl
theorem add_twice (a : Addr) (i j : Nat) : (a.add i).add j = a.add (i + j) := by
  unfold Addr.add
  by_cases hi : i = 0 <;> by_cases hj : j = 0 <;> simp [hi, hj, Nat.add_assoc]

section
variable {w w' : World} {B B' : Nat} {A : Option Addr} {ss : List ByteArray}
theorem Strs.nil : Strs w B A [] := fun h => absurd rfl h
theorem Strs.at_ (h : Strs w B A ss) {k : Nat} (hk : k < ss.length) : ∃ a, A = some a ∧ a.block < B ∧ w.cell? (a.add k) = some (.string ss[k]) := by
  obtain ⟨a, e, hb, hc⟩ := h (by intro e; subst e; simp at hk)
  exact ⟨a, e, hb, hc k _ (List.getElem?_eq_getElem hk)⟩
theorem Strs.keep (h : Strs w B A ss) (hk : ∀ p : Addr, p.block < B → w'.cell? p = w.cell? p) : Strs w' B A ss := fun hn => by
  obtain ⟨a, e, hb, hc⟩ := h hn
  exact ⟨a, e, hb, fun j s hj => (hk _ (by rw [add_block]; exact hb)).trans (hc j s hj)⟩
theorem Strs.more (h : Strs w B A ss) (hB : B ≤ B') : Strs w B' A ss := fun hn => by
  obtain ⟨a, e, hb, hc⟩ := h hn
  exact ⟨a, e, by omega, hc⟩
theorem Strs.below (h : Strs w B A ss) (hb : Below B w w') : Strs w' B A ss := h.keep fun _ hp => hb.cell hp
theorem Strs.drewN (h : Strs w B A ss) (n : Nat) : Strs (w.drewN n) B A ss := h
theorem Strs.drew (h : Strs w B A ss) : Strs w.drew B A ss := h
theorem Strs.alloc (h : Strs w B A ss) (hB : B ≤ w.heap.size) (o : Obj) : Strs (w.alloc o) B A ss := h.keep fun p hp => World.cell?_alloc_lt w o p (by omega)
theorem Strs.setCell (h : Strs w B A ss) {p : Addr} (hB : B ≤ p.block) (u : Value) : Strs (w.setCell p u) B A ss :=
  h.keep fun q hq => World.cell?_setCell_other w p q u (fun e => by subst e; omega)
theorem Strs.drop (h : Strs w B A ss) (k c : Nat) (hk : k ≤ ss.length) (hc : ss.length ≤ c) : Strs w B (if c = k then A else A.map (·.add k)) (ss.drop k) := fun hn => by
  have hk' : k < ss.length := by
    rcases Nat.lt_or_ge k ss.length with h' | h'
    · exact h'
    · exact absurd (List.drop_eq_nil_of_le h') hn
  obtain ⟨a, rfl, hb, hcell⟩ := h (by intro e; subst e; simp at hk')
  rw [if_neg (by omega)]
  refine ⟨a.add k, rfl, by rw [add_block]; exact hb, fun j s hj => ?_⟩
  rw [add_twice]
  exact hcell _ s (by rw [← hj, List.getElem?_drop])
theorem Strs.take (h : Strs w B A ss) (k : Nat) : Strs w B A (ss.take k) := fun hn => by
  obtain ⟨a, e, hb, hcell⟩ := h (by intro e; subst e; simp at hn)
  refine ⟨a, e, hb, fun j s hj => hcell j s ?_⟩
  rw [List.getElem?_take] at hj
  split at hj
  · exact hj
  · cases hj
theorem Strs.of_own {base : Nat} {e : TypeId} {c : Nat} (h : w.ownsRow base e 1 (.slice A ss.length c) ss.length (ss.map .string)) : Strs w w.heap.size A ss := fun hn => by
  obtain ⟨g, cap, hv, _, hlt⟩ := h.form (List.length_pos_iff.2 hn)
  have hA : A = some ⟨g, 0, none⟩ := by injection hv
  subst hA
  refine ⟨_, rfl, hlt, fun j s hj => ?_⟩
  exact h.cells (g := g) rfl j _ (by rw [List.getElem?_map, hj]; rfl)
end

end Go.Proofs.Ytjapbiojjbdplaa
