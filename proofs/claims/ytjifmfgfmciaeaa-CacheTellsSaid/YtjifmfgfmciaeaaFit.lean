/-
  Slots whose texts a machine can hold, and whose numbers are of their kinds.
-/
import Derived.Test.YtjifmfgfmciaeaaGet
namespace Go.Proofs.Ytjifmfgfmciaeaa
open Go.RowKit

theorem wf_u64 {z : Int} (h1 : 0 ≤ z) (h2 : z ≤ 18446744073709551615) : (Lit.int .u64 z).wf = true := by
  have e1 : IntKind.u64.min = 0 := by decide
  have e2 : IntKind.u64.max = 18446744073709551615 := by decide
  show (decide (_ ≤ z) && decide (z ≤ _)) = true
  rw [e1, e2, decide_eq_true h1, decide_eq_true h2]
  rfl
theorem wf_i64 {z : Int} (h1 : -9223372036854775808 ≤ z) (h2 : z ≤ 9223372036854775807) : (Lit.int .i64 z).wf = true := by
  have e1 : IntKind.i64.min = -9223372036854775808 := by decide
  have e2 : IntKind.i64.max = 9223372036854775807 := by decide
  show (decide (_ ≤ z) && decide (z ≤ _)) = true
  rw [e1, e2, decide_eq_true h1, decide_eq_true h2]
  rfl
/-- texts that a machine can hold, and numbers of their kinds -/
def FitS (L : List Sl) : Prop := ∀ x ∈ L, (x.left.size ≤ 140737488355328 ∧ x.right.size ≤ 140737488355328 ∧ x.val.size ≤ 140737488355328) ∧ (Lit.int .u64 x.sum).wf = true ∧ (Lit.int .i64 x.len).wf = true
theorem FitS.sub {L M : List Sl} (h : FitS M) (hs : ∀ x ∈ L, x ∈ M) : FitS L := fun x hx => h x (hs x hx)
theorem FitS.nil : FitS [] := fun _ hx => by cases hx
theorem FitS.cons {L : List Sl} {s : Sl} (h : FitS L) (hs : FitS [s]) : FitS (s :: L) := fun x hx => by
  rcases List.mem_cons.1 hx with rfl | hx
  · exact hs _ (List.mem_singleton.2 rfl)
  · exact h x hx
theorem FitS.without {L : List Sl} (h : FitS L) (k : Int × Int) : FitS (withoutS L k) := h.sub fun _ hx => (P13.mem_without.1 hx).1
theorem FitS.all {L : List Sl} (h : FitS L) {s : Sl} (hs : FitS [s]) : FitS (allS L s) := (h.without _).cons hs
theorem FitS.take {L : List Sl} (h : FitS L) (n : Nat) : FitS (L.take n) := h.sub fun _ hx => List.mem_of_mem_take hx
theorem FitS.drop {L : List Sl} (h : FitS L) (n : Nat) : FitS (L.drop n) := h.sub fun _ hx => List.mem_of_mem_drop hx

end Go.Proofs.Ytjifmfgfmciaeaa
