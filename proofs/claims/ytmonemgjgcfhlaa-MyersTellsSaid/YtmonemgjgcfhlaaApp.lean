/-
  A list of texts that a call makes by appends: what it is (Own), and how an append runs.
-/
import Derived.Test.YtmonemgjgcfhlaaLin
namespace Go.Proofs.Ytmonemgjgcfhlaa
open Go.RowKit

/-- v is a list of texts X that was made behind w0; nothing that was there in w0 is changed -/
def Own (w0 w : World) (v : Value) (X : List ByteArray) : Prop := w.ownsRow w0.heap.size 9 1 v X.length (X.map .string) ∧ Below w0.heap.size w0 w
theorem Own.nil (w : World) : Own w w (.slice none 0 0) [] := ⟨World.ownsRow_nil _ _ _ _, Below.refl _ _⟩
theorem Own.strs {w0 w : World} {A : Option Addr} {X : List ByteArray} {c : Nat} (h : Own w0 w (.slice A X.length c) X) : Strs w w.heap.size A X := Strs.of_own h.1
theorem Own.shape {w0 w : World} {v : Value} {X : List ByteArray} (h : Own w0 w v X) : ∃ A c, v = .slice A X.length c ∧ X.length ≤ c := by
  obtain ⟨A, c, e, hc, _⟩ := row_shape h.1
  exact ⟨A, c, e, hc⟩
theorem Own.alloc {w0 w : World} {v : Value} {X : List ByteArray} (h : Own w0 w v X) (o : Obj) : Own w0 (w.alloc o) v X := ⟨h.1.alloc o, h.2.alloc h.2.size o⟩
/-- an append onto it -/
theorem append_own {w0 w : World} {v : Value} {X news : List ByteArray} (h : Own w0 w v X) {H : Nat} {A : Option Addr} (m c : Nat) (hA : Strs w H A news) (hm : news.length = m) (Y : List ByteArray) (hY : Y = X ++ news) (hb : Y.length ≤ 1099511627776) :
    ∃ A' c' w', (Builtin.append_ #[22, 22] 22 #[v, .slice A m c]).run Try.prog w = .ok (.slice A' Y.length c') w' ∧ Own w0 w' (.slice A' Y.length c') Y := by
  subst hm
  have hl : X.length + news.length = Y.length := by rw [hY, List.length_append]
  obtain ⟨A', c', w', hrun, hown, hg⟩ := run_append_strs w w0.heap.size v X.length (X.map .string) h.1 H A news.length c news hA rfl (by omega) h.2.size
  rw [hl] at hrun hown
  refine ⟨A', c', w', hrun, ?_, h.2.grown hg h.2.size (fun g e => (h.1.lt g e).1)⟩
  rw [hY] at hown ⊢
  rw [List.map_append]
  exact hown

end Go.Proofs.Ytmonemgjgcfhlaa
