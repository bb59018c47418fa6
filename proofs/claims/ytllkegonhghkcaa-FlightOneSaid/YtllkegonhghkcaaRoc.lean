/-
  Lists of fills that a call makes out of others, with these one's lists of who waits. No walk.
-/
import Derived.Test.YtllkegonhghkcaaRwi
namespace Go.Proofs.Ytllkegonhghkcaa
open Go.RowKit P15

/-- a list of its own, whose things have lists that were there in w0 -/
def OwnC (w0 w : World) (v : Value) (L : List Fl) : Prop := ∃ R : List Fw, OwnR Fw.cells 4 28 w0 w v R ∧ (∀ x ∈ R, WaitAt w0 x) ∧ R.map Fw.fl = L
theorem OwnC.nil (w : World) : OwnC w w (.slice none 0 0) [] := ⟨[], OwnR.nil w, fun x hx => (by cases hx), rfl⟩
theorem OwnC.up {w0 w w' : World} {v : Value} {L : List Fl} (h : OwnC w0 w v L) (hb : Below w.heap.size w w') : OwnC w0 w' v L := by
  obtain ⟨R, h1, h2, h3⟩ := h
  exact ⟨R, h1.up hb, h2, h3⟩
theorem OwnC.below {w0 w : World} {v : Value} {L : List Fl} (h : OwnC w0 w v L) : Below w0.heap.size w0 w := by
  obtain ⟨R, h1, h2, h3⟩ := h
  exact h1.2
theorem OwnC.at_ {w0 w : World} {A : Option Addr} {n c : Nat} {L : List Fl} (h : OwnC w0 w (.slice A n c) L) : L.length = n ∧ n ≤ c ∧ FillsAt w A L := by
  obtain ⟨R, h1, h2, h3⟩ := h
  obtain ⟨A', c', e⟩ := h1.slice
  injection e with _ e2 _
  have hc := (OwnR.cap h1).1
  subst h3
  refine ⟨by rw [List.length_map, e2], by omega, R, rfl, OwnR.at_ fw_len h1 e2.symm, fun x hx => ⟨(h2 x hx).ints.up h1.2, (h2 x hx).cap⟩⟩
theorem OwnC.append {w0 w : World} {v : Value} {L M : List Fl} (h : OwnC w0 w v L) {A : Option Addr} (m c : Nat) (hA : FillsAt w0 A M) (hm : M.length = m) (k : Nat) (hk : L.length + m = k) (hb : k ≤ 1048576) :
    ∃ A' c' w', (Builtin.append_ #[22, 22] 22 #[v, .slice A m c]).run Try.prog w = .ok (.slice A' k c') w' ∧ OwnC w0 w' (.slice A' k c') (L ++ M) ∧ w.grownBy w' v.ownBlock := by
  obtain ⟨R, h1, h2, rfl⟩ := h
  obtain ⟨S, rfl, s2, s3⟩ := hA
  rw [List.length_map] at hk hm
  have hl : (R ++ S).length = k := by rw [List.length_append, hm, hk]
  obtain ⟨A', c', w', r1, r2, r3⟩ := OwnR.append fw_len fw_one (by decide) infoF (by rfl) Try.underlying22 (by decide) h1 m c (s2.up h1.2) hm (R ++ S) rfl (by rw [hl]; exact hb)
  rw [hl] at r1 r2
  refine ⟨A', c', w', r1, ⟨R ++ S, r2, fun x hx => ?_, by rw [List.map_append]⟩, r3⟩
  rcases List.mem_append.1 hx with hx | hx
  · exact h2 x hx
  · exact s3 x hx
theorem OwnC.push {w0 W : World} {v : Value} {L : List Fl} (h : OwnC w0 W v L) (l r : ByteArray) (b : Int) (wt : List Int) (B : Option Addr) (d : Nat) (hx : WaitAt w0 ⟨l, r, b, wt, B, d⟩) (j : Nat) (hj : wt.length = j) (m : Nat) (hm : L.length + 1 = m) (hL : m ≤ 1048576) :
    ∃ A' c' W', (Builtin.append_ #[22, 22] 22 #[v, .slice (some ⟨W.heap.size, 0, none⟩) 1 1]).run Try.prog (W.alloc (.cells #[.string l, .string r, .int .i64 b, .slice B j d] 28)) = .ok (.slice A' m c') W' ∧ OwnC w0 W' (.slice A' m c') (L ++ [⟨l, r, b, wt⟩]) ∧ W.grownBy W' v.ownBlock := by
  obtain ⟨R, h1, h2, rfl⟩ := h
  subst hj
  rw [List.length_map] at hm
  obtain ⟨A', c', W', hr, ho, hg⟩ := OwnR.push fw_len fw_one (by decide) infoF (by rfl) Try.underlying22 (by decide) h1 ⟨l, r, b, wt, B, d⟩ m hm hL
  refine ⟨A', c', W', hr, ⟨R ++ [⟨l, r, b, wt, B, d⟩], ho, fun x hx' => ?_, by rw [List.map_append]; rfl⟩, hg⟩
  rcases List.mem_append.1 hx' with hx' | hx'
  · exact h2 x hx'
  · rw [List.mem_singleton.1 hx']; exact hx
/-- numbers of one's own stay where they are when something is written into a box of another type -/
theorem own_far {w0 w : World} {A : Option Addr} {n c : Nat} {L : List Int} (h : OwnI w0 w (.slice A n c) L) {g : Nat} {t : TypeId} {cs : Array Value} (hb : Blk w g t cs) (ht : 3 ≠ t) (j : Nat) (u : Value) : IntsAt (w.setCell ⟨g, j, none⟩ u) A L := by
  by_cases hl : 0 < L.length
  · obtain ⟨k, ds, rfl, hk, _, hf, _⟩ := OwnR.filled i_len h hl
    exact hf.at_ (Blk.far hk (blk_ne hk hb ht) u)
  · obtain rfl : L = [] := List.eq_nil_of_length_eq_zero (by omega); exact RowAt.nil
/-- the world behind a box -/
theorem box_new (w : World) (t : TypeId) (cs : Array Value) : ∃ (g : Nat) (W : World), g = w.heap.size ∧ W = w.alloc (.cells cs t) ∧ Blk W g t cs ∧ Below w.heap.size w W :=
  ⟨_, _, rfl, rfl, Blk.new w t cs, (Below.refl _ _).alloc (Nat.le_refl _) _⟩

end Go.Proofs.Ytllkegonhghkcaa
