/-
  One line that has become another one, which is nowhere else: the shortest script, and what it costs; and edits that a call appends several at once.
-/
import Derived.Test.YtmonemgjgcfhlaaEdits
namespace Go.Proofs.Ytmonemgjgcfhlaa
open Go.RowKit

theorem TwoE.pushes {w0 w : World} {v u : Value} {L M : List MEd} (h : TwoE w0 w v L u M) (ms : List MEd) (hms : ∀ m ∈ ms, Strs w0 w0.heap.size m.A m.lines) (n l : Nat) (hn : ms.length = n) (hl : L.length + n = l) (hL : l ≤ 1000) (h0 : 0 < n) :
    ∃ A' c' w', (Builtin.append_ #[28, 28] 28 #[v, .slice (some ⟨w.heap.size, 0, none⟩) n n]).run Try.prog (w.alloc (.cells (meCells ms).toArray 38)) = .ok (.slice A' l c') w' ∧ TwoE w0 w' (.slice A' l c') (L ++ ms) u M := by
  subst hn hl
  obtain ⟨i0, hi, hz0, hz1, hz2⟩ := info_parts info38
  have hrow := World.ownsRow.alloc h.row (.cells (meCells ms).toArray 38)
  have hrow' := World.ownsRow.alloc h.row' (.cells (meCells ms).toArray 38)
  have hbw := h.below.size
  have hnew := Blk.new w 38 (meCells ms).toArray
  have hone : ∀ x ∈ meCells ms, x.oneCell' = true := by
    intro x hx
    unfold meCells at hx
    obtain ⟨m, _, hm⟩ := List.mem_flatMap.1 hx
    simp [MEd.cells] at hm
    rcases hm with rfl | rfl | rfl <;> rfl
  obtain ⟨v', w', hrun, hown, hg, _, hat⟩ := run_append_own_at (P := Try.prog) (w.alloc (.cells (meCells ms).toArray 38)) w0.heap.size 28 28 38 i0 _ 3 40 Try.underlying28 hi hz0 hz1 hz2 rfl (by decide) v L.length (meCells L) hrow
    ⟨w.heap.size, 0, none⟩ ms.length ms.length (meCells ms) (meCells_length ms) (by
      intro j u hu
      rw [add_zero_block, hnew.cell j]
      simpa using hu) hone (by unfold maxLen; omega) (by omega) (by simp; omega)
  have hsh : ∃ A' c', v' = .slice A' (L.length + ms.length) c' := by
    obtain ⟨g, cap, e, _⟩ := hown.form (by omega)
    exact ⟨_, _, e⟩
  obtain ⟨A', c', rfl⟩ := hsh
  have hcat : meCells (L ++ ms) = meCells L ++ meCells ms := by simp [meCells]
  refine ⟨A', c', w', hrun, ?_, ?_, ?_, ?_, h.old', ?_⟩
  · rw [hcat, List.length_append]; exact hown
  · exact World.ownsRow.kept hrow' hg h.swap.apart
  · rcases hat with e | e
    · rw [e]; exact h.apart
    · right
      rw [e]
      intro e'
      have := (h.row'.lt _ e'.symm).2
      simp at this
      omega
  · intro m' hm'
    rcases List.mem_append.1 hm' with e | e
    · exact h.old m' e
    · exact hms m' e
  · exact (h.below.alloc h.below.size _).grown hg (by simp; omega) (fun k hk => (hrow.lt k hk).1)

section
variable {x n : ByteArray} {q : List ByteArray}
theorem ed_swap0 (hq : n ∉ q) : Pm.ed q (n :: q) = 1 := by
  rw [Pm.ed_turn, Pm.ed_skip _ n q q (Nat.le_refl _) hq, Pm.ed_self]
theorem ed_swap (hx : x ≠ n) (hq : n ∉ q) : Pm.ed (x :: q) (n :: q) = 2 := by
  rw [Pm.ed_ne hx, ed_swap0 hq]
  have h := Pm.ed_low (x :: q) q
  simp only [List.length_cons] at h
  omega
theorem way_swap (hx : x ≠ n) (hq : n ∉ q) : Pm.way (x :: q) (n :: q) = (2, []) :: (3, [n]) :: List.replicate q.length (1, []) := by
  rw [Pm.way_cut x q (n :: q) (fun y b' e => by injection e with e1 e2; rw [← e1]; exact hx) (by rw [ed_swap hx hq, ed_swap0 hq])]
  rw [Pm.way_add n q q (fun p a' e => by
    refine ⟨fun h => hq (by rw [e, h]; simp), ?_⟩
    rw [← e, ed_swap0 hq]
    have h := Pm.ed_low a' (n :: q)
    rw [e] at h ⊢
    simp only [List.length_cons] at h
    omega)]
  have h := Pm.way_ahead q [] []
  rw [List.append_nil, Pm.way_nil, List.append_nil] at h
  rw [h]
end
theorem grp_swap (p q : List ByteArray) (x n : ByteArray) (hx : x ≠ n) (hq : n ∉ q) :
    grp [] (Pm.way (p ++ x :: q) (p ++ n :: q)) = kept p ++ [⟨2, 1, []⟩, ⟨3, 1, [n]⟩] ++ if q = [] then [] else [⟨1, q.length, []⟩] := by
  rw [Pm.way_ahead, way_swap hx hq, grp_append, grp_kept, grp_cons, grp_cons]
  show grp (stepE (stepE (kept p) 2 []) 3 [n]) _ = _
  rw [stepE_new (kept p) 2 [] (fun e he => by rw [kept_last he]; decide), stepE_new _ 3 [n] (by intro e he; simp at he; subst he; decide)]
  by_cases h : q = []
  · subst h; simp [grp]
  · rw [if_neg h, grp_reps _ 1 (by intro e he; simp at he; subst he; show (3 : Int) ≠ 1; decide) q.length (List.length_pos_iff.2 h)]
    simp
theorem set_split {a : List ByteArray} {k : Nat} (hk : k < a.length) (n : ByteArray) : a = a.take k ++ a[k] :: a.drop (k + 1) ∧ a.set k n = a.take k ++ n :: a.drop (k + 1) := by
  refine ⟨?_, List.set_eq_take_append_cons_drop .. |>.trans (by rw [if_pos hk])⟩
  rw [← List.drop_eq_getElem_cons hk, List.take_append_drop]
/-- what it asks for -/
def swapE (k r : Nat) (n : ByteArray) : List Edt := (if k = 0 then [] else [⟨1, k, []⟩]) ++ [⟨2, 1, []⟩, ⟨3, 1, [n]⟩] ++ if r = 0 then [] else [⟨1, r, []⟩]
theorem grp_set {a : List ByteArray} {k : Nat} (hk : k < a.length) (n : ByteArray) (hn : n ∉ a) : grp [] (Pm.way a (a.set k n)) = swapE k (a.length - k - 1) n := by
  obtain ⟨e1, e2⟩ := set_split hk n
  have hx : a[k] ≠ n := fun e => hn (by rw [← e]; exact List.getElem_mem _)
  have hq : n ∉ a.drop (k + 1) := fun h => hn (List.mem_of_mem_drop h)
  rw [e2]
  conv => lhs; rw [e1]
  have hl : (a.take k).length = k := by rw [List.length_take]; omega
  have hd : (a.drop (k + 1)).length = a.length - k - 1 := by rw [List.length_drop]; omega
  have ht : (a.take k ++ a[k] :: a.drop (k + 1)).take k = a.take k := by rw [List.take_append_of_le_length (by omega), List.take_of_length_le (by omega)]
  have hdd : (a.take k ++ a[k] :: a.drop (k + 1)).drop (k + 1) = a.drop (k + 1) := by rw [← e1]
  rw [ht, hdd, grp_swap _ _ _ _ hx hq]
  unfold swapE kept
  by_cases g1 : k = 0
  · have : a.take k = [] := by rw [g1]; rfl
    rw [if_pos this, if_pos g1]
    by_cases g2 : a.drop (k + 1) = []
    · rw [if_pos g2, if_pos (by rw [← hd, g2]; rfl)]
    · rw [if_neg g2, hd, if_neg (by rw [← hd]; exact fun h => g2 (List.eq_nil_of_length_eq_zero h))]
  · have : a.take k ≠ [] := fun h => g1 (by rw [← hl, h]; rfl)
    rw [if_neg this, if_neg g1, hl]
    by_cases g2 : a.drop (k + 1) = []
    · rw [if_pos g2, if_pos (by rw [← hd, g2]; rfl)]
    · rw [if_neg g2, hd, if_neg (by rw [← hd]; exact fun h => g2 (List.eq_nil_of_length_eq_zero h))]
theorem ed_set {a : List ByteArray} {k : Nat} (hk : k < a.length) (n : ByteArray) (hn : n ∉ a) : Pm.ed a (a.set k n) = 2 := by
  obtain ⟨e1, e2⟩ := set_split hk n
  have hx : a[k] ≠ n := fun e => hn (by rw [← e]; exact List.getElem_mem _)
  have hq : n ∉ a.drop (k + 1) := fun h => hn (List.mem_of_mem_drop h)
  have h : Pm.ed (a.take k ++ a[k] :: a.drop (k + 1)) (a.take k ++ n :: a.drop (k + 1)) = 2 := by rw [Pm.ed_ahead, ed_swap hx hq]
  rw [← e1, ← e2] at h
  exact h

end Go.Proofs.Ytmonemgjgcfhlaa
