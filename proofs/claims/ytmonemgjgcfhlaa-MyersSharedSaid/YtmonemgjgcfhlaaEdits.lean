/-
  Two lists of edits that a call makes by appends, the one beside the other (TwoE); what the shortest script is where one list is the other with lines behind it.
-/
import Derived.Test.YtmonemgjgcfhlaaTurned
namespace Go.Proofs.Ytmonemgjgcfhlaa
open Go.RowKit

/-- two lists of edits that were made behind w0; their lines lay there before -/
structure TwoE (w0 w : World) (v : Value) (L : List MEd) (u : Value) (M : List MEd) : Prop where
  row : w.ownsRow w0.heap.size 38 3 v L.length (meCells L)
  row' : w.ownsRow w0.heap.size 38 3 u M.length (meCells M)
  apart : v.ownBlock = none ∨ v.ownBlock ≠ u.ownBlock
  old : ∀ m ∈ L, Strs w0 w0.heap.size m.A m.lines
  old' : ∀ m ∈ M, Strs w0 w0.heap.size m.A m.lines
  below : Below w0.heap.size w0 w
theorem TwoE.nil (w : World) : TwoE w w (.slice none 0 0) [] (.slice none 0 0) [] := ⟨World.ownsRow_nil _ _ _ _, World.ownsRow_nil _ _ _ _, .inl rfl, by simp, by simp, Below.refl _ _⟩
theorem TwoE.swap {w0 w : World} {v u : Value} {L M : List MEd} (h : TwoE w0 w v L u M) : TwoE w0 w u M v L :=
  ⟨h.row', h.row, by
    cases hu : u.ownBlock with
    | none => exact .inl rfl
    | some g =>
      right
      rcases h.apart with e | e
      · rw [e]; simp
      · rw [hu] at e; exact fun e' => e e'.symm, h.old', h.old, h.below⟩
theorem TwoE.eds {w0 w : World} {A : Option Addr} {n c : Nat} {u : Value} {L M : List MEd} (h : TwoE w0 w (.slice A n c) L u M) : Eds w w.heap.size A (L.map MEd.e) := fun hne => by
  have hL : L ≠ [] := by intro e; subst e; simp at hne
  obtain ⟨g, cap, hv, _, hlt⟩ := h.row.form (List.length_pos_iff.2 hL)
  have hA : A = some ⟨g, 0, none⟩ := by injection hv
  subst hA
  refine ⟨_, rfl, hlt, fun k e hk => ?_⟩
  rw [List.getElem?_map] at hk
  cases hm : L[k]? with
  | none => rw [hm] at hk; cases hk
  | some m =>
    rw [hm] at hk
    injection hk with hk
    subst hk
    obtain ⟨h1, h2, h3⟩ := meCells_at hm
    exact ⟨h.row.cells (g := g) rfl _ _ h1, h.row.cells (g := g) rfl _ _ h2, m.A, m.cap, h.row.cells (g := g) rfl _ _ h3, ((h.old m (List.mem_of_getElem? hm)).below h.below).more h.below.size⟩
theorem TwoE.push {w0 w : World} {v u : Value} {L M : List MEd} (h : TwoE w0 w v L u M) (m : MEd) (hm : Strs w0 w0.heap.size m.A m.lines) (l : Nat) (hl : L.length + 1 = l) (hL : l ≤ 1000) :
    ∃ A' c' w', (Builtin.append_ #[28, 28] 28 #[v, .slice (some ⟨w.heap.size, 0, none⟩) 1 1]).run Try.prog (w.alloc (.cells #[.int .i64 m.op, .int .i64 (m.n : Nat), m.val] 38)) = .ok (.slice A' l c') w' ∧ TwoE w0 w' (.slice A' l c') (L ++ [m]) u M := by
  subst hl
  obtain ⟨i0, hi, hz0, hz1, hz2⟩ := info_parts info38
  have hrow := World.ownsRow.alloc h.row (.cells #[.int .i64 m.op, .int .i64 (m.n : Nat), m.val] 38)
  have hrow' := World.ownsRow.alloc h.row' (.cells #[.int .i64 m.op, .int .i64 (m.n : Nat), m.val] 38)
  have hbw := h.below.size
  have hnew := Blk.new w 38 #[.int .i64 m.op, .int .i64 (m.n : Nat), m.val]
  obtain ⟨v', w', hrun, hown, hg, _, hat⟩ := run_append_own_at (P := Try.prog) (w.alloc (.cells #[.int .i64 m.op, .int .i64 (m.n : Nat), m.val] 38)) w0.heap.size 28 28 38 i0 _ 3 40 Try.underlying28 hi hz0 hz1 hz2 rfl (by decide) v L.length (meCells L) hrow
    ⟨w.heap.size, 0, none⟩ 1 1 m.cells rfl (by
      intro j u hu
      rw [add_zero_block, hnew.cell j]
      simpa [MEd.cells] using hu) (by intro u hu; simp [MEd.cells] at hu; rcases hu with rfl | rfl | rfl <;> rfl) (by unfold maxLen; omega) (by omega) (by simp; omega)
  have hsh : ∃ A' c', v' = .slice A' (L.length + 1) c' := by
    obtain ⟨g, cap, e, _⟩ := hown.form (by omega)
    exact ⟨_, _, e⟩
  obtain ⟨A', c', rfl⟩ := hsh
  refine ⟨A', c', w', hrun, ?_, ?_, ?_, ?_, h.old', ?_⟩
  · rw [meCells_snoc, List.length_append]; exact hown
  · exact World.ownsRow.kept hrow' hg h.swap.apart
  · rcases hat with e | e
    · rw [e]; exact h.apart
    · right
      rw [e]
      intro e'
      have := (h.row'.lt _ e'.symm).2
      simp at this
      omega
  · intro m' hm'
    rcases List.mem_append.1 hm' with e | e
    · exact h.old m' e
    · simp at e; subst e; exact hm
  · exact (h.below.alloc h.below.size _).grown hg (by simp; omega) (fun k hk => (hrow.lt k hk).1)

theorem grp_append (es : List Edt) (s t : List (Pm.Stp ByteArray)) : grp es (s ++ t) = grp (grp es s) t := by unfold grp; rw [List.foldl_append]
theorem grp_rep (es : List Edt) (op : Int) : ∀ (n k : Nat) (l : List ByteArray), grp (es ++ [⟨op, k, l⟩]) (List.replicate n (op, [])) = es ++ [⟨op, k + n, l⟩]
  | 0, k, l => rfl
  | n + 1, k, l => by
    rw [List.replicate_succ, grp_cons]
    have h := stepE_same es ⟨op, k, l⟩ []
    show grp (stepE (es ++ [⟨op, k, l⟩]) op []) _ = _
    rw [h, List.append_nil, grp_rep es op n (k + 1) l]
    simp only [Nat.add_assoc, Nat.add_comm 1 n]
theorem grp_reps (es : List Edt) (op : Int) (h : ∀ e, es.getLast? = some e → e.op ≠ op) (n : Nat) (hn : 0 < n) : grp es (List.replicate n (op, [])) = es ++ [⟨op, n, []⟩] := by
  obtain ⟨m, rfl⟩ : ∃ m, n = m + 1 := ⟨n - 1, by omega⟩
  rw [List.replicate_succ, grp_cons]
  show grp (stepE es op []) _ = _
  rw [stepE_new es op [] h, grp_rep es op m 1 [], Nat.add_comm 1 m]
theorem grp_add (es : List Edt) : ∀ (b : List ByteArray) (k : Nat) (l : List ByteArray), grp (es ++ [⟨3, k, l⟩]) (b.map fun q => (3, [q])) = es ++ [⟨3, k + b.length, l ++ b⟩]
  | [], k, l => by simp [grp]
  | q :: b, k, l => by
    rw [List.map_cons, grp_cons]
    have h := stepE_same es ⟨3, k, l⟩ [q]
    show grp (stepE (es ++ [⟨3, k, l⟩]) 3 [q]) _ = _
    rw [h, grp_add es b (k + 1) (l ++ [q])]
    simp only [List.length_cons, List.append_assoc, List.singleton_append, Nat.add_assoc, Nat.add_comm 1 b.length]
theorem grp_adds (es : List Edt) (h : ∀ e, es.getLast? = some e → e.op ≠ 3) (b : List ByteArray) (hb : b ≠ []) : grp es (b.map fun q => (3, [q])) = es ++ [⟨3, b.length, b⟩] := by
  cases b with
  | nil => exact absurd rfl hb
  | cons q b =>
    rw [List.map_cons, grp_cons]
    show grp (stepE es 3 [q]) _ = _
    rw [stepE_new es 3 [q] h, grp_add es b 1 [q]]
    simp [Nat.add_comm]
/-- what is kept ahead -/
def kept (a : List ByteArray) : List Edt := if a = [] then [] else [⟨1, a.length, []⟩]
theorem kept_last {a : List ByteArray} {e : Edt} (h : (kept a).getLast? = some e) : e.op = 1 := by
  unfold kept at h
  split at h
  · simp at h
  · simp at h; subst h; rfl
theorem grp_kept (a : List ByteArray) : grp [] (List.replicate a.length (1, [])) = kept a := by
  unfold kept
  by_cases h : a = []
  · subst h; rfl
  · rw [if_neg h, grp_reps [] 1 (by simp) a.length (List.length_pos_iff.2 h)]; rfl
theorem way_more (a b : List ByteArray) : grp [] (Pm.way a (a ++ b)) = kept a ++ if b = [] then [] else [⟨3, b.length, b⟩] := by
  have h := Pm.way_ahead a [] b
  rw [List.append_nil, Pm.way_adds] at h
  rw [h, grp_append, grp_kept]
  by_cases hb : b = []
  · subst hb; simp [grp]
  · rw [if_neg hb, grp_adds _ (fun e he => by rw [kept_last he]; decide) b hb]
theorem way_less (a b : List ByteArray) : grp [] (Pm.way (a ++ b) a) = kept a ++ if b = [] then [] else [⟨2, b.length, []⟩] := by
  have h := Pm.way_ahead a b []
  rw [List.append_nil, Pm.way_cuts] at h
  rw [h, grp_append, grp_kept]
  by_cases hb : b = []
  · subst hb; simp [grp]
  · rw [if_neg hb, grp_reps _ 2 (fun e he => by rw [kept_last he]; decide) b.length (List.length_pos_iff.2 hb)]
theorem ed_more (a b : List ByteArray) : Pm.ed a (a ++ b) = b.length := by
  have h := Pm.ed_ahead a [] b
  rw [List.append_nil, Pm.ed_nil] at h
  exact h

end Go.Proofs.Ytmonemgjgcfhlaa
