/-
  What scripts are in memory: one that a call is making (Scr), and one that is read (Eds). No walk of a function of the program.
-/
import Derived.Test.YtmonemgjgcfhlaaCost
import Derived.Test.YtmonemgjgcfhlaaTexts
namespace Go.Proofs.Ytmonemgjgcfhlaa
open Go.RowKit

/-- an edit -/
structure Edt where
  op : Int
  n : Nat
  lines : List ByteArray
deriving DecidableEq
/-- an edit, as it lies in memory -/
structure MEd where
  op : Int
  n : Nat
  A : Option Addr
  cap : Nat
  lines : List ByteArray
def MEd.e (m : MEd) : Edt := ⟨m.op, m.n, m.lines⟩
def MEd.val (m : MEd) : Value := .slice m.A m.lines.length m.cap
def MEd.cells (m : MEd) : List Value := [.int .i64 m.op, .int .i64 (m.n : Nat), m.val]
def MEd.own (W : World) (base : Nat) (m : MEd) : Prop := W.ownsRow base 9 1 m.val m.lines.length (m.lines.map .string)
def meCells (L : List MEd) : List Value := L.flatMap MEd.cells
theorem meCells_length (L : List MEd) : (meCells L).length = L.length * 3 := by
  induction L with
  | nil => rfl
  | cons f L ih => simp only [meCells, List.flatMap_cons, List.length_append] at ih ⊢; rw [ih]; simp [MEd.cells]; omega
theorem meCells_snoc (L : List MEd) (m : MEd) : meCells (L ++ [m]) = meCells L ++ m.cells := by simp [meCells]
theorem meCells_at {L : List MEd} {k : Nat} {m : MEd} (h : L[k]? = some m) : (meCells L)[k * 3]? = some (.int .i64 m.op) ∧ (meCells L)[k * 3 + 1]? = some (.int .i64 (m.n : Nat)) ∧ (meCells L)[k * 3 + 2]? = some m.val := by
  induction L generalizing k with
  | nil => simp at h
  | cons f L ih =>
    have e : meCells (f :: L) = f.cells ++ meCells L := by simp [meCells]
    have hl : f.cells.length = 3 := rfl
    rw [e]
    cases k with
    | zero => simp at h; subst h; simp [MEd.cells]
    | succ k =>
      obtain ⟨h1, h2, h3⟩ := ih (k := k) (by simpa using h)
      refine ⟨?_, ?_, ?_⟩
      · rw [List.getElem?_append_right (by omega), hl, show (k + 1) * 3 - 3 = k * 3 from by omega]; exact h1
      · rw [List.getElem?_append_right (by omega), hl, show (k + 1) * 3 + 1 - 3 = k * 3 + 1 from by omega]; exact h2
      · rw [List.getElem?_append_right (by omega), hl, show (k + 1) * 3 + 2 - 3 = k * 3 + 2 from by omega]; exact h3

/-- a script that the call is making, of blocks from base on -/
structure Scr (W : World) (base : Nat) (v : Value) (L : List MEd) : Prop where
  row : W.ownsRow base 38 3 v L.length (meCells L)
  own : ∀ m ∈ L, m.own W base
  apart : L.Pairwise fun m m' => m.val.ownBlock = none ∨ m.val.ownBlock ≠ m'.val.ownBlock
theorem Scr.nil (W : World) (base : Nat) : Scr W base (.slice none 0 0) [] := ⟨World.ownsRow_nil _ _ _ _, by simp, .nil⟩
theorem own_lt_ne {w : World} {base : Nat} {e : TypeId} {size n : Nat} {v : Value} {xs : List Value} {row : Option Nat} (h : w.ownsRow base e size v n xs) (hr : ∀ g, row = some g → g < base) : v.ownBlock = none ∨ v.ownBlock ≠ row := by
  cases hv : v.ownBlock with
  | none => left; rfl
  | some k =>
    right
    intro e
    have h1 := (h.lt k hv).1
    have h2 := hr k e.symm
    omega
section
variable {W W' : World} {base : Nat} {v : Value} {L : List MEd}
theorem Scr.kept (h : Scr W base v L) {row : Option Nat} (hg : W.grownBy W' row) (hr : ∀ g, row = some g → g < base) : Scr W' base v L :=
  ⟨h.row.kept hg (own_lt_ne h.row hr), fun m hm => World.ownsRow.kept (h.own m hm) hg (own_lt_ne (h.own m hm) hr), h.apart⟩
theorem Scr.step (h : Scr W base v L) (hb : Below W.heap.size W W') : Scr W' base v L := h.kept (grown_of_below hb none) (by simp)
theorem Scr.set_far (h : Scr W base v L) {g : Nat} (hg : g < base) (j : Nat) (u : Value) : Scr (W.setCell ⟨g, j, none⟩ u) base v L := h.kept (grown_set W g j u) (fun k hk => by injection hk with hk; omega)
theorem Scr.drewN (h : Scr W base v L) (n : Nat) : Scr (W.drewN n) base v L := ⟨h.row, h.own, h.apart⟩
theorem own_distinct {w : World} {base base' : Nat} {e e' : TypeId} {size size' n n' : Nat} {u u' : Value} {xs xs' : List Value} (h : w.ownsRow base e size u n xs) (h' : w.ownsRow base' e' size' u' n' xs') (hne : e ≠ e') : u.ownBlock = none ∨ u.ownBlock ≠ u'.ownBlock := own_own_ne h h' hne
end
theorem info38 : (Try.prog.info? 38).map (fun i => (i.zero, i.size, i.bytes)) = some (some (.agg #[.int .i64 0, .int .i64 0, .slice none 0 0]), 3, 40) := by kernel_rfl

/-- one edit more -/
theorem Scr.push {W : World} {base : Nat} {v : Value} {L : List MEd} (h : Scr W base v L) (m : MEd) (hm : m.own W base) (hap : ∀ m' ∈ L, m'.val.ownBlock = none ∨ m'.val.ownBlock ≠ m.val.ownBlock) (hL : L.length ≤ 1073741) (hbase : base ≤ W.heap.size) :
    ∃ A' c' W', (Builtin.append_ #[28, 28] 28 #[v, .slice (some ⟨W.heap.size, 0, none⟩) 1 1]).run Try.prog (W.alloc (.cells #[.int .i64 m.op, .int .i64 (m.n : Nat), m.val] 38)) = .ok (.slice A' (L.length + 1) c') W' ∧ Scr W' base (.slice A' (L.length + 1) c') (L ++ [m]) ∧ Below base W W' ∧ ∀ b cs, Blk W b 9 cs → Blk W' b 9 cs := by
  obtain ⟨i0, hi, hz0, hz1, hz2⟩ := info_parts info38
  have h2 := h.step ((Below.refl W.heap.size W).alloc (Nat.le_refl _) (.cells #[.int .i64 m.op, .int .i64 (m.n : Nat), m.val] 38))
  have hm2 : m.own (W.alloc (.cells #[.int .i64 m.op, .int .i64 (m.n : Nat), m.val] 38)) base := World.ownsRow.alloc hm _
  have hnew := Blk.new W 38 #[.int .i64 m.op, .int .i64 (m.n : Nat), m.val]
  obtain ⟨v', W', hrun, hown, hg, _, _⟩ := run_append_own_at (P := Try.prog) (W.alloc (.cells #[.int .i64 m.op, .int .i64 (m.n : Nat), m.val] 38)) base 28 28 38 i0 _ 3 40 Try.underlying28 hi hz0 hz1 hz2 rfl (by decide) v L.length (meCells L) h2.row
    ⟨W.heap.size, 0, none⟩ 1 1 m.cells rfl (by
      intro j u hu
      have he : ((⟨W.heap.size, 0, none⟩ : Addr).add j) = ⟨W.heap.size, j, none⟩ := by by_cases hj0 : j = 0 <;> simp [Addr.add, hj0]
      rw [he, hnew.cell j]
      simpa [MEd.cells] using hu) (by intro u hu; simp [MEd.cells] at hu; rcases hu with rfl | rfl | rfl <;> rfl) (by unfold maxLen; omega) (by omega) (by simp; omega)
  have hsh : ∃ A' c', v' = .slice A' (L.length + 1) c' := by
    obtain ⟨g, cap, e, _⟩ := hown.form (by omega)
    exact ⟨_, _, e⟩
  obtain ⟨A', c', rfl⟩ := hsh
  refine ⟨A', c', W', hrun, ⟨?_, ?_, ?_⟩, ?_, fun b cs hbk => (hbk.alloc _).grown hg (own_blk_ne h2.row (hbk.alloc _) (by decide))⟩
  · rw [meCells_snoc, List.length_append]; exact hown
  · intro m' hm'
    rcases List.mem_append.1 hm' with e | e
    · exact World.ownsRow.kept (h2.own m' e) hg (own_own_ne (h2.own m' e) h2.row (by decide))
    · simp at e; subst e; exact World.ownsRow.kept hm2 hg (own_own_ne hm2 h2.row (by decide))
  · refine List.pairwise_append.2 ⟨h.apart, List.pairwise_singleton _ _, fun m1 h1 m2 h2 => ?_⟩
    simp at h2; subst h2
    exact hap m1 h1
  · exact ((Below.refl _ _).alloc hbase _).grown hg (by simp; omega) (fun k hk => (h2.row.lt k hk).1)

/-- the last edit's cells -/
theorem Scr.last {W : World} {base : Nat} {g cap : Nat} {L : List MEd} {m : MEd} (h : Scr W base (.slice (some ⟨g, 0, none⟩) (L.length + 1) cap) (L ++ [m])) :
    W.cell? ⟨g, L.length * 3, none⟩ = some (.int .i64 m.op) ∧ W.cell? ⟨g, L.length * 3 + 1, none⟩ = some (.int .i64 (m.n : Nat)) ∧ W.cell? ⟨g, L.length * 3 + 2, none⟩ = some m.val ∧ (∀ j, W.frozen? ⟨g, j, none⟩ = false) ∧ base ≤ g ∧ g < W.heap.size := by
  have hr := h.row
  rw [List.length_append, List.length_singleton] at hr
  obtain ⟨k1, k2, k3⟩ := meCells_at (L := L ++ [m]) (k := L.length) (m := m) (by simp)
  exact ⟨(hr.cellAt _ (by omega)).trans k1, (hr.cellAt _ (by omega)).trans k2, (hr.cellAt _ (by omega)).trans k3, fun j => hr.frozenAt j, hr.lt g rfl⟩
theorem set_snoc {xs : List Value} {a b c u : Value} {n : Nat} (hn : xs.length = n) : (xs ++ [a, b, c]).set (n + 1) u = xs ++ [a, u, c] ∧ (xs ++ [a, b, c]).set (n + 2) u = xs ++ [a, b, u] := by
  subst hn
  constructor <;> simp
/-- the last edit counts one line more -/
theorem Scr.bump {W : World} {base : Nat} {g cap : Nat} {L : List MEd} {m : MEd} (h : Scr W base (.slice (some ⟨g, 0, none⟩) (L.length + 1) cap) (L ++ [m])) (n : Nat) :
    Scr (W.setCell ⟨g, L.length * 3 + 1, none⟩ (.int .i64 (n : Nat))) base (.slice (some ⟨g, 0, none⟩) (L.length + 1) cap) (L ++ [{ m with n := n }]) := by
  have hr := h.row
  rw [List.length_append, List.length_singleton, meCells_snoc] at hr
  obtain ⟨hs, hg⟩ := hr.stored (L.length * 3 + 1) (.int .i64 (n : Nat))
  rw [MEd.cells, (set_snoc (meCells_length L)).1] at hs
  refine ⟨?_, ?_, ?_⟩
  · rw [meCells_snoc, List.length_append]; exact hs
  · intro m' hm'
    rcases List.mem_append.1 hm' with e | e
    · exact World.ownsRow.kept (h.own m' (by simp [e])) hg (by have := own_own_ne (h.own m' (by simp [e])) hr (by decide); simpa [Value.ownBlock] using this)
    · simp at e; subst e
      have hm := h.own m (by simp)
      exact World.ownsRow.kept (v := m.val) hm hg (by have := own_own_ne hm hr (by decide); simpa [Value.ownBlock] using this)
  · have := h.apart
    rw [List.pairwise_append] at this ⊢
    refine ⟨this.1, List.pairwise_singleton _ _, fun m1 h1 m2 h2 => ?_⟩
    simp at h2; subst h2
    exact this.2.2 m1 h1 m (by simp)
/-- the last edit has one text more -/
theorem Scr.line {W : World} {base : Nat} {g cap : Nat} {L : List MEd} {m : MEd} (h : Scr W base (.slice (some ⟨g, 0, none⟩) (L.length + 1) cap) (L ++ [m])) (s : ByteArray) (hl : m.lines.length ≤ 1073741) (hbase : base ≤ W.heap.size) :
    ∃ A' c' W', (Builtin.append_ #[22, 22] 22 #[m.val, .slice (some ⟨W.heap.size, 0, none⟩) 1 1]).run Try.prog (W.alloc (.cells #[.string s] 9)) = .ok (.slice A' (m.lines.length + 1) c') W' ∧
      W'.cell? ⟨g, L.length * 3 + 2, none⟩ = some m.val ∧ W'.frozen? ⟨g, L.length * 3 + 2, none⟩ = false ∧
      Scr (W'.setCell ⟨g, L.length * 3 + 2, none⟩ (.slice A' (m.lines.length + 1) c')) base (.slice (some ⟨g, 0, none⟩) (L.length + 1) cap) (L ++ [{ m with A := A', cap := c', lines := m.lines ++ [s] }]) ∧
      Below base W (W'.setCell ⟨g, L.length * 3 + 2, none⟩ (.slice A' (m.lines.length + 1) c')) := by
  obtain ⟨i0, hi, hz0, hz1, hz2⟩ := info_parts info9
  have h2 := h.step ((Below.refl W.heap.size W).alloc (Nat.le_refl _) (.cells #[.string s] 9))
  have hm2 : m.own (W.alloc (.cells #[.string s] 9)) base := h2.own m (by simp)
  have hnew := Blk.new W 9 #[.string s]
  obtain ⟨v', W', hrun, hown, hg, _, hloc⟩ := run_append_own_at (P := Try.prog) (W.alloc (.cells #[.string s] 9)) base 22 22 9 i0 _ 1 16 Try.underlying22 hi hz0 hz1 hz2 rfl (by decide) m.val m.lines.length (m.lines.map .string) hm2
    ⟨W.heap.size, 0, none⟩ 1 1 [.string s] rfl (by
      intro j u hu
      have he : ((⟨W.heap.size, 0, none⟩ : Addr).add j) = ⟨W.heap.size, j, none⟩ := by by_cases hj0 : j = 0 <;> simp [Addr.add, hj0]
      rw [he, hnew.cell j]
      simpa using hu) (by intro u hu; simp at hu; subst hu; rfl) (by unfold maxLen; omega) (by omega) (by simp; omega)
  obtain ⟨A', c', rfl, _, _⟩ := row_shape hown
  have hr2 := h2.row
  rw [List.length_append, List.length_singleton] at hr2
  have hrW : W'.ownsRow base 38 3 (.slice (some ⟨g, 0, none⟩) (L.length + 1) cap) (L.length + 1) (meCells (L ++ [m])) := hr2.kept hg (own_own_ne hr2 hm2 (by decide))
  obtain ⟨k1, k2, k3⟩ := meCells_at (L := L ++ [m]) (k := L.length) (m := m) (by simp)
  have hrS := hrW
  rw [meCells_snoc] at hrS
  obtain ⟨hs, hg2⟩ := hrS.stored (L.length * 3 + 2) (.slice A' (m.lines.length + 1) c')
  rw [MEd.cells, (set_snoc (meCells_length L)).2] at hs
  have hbg := (h.row.lt g rfl).1
  refine ⟨A', c', W', hrun, (hrW.cellAt _ (by omega)).trans k3, hrW.frozenAt _, ⟨?_, ?_, ?_⟩, ?_⟩
  · rw [meCells_snoc, List.length_append]
    simpa [MEd.cells, MEd.val] using hs
  · intro m' hm'
    rcases List.mem_append.1 hm' with e | e
    · have hap := (List.pairwise_append.1 h.apart).2.2 m' e m (by simp)
      have hk1 := World.ownsRow.kept (h2.own m' (by simp [e])) hg hap
      exact World.ownsRow.kept hk1 hg2 (by have := own_own_ne hk1 hrW (by decide); simpa [Value.ownBlock] using this)
    · simp at e; subst e
      have hk1 : W'.ownsRow base 9 1 (.slice A' (m.lines.length + 1) c') (m.lines.length + 1) (m.lines.map .string ++ [.string s]) := hown
      have := World.ownsRow.kept hk1 hg2 (by have := own_own_ne hk1 hrW (by decide); simpa [Value.ownBlock] using this)
      simpa [MEd.own, MEd.val] using this
  · have hap := h.apart
    rw [List.pairwise_append] at hap ⊢
    refine ⟨hap.1, List.pairwise_singleton _ _, fun m1 h1 m2 h2' => ?_⟩
    simp at h2'; subst h2'
    have hm1 := h.own m1 (by simp [h1])
    rcases hloc with e | e
    · have := hap.2.2 m1 h1 m (by simp)
      simp only [MEd.val] at this e ⊢
      simp only [List.length_append, List.length_singleton]
      rw [e]
      exact this
    · simp only [MEd.val, List.length_append, List.length_singleton]
      rw [e]
      cases hb : (Value.slice m1.A m1.lines.length m1.cap).ownBlock with
      | none => left; rfl
      | some k =>
        right
        intro e'
        injection e' with e'
        have := (World.ownsRow.lt hm1 k hb).2
        simp at e'
        omega
  · refine (((Below.refl _ _).alloc hbase _).grown hg (by simp; omega) (fun k hk => (World.ownsRow.lt hm2 k hk).1)).setCell (p := ⟨g, L.length * 3 + 2, none⟩) hbg _

/-- a script that is read: the slice '.slice A es.length _', below block B -/
def Eds (w : World) (B : Nat) (A : Option Addr) (es : List Edt) : Prop :=
  es ≠ [] → ∃ a, A = some a ∧ a.block < B ∧ ∀ k e, es[k]? = some e → w.cell? (a.add (k * 3)) = some (.int .i64 e.op) ∧ w.cell? (a.add (k * 3 + 1)) = some (.int .i64 (e.n : Nat)) ∧ ∃ Al c, w.cell? (a.add (k * 3 + 2)) = some (.slice Al e.lines.length c) ∧ Strs w B Al e.lines
section
variable {w w' : World} {B B' : Nat} {A : Option Addr} {es : List Edt}
theorem Eds.nil : Eds w B A [] := fun h => absurd rfl h
theorem Eds.keep (h : Eds w B A es) (hk : ∀ p : Addr, p.block < B → w'.cell? p = w.cell? p) : Eds w' B A es := fun hn => by
  obtain ⟨a, e, hb, hc⟩ := h hn
  refine ⟨a, e, hb, fun k ed hed => ?_⟩
  obtain ⟨c1, c2, Al, c, c3, hs⟩ := hc k ed hed
  exact ⟨(hk _ (by rw [add_block]; exact hb)).trans c1, (hk _ (by rw [add_block]; exact hb)).trans c2, Al, c, (hk _ (by rw [add_block]; exact hb)).trans c3, hs.keep hk⟩
theorem Eds.more (h : Eds w B A es) (hB : B ≤ B') : Eds w B' A es := fun hn => by
  obtain ⟨a, e, hb, hc⟩ := h hn
  refine ⟨a, e, by omega, fun k ed hed => ?_⟩
  obtain ⟨c1, c2, Al, c, c3, hs⟩ := hc k ed hed
  exact ⟨c1, c2, Al, c, c3, hs.more hB⟩
theorem Eds.below (h : Eds w B A es) (hb : Below B w w') : Eds w' B A es := h.keep fun _ hp => hb.cell hp
theorem Eds.alloc (h : Eds w B A es) (hB : B ≤ w.heap.size) (o : Obj) : Eds (w.alloc o) B A es := h.keep fun p hp => World.cell?_alloc_lt w o p (by omega)
theorem Eds.drewN (h : Eds w B A es) (n : Nat) : Eds (w.drewN n) B A es := h
end
theorem add_zero_block (g j : Nat) : ((⟨g, 0, none⟩ : Addr).add j) = ⟨g, j, none⟩ := by by_cases hj0 : j = 0 <;> simp [Addr.add, hj0]
theorem Scr.eds {W : World} {base : Nat} {A : Option Addr} {n c : Nat} {L : List MEd} (h : Scr W base (.slice A n c) L) (hn : n = L.length) : Eds W W.heap.size A (L.map MEd.e) := fun hne => by
  subst hn
  have hr := h.row
  obtain ⟨g, cap, hv, _, hlt⟩ := hr.form (List.length_pos_iff.2 (by simpa using hne))
  injection hv with hA _ hc
  subst hA hc
  refine ⟨_, rfl, hlt, fun k e he => ?_⟩
  rw [List.getElem?_map] at he
  cases hm : L[k]? with
  | none => rw [hm] at he; cases he
  | some m =>
    rw [hm] at he
    injection he with he
    subst he
    have hk : k < L.length := (List.getElem?_eq_some_iff.1 hm).1
    obtain ⟨k1, k2, k3⟩ := meCells_at hm
    refine ⟨?_, ?_, m.A, m.cap, ?_, ?_⟩
    · rw [add_zero_block]; exact (hr.cellAt _ (by omega)).trans k1
    · rw [add_zero_block]; exact (hr.cellAt _ (by omega)).trans k2
    · rw [add_zero_block]; exact (hr.cellAt _ (by omega)).trans k3
    · exact Strs.of_own (h.own m (List.mem_of_getElem? hm))

end Go.Proofs.Ytmonemgjgcfhlaa
