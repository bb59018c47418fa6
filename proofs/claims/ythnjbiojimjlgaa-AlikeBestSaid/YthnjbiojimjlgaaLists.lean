/-
  Lists of lists of texts that a call makes by appends (OwnL), and lists of lists of numbers that came in (Rws).
-/
import Derived.Test.YthnjbiojimjlgaaAppend
namespace Go.Proofs.Ythnjbiojimjlgaa
open Go.RowKit
open Al

theorem info22 : (Try.prog.info? 22).map (fun i => (i.zero, i.size, i.bytes)) = some (some (.slice none 0 0), 1, 24) := by kernel_rfl

/-- the texts X at A, in another block than row -/
def Apart (w : World) (row : Option Nat) (A : Option Addr) (X : List ByteArray) : Prop :=
  X ≠ [] → ∃ a, A = some a ∧ a.block < w.heap.size ∧ some a.block ≠ row ∧ ∀ j s, X[j]? = some s → w.cell? (a.add j) = some (.string s)
section
variable {w w' : World} {row row' : Option Nat} {A : Option Addr} {X : List ByteArray}
theorem Apart.strs (h : Apart w row A X) : Strs w w.heap.size A X := fun hn => by
  obtain ⟨a, e, hb, _, hc⟩ := h hn
  exact ⟨a, e, hb, hc⟩
theorem Apart.below (h : Apart w row A X) (hb : Below w.heap.size w w') : Apart w' row A X := fun hn => by
  obtain ⟨a, e, hl, hr, hc⟩ := h hn
  exact ⟨a, e, Nat.lt_of_lt_of_le hl hb.size, hr, fun j s hj => (hb.cell (by rw [add_block]; exact hl)).trans (hc j s hj)⟩
theorem Apart.grown (h : Apart w row A X) (hg : w.grownBy w' row) (hr' : row' = row ∨ row' = some w.heap.size) : Apart w' row' A X := fun hn => by
  obtain ⟨a, e, hl, hr, hc⟩ := h hn
  refine ⟨a, e, Nat.lt_of_lt_of_le hl hg.size, ?_, fun j s hj => ?_⟩
  · rcases hr' with rfl | rfl
    · exact hr
    · intro he
      injection he with he
      omega
  · exact (World.cell?_of_block (a := a.add j) (by rw [add_block]; exact hg.block a.block hl hr)).trans (hc j s hj)
theorem Apart.new {base : Nat} {c : Nat} (h : w.ownsRow base 9 1 (.slice A X.length c) X.length (X.map .string)) (hr : ∀ g, row = some g → g < base) : Apart w row A X := fun hn => by
  obtain ⟨g, cap, hv, _, hlt⟩ := h.form (List.length_pos_iff.2 hn)
  have hA : A = some ⟨g, 0, none⟩ := by injection hv
  subst hA
  refine ⟨_, rfl, hlt, fun e => ?_, fun j s hj => h.cells (g := g) rfl j _ (by rw [List.getElem?_map, hj]; rfl)⟩
  have h1 := hr g e.symm
  have h2 := (h.lt g rfl).1
  omega
end

/-- v is a list of lists of texts L that was made behind w0; nothing that was there in w0 is changed -/
def OwnL (w0 w : World) (v : Value) (L : List (List ByteArray)) : Prop :=
  ∃ vs, w.ownsRow w0.heap.size 22 1 v L.length vs ∧ (∀ (j : Nat) (X : List ByteArray), L[j]? = some X → ∃ (Ax : Option Addr) (cx : Nat), vs[j]? = some (Value.slice Ax X.length cx) ∧ Apart w v.ownBlock Ax X) ∧ Below w0.heap.size w0 w
theorem OwnL.nil (w : World) : OwnL w w (.slice none 0 0) [] := ⟨[], World.ownsRow_nil _ _ _ _, by simp, Below.refl _ _⟩
theorem OwnL.shape {w0 w : World} {v : Value} {L : List (List ByteArray)} (h : OwnL w0 w v L) : ∃ A c, v = .slice A L.length c ∧ L.length ≤ c := by
  obtain ⟨vs, h1, _⟩ := h
  obtain ⟨A, c, e, hc, _⟩ := row_shape h1
  exact ⟨A, c, e, hc⟩
theorem OwnL.bel {w0 w : World} {v : Value} {L : List (List ByteArray)} (h : OwnL w0 w v L) : Below w0.heap.size w0 w := by
  obtain ⟨_, _, _, h⟩ := h
  exact h
theorem OwnL.lt {w0 w : World} {v : Value} {L : List (List ByteArray)} (h : OwnL w0 w v L) (g : Nat) (hg : v.ownBlock = some g) : w0.heap.size ≤ g ∧ g < w.heap.size := by
  obtain ⟨_, h, _, _⟩ := h
  exact h.lt g hg
theorem OwnL.step {w0 w w' : World} {v : Value} {L : List (List ByteArray)} (h : OwnL w0 w v L) (hb : Below w.heap.size w w') : OwnL w0 w' v L := by
  obtain ⟨vs, h1, h2, h3⟩ := h
  refine ⟨vs, h1.kept (grown_of_below hb none) (Classical.em _), fun j X hj => ?_, h3.trans (hb.mono h3.size)⟩
  obtain ⟨Ax, cx, e, ha⟩ := h2 j X hj
  exact ⟨Ax, cx, e, ha.below hb⟩
theorem OwnL.lsts {w0 w : World} {A : Option Addr} {c : Nat} {L : List (List ByteArray)} (h : OwnL w0 w (.slice A L.length c) L) : Lsts w w.heap.size A L := fun hn => by
  obtain ⟨vs, h1, h2, _⟩ := h
  obtain ⟨g, cap, hv, _, hlt⟩ := h1.form (List.length_pos_iff.2 hn)
  have hA : A = some ⟨g, 0, none⟩ := by injection hv
  subst hA
  refine ⟨_, rfl, hlt, fun j X hj => ?_⟩
  obtain ⟨Ax, cx, e, ha⟩ := h2 j X hj
  exact ⟨Ax, cx, h1.cells (g := g) rfl j _ e, ha.strs⟩

/-- an append of lists onto it -/
theorem appendL {w0 w : World} {v : Value} {L news : List (List ByteArray)} (h : OwnL w0 w v L) (a : Addr) (m c : Nat) (hm : news.length = m)
    (hsrc : ∀ (j : Nat) (X : List ByteArray), news[j]? = some X → ∃ (Ax : Option Addr) (cx : Nat), w.cell? (a.add j) = some (Value.slice Ax X.length cx) ∧ Apart w v.ownBlock Ax X)
    (Y : List (List ByteArray)) (hY : Y = L ++ news) (hb : Y.length ≤ 1099511627776) :
    ∃ A' c' w', (Builtin.append_ #[26, 26] 26 #[v, .slice (some a) m c]).run Try.prog w = .ok (.slice A' Y.length c') w' ∧ OwnL w0 w' (.slice A' Y.length c') Y := by
  obtain ⟨i0, hi, hz0, hz1, hz2⟩ := info_parts info22
  obtain ⟨vs, h1, h2, h3⟩ := h
  subst hm
  have hl : L.length + news.length = Y.length := by rw [hY, List.length_append]
  have hvl : vs.length = L.length := by simpa using h1.1
  obtain ⟨ns, hns⟩ : ∃ ns : List Value, ns = (List.range news.length).map fun j => (w.cell? (a.add j)).getD undef := ⟨_, rfl⟩
  have hnl : ns.length = news.length := by rw [hns]; simp
  have hat : ∀ (j : Nat) (X : List ByteArray), news[j]? = some X → ∃ (Ax : Option Addr) (cx : Nat), ns[j]? = some (Value.slice Ax X.length cx) ∧ w.cell? (a.add j) = some (Value.slice Ax X.length cx) ∧ Apart w v.ownBlock Ax X := by
    intro j X hj
    obtain ⟨Ax, cx, e, ha⟩ := hsrc j X hj
    obtain ⟨hlt, _⟩ := List.getElem?_eq_some_iff.1 hj
    refine ⟨Ax, cx, ?_, e, ha⟩
    rw [hns, List.getElem?_map, List.getElem?_range hlt]
    simp [e]
  have hcells : ∀ (j : Nat) u, ns[j]? = some u → w.cell? (a.add j) = some u := by
    intro j u hj
    obtain ⟨hlt, _⟩ := List.getElem?_eq_some_iff.1 hj
    rw [hnl] at hlt
    obtain ⟨Ax, cx, e1, e2, _⟩ := hat j _ (List.getElem?_eq_getElem hlt)
    rw [hj] at e1
    rw [e2, e1]
  have hone : ∀ u ∈ ns, u.oneCell' = true := by
    intro u hu
    obtain ⟨j, hj⟩ := List.mem_iff_getElem?.1 hu
    obtain ⟨hlt, _⟩ := List.getElem?_eq_some_iff.1 hj
    rw [hnl] at hlt
    obtain ⟨Ax, cx, e1, _, _⟩ := hat j _ (List.getElem?_eq_getElem hlt)
    rw [hj] at e1
    injection e1 with e1
    rw [e1]
    rfl
  obtain ⟨v', w', hrun, g1, g2, _, g4⟩ := run_append_own_at (P := Try.prog) w w0.heap.size 26 26 22 i0 _ 1 24 Try.underlying26 hi hz0 hz1 hz2 rfl (by decide) v L.length vs h1
    a news.length c ns (by rw [hnl]; simp) hcells hone (by unfold maxLen; omega) (by omega) h3.size
  obtain ⟨A', c', rfl, _, _⟩ := row_shape g1
  rw [hl] at hrun g1 g4
  refine ⟨A', c', w', hrun, vs ++ ns, g1, fun j X hj => ?_, h3.grown g2 h3.size (fun g e => (h1.lt g e).1)⟩
  rw [hY, List.getElem?_append] at hj
  rw [List.getElem?_append, hvl]
  split at hj
  · next hlt =>
    rw [if_pos hlt]
    obtain ⟨Ax, cx, e, ha⟩ := h2 j X hj
    exact ⟨Ax, cx, e, ha.grown g2 g4⟩
  · next hge =>
    rw [if_neg hge]
    obtain ⟨Ax, cx, e, _, ha⟩ := hat _ X hj
    exact ⟨Ax, cx, e, ha.grown g2 g4⟩

/-- texts that were there before are in another block than what was made behind them -/
theorem apart_far {w0 w : World} {v : Value} {L : List (List ByteArray)} {A : Option Addr} {X : List ByteArray} (h : OwnL w0 w v L) (hs : Strs w0 w0.heap.size A X) : Apart w v.ownBlock A X := fun hn => by
  obtain ⟨a, e, hl, hc⟩ := hs hn
  refine ⟨a, e, Nat.lt_of_lt_of_le hl h.bel.size, fun he => ?_, fun j s hj => (h.bel.cell (by rw [add_block]; exact hl)).trans (hc j s hj)⟩
  have := (h.lt a.block he.symm).1
  omega
theorem Lsts.src {w : World} {ad : Addr} {L : List (List ByteArray)} (h : Lsts w w.heap.size (some ad) L) :
    ∀ (j : Nat) (X : List ByteArray), L[j]? = some X → ∃ (Ax : Option Addr) (cx : Nat), w.cell? (ad.add j) = some (Value.slice Ax X.length cx) ∧ Apart w (Value.slice none 0 0).ownBlock Ax X := by
  intro j X hj
  obtain ⟨a, e, _, hc⟩ := h (by intro e; subst e; simp at hj)
  injection e with e
  subst e
  obtain ⟨Ax, cx, h1, h2⟩ := hc j X hj
  refine ⟨Ax, cx, h1, fun hn => ?_⟩
  obtain ⟨a', e', hl, hc'⟩ := h2 hn
  exact ⟨a', e', hl, by simp [Value.ownBlock], hc'⟩
theorem one_src {w : World} {row : Option Nat} {g : Nat} {A : Option Addr} {X : List ByteArray} {c : Nat} (hc : w.cell? ⟨g, 0, none⟩ = some (Value.slice A X.length c)) (ha : Apart w row A X) :
    ∀ (j : Nat) (Y : List ByteArray), [X][j]? = some Y → ∃ (Ax : Option Addr) (cx : Nat), w.cell? ((⟨g, 0, none⟩ : Addr).add j) = some (Value.slice Ax Y.length cx) ∧ Apart w row Ax Y := by
  intro j Y hj
  match j with
  | 0 => injection hj with e; subst e; exact ⟨A, c, hc, ha⟩
  | j + 1 => simp at hj
theorem cell_one (w : World) (v : Value) : (w.alloc (.cells #[v] 22)).cell? ⟨w.heap.size, 0, none⟩ = some v := by
  rw [cell_of_row _ w.heap.size 0 _ 22 (0, 0) (heap_alloc_new w _)]
  rfl

/-- the slice '.slice A R.length _' holds the lists of numbers R, below block B -/
def Rws (w : World) (B : Nat) (A : Option Addr) (R : List (List Int)) : Prop :=
  R ≠ [] → ∃ a, A = some a ∧ a.block < B ∧ ∀ j zs, R[j]? = some zs → ∃ Ax cx, w.cell? (a.add j) = some (.slice Ax zs.length cx) ∧ Ints w B Ax zs
section
variable {w w' : World} {B B' : Nat} {A : Option Addr} {R : List (List Int)}
theorem Rws.at_ (h : Rws w B A R) {k : Nat} (hk : k < R.length) : ∃ a Ax cx, A = some a ∧ a.block < B ∧ w.cell? (a.add k) = some (.slice Ax R[k].length cx) ∧ Ints w B Ax R[k] := by
  obtain ⟨a, e, hb, hc⟩ := h (by intro e; subst e; simp at hk)
  obtain ⟨Ax, cx, h1, h2⟩ := hc k _ (List.getElem?_eq_getElem hk)
  exact ⟨a, Ax, cx, e, hb, h1, h2⟩
theorem Rws.up (h : Rws w w.heap.size A R) (hb : Below w.heap.size w w') : Rws w' w'.heap.size A R := fun hn => by
  obtain ⟨a, e, hl, hc⟩ := h hn
  refine ⟨a, e, Nat.lt_of_lt_of_le hl hb.size, fun j s hj => ?_⟩
  obtain ⟨Ax, cx, h1, h2⟩ := hc j s hj
  exact ⟨Ax, cx, (hb.cell (by rw [add_block]; exact hl)).trans h1, h2.up hb⟩
end

end Go.Proofs.Ythnjbiojimjlgaa
