/-
  collatorref05.with: a script with one step more, made anew. Nothing that was there is changed.
-/
import Derived.Test.YtmonemgjgcfhlaaGoing
import Derived.Test.YtmonemgjgcfhlaaApp
import Derived.Test.YtmonemgjgcfhlaaSameE
import Derived.Deep.RegionLaw
import Derived.Deep.RegionHeld3
import Derived.Deep.DeepCutAuto
namespace Go.Proofs.Ytmonemgjgcfhlaa
open Go.RowKit

theorem step_append_run2 {P : Program} {ops : Array Oper} {o : Oper} {a : Act} {w w' : World} {K : Act → World → Prop} {Q : Exit → Act → World → Prop} {E : Prop} {sl x : Operand} {t ty : TypeId} {v u v' : Value}
    (hrun : (Builtin.append_ #[t, t] ty #[v, u]).run P w = .ok v' w') (hgd : o.guard = none) (hop : o.op = Op.call { callee := Callee.builtin Builtin.append, args := #[sl, x], argTypes := #[t, t] }) (hty : o.type = ty) (hs : a.eval sl = v) (hx : a.eval x = u)
    (h : K (a.put o.dst v') w') : if Region.wanted o (yielded ops a.tmps) = true then Oper.wp P o a w K Q else E := step_append_run hgd hop hty hs hx hrun h

/-- a script that is read, as it lies in memory -/
structure Vw (w : World) (A : Option Addr) (L : List MEd) : Prop where
  cells : L ≠ [] → ∃ a, A = some a ∧ a.block < w.heap.size ∧ ∀ j u, (meCells L)[j]? = some u → w.cell? (a.add j) = some u
  old : ∀ m ∈ L, Strs w w.heap.size m.A m.lines
theorem Vw.nil (w : World) (A : Option Addr) : Vw w A [] := ⟨fun h => absurd rfl h, by simp⟩
theorem Vw.up {w w' : World} {A : Option Addr} {L : List MEd} (h : Vw w A L) (hb : Below w.heap.size w w') : Vw w' A L :=
  ⟨fun hn => by
    obtain ⟨a, e, hl, hc⟩ := h.cells hn
    exact ⟨a, e, Nat.lt_of_lt_of_le hl hb.size, fun j u hu => (hb.cell (by rw [add_block]; exact hl)).trans (hc j u hu)⟩,
   fun m hm => ((h.old m hm).below hb).more hb.size⟩
theorem Vw.eds {w : World} {A : Option Addr} {L : List MEd} (h : Vw w A L) : Eds w w.heap.size A (L.map MEd.e) := fun hne => by
  obtain ⟨a, e, hl, hc⟩ := h.cells (by intro e; subst e; simp at hne)
  refine ⟨a, e, hl, fun k e hk => ?_⟩
  rw [List.getElem?_map] at hk
  cases hm : L[k]? with
  | none => rw [hm] at hk; cases hk
  | some m =>
    rw [hm] at hk
    injection hk with hk
    subst hk
    obtain ⟨h1, h2, h3⟩ := meCells_at hm
    exact ⟨hc _ _ h1, hc _ _ h2, m.A, m.cap, hc _ _ h3, h.old m (List.mem_of_getElem? hm)⟩
theorem meCells_append (L M : List MEd) : meCells (L ++ M) = meCells L ++ meCells M := by simp [meCells]
theorem Vw.front {w : World} {A : Option Addr} {L M : List MEd} (h : Vw w A (L ++ M)) : Vw w A L :=
  ⟨fun hn => by
    obtain ⟨a, e, hl, hc⟩ := h.cells (by simp [hn])
    refine ⟨a, e, hl, fun j u hu => hc j u ?_⟩
    rw [meCells_append, List.getElem?_append_left (List.getElem?_eq_some_iff.1 hu).1]
    exact hu, fun m hm => h.old m (List.mem_append_left _ hm)⟩
theorem cells_one {L : List MEd} : ∀ u ∈ meCells L, u.oneCell' = true := by
  intro u hu
  unfold meCells at hu
  obtain ⟨m, _, hm⟩ := List.mem_flatMap.1 hu
  simp [MEd.cells] at hm
  rcases hm with rfl | rfl | rfl <;> rfl
theorem blk_kept {w w' : World} {v : Value} {b : Nat} {cs : Array Value} {t : TypeId} (h : Blk w b t cs) (hg : w.grownBy w' v.ownBlock) (hv : v.ownBlock ≠ some b) : Blk w' b t cs := h.grown hg (fun e => hv e.symm)
/-- all of a script, copied -/
theorem copy_eds {w W : World} {A : Option Addr} {L : List MEd} (hb : Below w.heap.size w W) (hv : Vw w A L) (n c : Nat) (hn : L.length = n) (h1 : n ≤ 1000) :
    ∃ A' c' W', (Builtin.append_ #[28, 28] 28 #[.slice none 0 0, .slice A n c]).run Try.prog W = .ok (.slice A' n c') W' ∧ W'.ownsRow w.heap.size 38 3 (.slice A' n c') n (meCells L) ∧ Below w.heap.size w W' ∧ ∀ b cs, Blk W b 38 cs → Blk W' b 38 cs := by
  subst hn
  obtain ⟨i0, hi, hz0, hz1, hz2⟩ := info_parts info38
  have hnil : W.ownsRow w.heap.size 38 3 (.slice none 0 0) 0 [] := World.ownsRow_nil _ _ _ _
  cases A with
  | none =>
    have hL : L = [] := Classical.byContradiction fun h => by obtain ⟨a, e, _⟩ := hv.cells h; cases e
    subst hL
    refine ⟨none, 0, W, ?_, hnil, hb, fun _ _ h => h⟩
    simp [Builtin.append_, run_underlying Try.underlying28, sizeOf, typeInfo, hi, Builtin.lenOf, Builtin.firstCells]
  | some a =>
    obtain ⟨v', w', hrun, h2, h3, _, _⟩ := run_append_own_at (P := Try.prog) W w.heap.size 28 28 38 i0 _ 3 40 Try.underlying28 hi hz0 hz1 hz2 rfl (by decide) (.slice none 0 0) 0 [] hnil
      a L.length c (meCells L) (meCells_length L) (by
        intro j u hu
        obtain ⟨a', e, hl, hc⟩ := hv.cells (by intro e; subst e; simp [meCells] at hu)
        injection e with e
        subst e
        exact (hb.cell (by rw [add_block]; exact hl)).trans (hc j u hu)) cells_one (by unfold maxLen; omega) (by omega) hb.size
    rw [Nat.zero_add, List.nil_append] at h2
    have hb' : Below w.heap.size w w' := hb.grown h3 hb.size (fun g e => by simp [Value.ownBlock] at e)
    have hsh : ∃ A' c', v' = .slice A' L.length c' := by
      rcases h2.2 with ⟨rfl, h0⟩ | ⟨g, cap, cur, rfl, _⟩
      · exact ⟨none, 0, by rw [h0]⟩
      · exact ⟨_, _, rfl⟩
    obtain ⟨A', c', rfl⟩ := hsh
    exact ⟨A', c', w', hrun, h2, hb', fun b cs h => blk_kept h h3 (by simp [Value.ownBlock])⟩
/-- one edit more -/
theorem push_ed {w W : World} {v : Value} {n : Nat} {L : List MEd} (hown : W.ownsRow w.heap.size 38 3 v n (meCells L)) (hb : Below w.heap.size w W) (m : MEd) (b : Nat) (hblk : Blk W b 38 #[.int .i64 m.op, .int .i64 (m.n : Nat), m.val]) (h1 : n ≤ 1000) (l : Nat) (hl : n + 1 = l) :
    ∃ A' c' W', (Builtin.append_ #[28, 28] 28 #[v, .slice (some ⟨b, 0, none⟩) 1 1]).run Try.prog W = .ok (.slice A' l c') W' ∧ W'.ownsRow w.heap.size 38 3 (.slice A' l c') l (meCells (L ++ [m])) ∧ l ≤ c' ∧ Below w.heap.size w W' := by
  subst hl
  obtain ⟨i0, hi, hz0, hz1, hz2⟩ := info_parts info38
  obtain ⟨v', W', hrun, hown', hg, _, _⟩ := run_append_own_at (P := Try.prog) W w.heap.size 28 28 38 i0 _ 3 40 Try.underlying28 hi hz0 hz1 hz2 rfl (by decide) v n (meCells L) hown
    ⟨b, 0, none⟩ 1 1 m.cells rfl (by
      intro j u hu
      rw [add_zero_block, hblk.cell j]
      simpa [MEd.cells] using hu) (by intro u hu; simp [MEd.cells] at hu; rcases hu with rfl | rfl | rfl <;> rfl) (by unfold maxLen; omega) (by omega) hb.size
  have hsh : ∃ A' c', v' = .slice A' (n + 1) c' ∧ n + 1 ≤ c' := by
    rcases hown'.2 with ⟨_, h0⟩ | ⟨g, cap, cur, rfl, _, _, hc, _⟩
    · omega
    · exact ⟨_, _, rfl, hc⟩
  obtain ⟨A', c', rfl, hc⟩ := hsh
  exact ⟨A', c', W', hrun, by rw [meCells_snoc]; exact hown', hc, hb.grown hg hb.size (fun k hk => (hown.lt k hk).1)⟩
/-- a list of texts, appended to: blocks of edits stay as they are -/
theorem append_own_b {w0 w : World} {v : Value} {X news : List ByteArray} (h : Own w0 w v X) {H : Nat} {A : Option Addr} (m c : Nat) (hA : Strs w H A news) (hm : news.length = m) (Y : List ByteArray) (hY : Y = X ++ news) (hb : Y.length ≤ 1099511627776) :
    ∃ A' c' w', (Builtin.append_ #[22, 22] 22 #[v, .slice A m c]).run Try.prog w = .ok (.slice A' Y.length c') w' ∧ Own w0 w' (.slice A' Y.length c') Y ∧ ∀ b cs, Blk w b 38 cs → Blk w' b 38 cs := by
  subst hm
  have hl : X.length + news.length = Y.length := by rw [hY, List.length_append]
  obtain ⟨A', c', w', hrun, hown, hg⟩ := run_append_strs w w0.heap.size v X.length (X.map .string) h.1 H A news.length c news hA rfl (by omega) h.2.size
  rw [hl] at hrun hown
  refine ⟨A', c', w', hrun, ⟨?_, h.2.grown hg h.2.size (fun g e => (h.1.lt g e).1)⟩, fun b cs hbk => blk_kept hbk hg (fun e => own_blk_ne h.1 hbk (by decide) e.symm)⟩
  rw [hY] at hown ⊢
  rw [List.map_append]
  exact hown
theorem view_of {w W : World} {A : Option Addr} {n c : Nat} {L : List MEd} (hown : W.ownsRow w.heap.size 38 3 (.slice A n c) n (meCells L)) (hn : L.length = n) (hold : ∀ m ∈ L, Strs W W.heap.size m.A m.lines) : Vw W A L :=
  ⟨fun hne => by
    obtain ⟨g, cap, hv, _, hlt⟩ := hown.form (by rw [← hn]; exact List.length_pos_iff.2 hne)
    have hA : A = some ⟨g, 0, none⟩ := by injection hv
    subst hA
    exact ⟨_, rfl, hlt, fun j u hu => hown.cells (g := g) rfl j u hu⟩, hold⟩

set_option maxHeartbeats 2000000 in
set_option maxRecDepth 100000 in
theorem with_new (A : Option Addr) (L : List MEd) (n c : Nat) (op : Int) (B : Option Addr) (ls : List ByteArray) (l d : Nat) (w : World) (hv : Vw w A L) (hn : L.length = n) (h1 : n ≤ 999) (hB : Strs w w.heap.size B ls) (hl : ls.length = l)
    (hne : ∀ m, L.getLast? = some m → m.op ≠ op) :
    Calls Try.prog 36 #[.slice A n c, .int .i64 op, .slice B l d] w fun e w' => ∃ A' c' L' n', e = .returned (.slice A' n' c') ∧ L'.length = n' ∧ n' ≤ c' ∧ Vw w' A' L' ∧ L'.map MEd.e = stepE (L.map MEd.e) op ls ∧ Below w.heap.size w w' := by
  subst hl
  obtain ⟨A1, c1, w1, hr1, ho1, hb1, _⟩ := copy_eds (Below.refl _ w) hv n c hn (by omega)
  obtain ⟨A2, c2, w2, hr2, ho2, hc2, hb2⟩ := push_ed (ho1.alloc (.cells #[.int .i64 op, .int .i64 ((1 : Nat) : Int), .slice B ls.length d] 38)) (hb1.alloc hb1.size _) ⟨op, 1, B, d, ls⟩ w1.heap.size (Blk.new w1 38 _) (by omega) (n + 1) rfl
  have HR1 := Lib.hid hr1
  have HR2 : Hid ((Builtin.append_ #[28, 28] 28 #[.slice A1 n c1, .slice (some ⟨w1.heap.size, 0, none⟩) 1 1]).run Try.prog (w1.alloc (.cells #[.int .i64 op, .int .i64 1, .slice B ls.length d] 38)) = .ok (.slice A2 (n + 1) c2) w2) := Lib.hid hr2
  have hfin : (L ++ [(⟨op, 1, B, d, ls⟩ : MEd)]).map MEd.e = stepE (L.map MEd.e) op ls := by
    rw [stepE_new _ _ _ (fun e he => by
      rw [List.getLast?_map] at he
      cases hl : L.getLast? with
      | none => rw [hl] at he; cases he
      | some m9 => rw [hl] at he; injection he with he; subst he; exact hne m9 hl), List.map_append]
    rfl
  have hvw : Vw w2 A2 (L ++ [(⟨op, 1, B, d, ls⟩ : MEd)]) := view_of ho2 (by simp [hn]) (fun m hm => by
    rcases List.mem_append.1 hm with e | e
    · exact ((hv.old m e).below hb2).more hb2.size
    · simp at e; subst e; exact (hB.below hb2).more hb2.size)
  have hlen : (L ++ [(⟨op, 1, B, d, ls⟩ : MEd)]).length = n + 1 := by simp [hn]
  have HF := Lib.hid hfin
  have HL := Lib.hid hlen
  have HV := Lib.hid hvw
  -- the test: none, or of another kind
  have htest : n = 0 ∨ ∃ (a : Addr) (z : Int), A = some a ∧ 0 < n ∧ w.cell? (a.add ((n - 1) * 3)) = some (.int .i64 z) ∧ z ≠ op := by
    rcases List.eq_nil_or_concat L with rfl | ⟨L0, m, rfl⟩
    · left; simpa using hn.symm
    · right
      rw [List.concat_eq_append] at hn hv hne
      obtain ⟨a, e, _, hc⟩ := hv.cells (by simp)
      have hk := (meCells_at (L := L0 ++ [m]) (k := L0.length) (m := m) (by simp)).1
      refine ⟨a, m.op, e, by rw [← hn]; simp, ?_, hne m (by simp)⟩
      have : n - 1 = L0.length := by rw [← hn]; simp
      rw [this]
      exact hc _ _ hk
  clear hr1 hr2 hfin hvw hlen hne hn hv
  rcases htest with h0 | ⟨a, z, rfl, hpos, hcz, hz⟩
  · subst h0
    go_enter Try.func36, Try.ntmps36
    go_wp2_with (first
      | (at_builtin; refine wpList_append_run (o := ⟨some 50, _, _, _, _, _⟩) rfl rfl (by simp [Region.wanted]) rfl rfl HR1.out ?_)
      | (at_builtin; refine wpList_append_run (o := ⟨some 55, _, _, _, _, _⟩) rfl rfl (by simp [Region.wanted]) rfl rfl HR2.out ?_))
    go_ret
    exact ⟨A2, c2, _, 1, rfl, HL.out, hc2, HV.out, HF.out, hb2⟩
  · have d0 : decide (0 < n) = true := by simpa using hpos
    have d1 : (0 : Int) < (n : Int) := by omega
    have f0 : (0 : Int) ≤ (n : Int) - 1 := by omega
    have f1 : (n : Int) - 1 < (n : Int) := by omega
    have f2 : ((n : Int) - 1).toNat = n - 1 := by omega
    have f3 : (z == op) = false := by simp [hz]
    clear hz
    go_enter Try.func36, Try.ntmps36
    go_wp2_with (first
      | (at_builtin; refine wpList_append_run (o := ⟨some 50, _, _, _, _, _⟩) rfl rfl (by simp [Region.wanted]) rfl rfl HR1.out ?_)
      | (at_builtin; refine wpList_append_run (o := ⟨some 55, _, _, _, _, _⟩) rfl rfl (by simp [Region.wanted]) rfl rfl HR2.out ?_))
    go_ret
    exact ⟨A2, c2, _, n + 1, rfl, HL.out, hc2, HV.out, HF.out, hb2⟩

/-- behind the first statement of the way that counts the last edit's step -/
def Boxed (w : World) (op : Int) (k : Nat) (X : List ByteArray) (s8 : Value) (wx : World) : Prop :=
  ∃ (g : Nat) (A' : Option Addr) (c' : Nat), s8 = .pointer (some ⟨g, 0, none⟩) ∧ Blk wx g 38 #[.int .i64 op, .int .i64 (k : Nat), .slice A' X.length c'] ∧ Strs wx wx.heap.size A' X ∧ Below w.heap.size w wx

theorem set_boxed {w W : World} {v : Value} {X : List ByteArray} {g : Nat} {cs : Array Value} (hq : Own w W v X) (hx : Blk W g 38 cs) (hg : w.heap.size ≤ g) (i : Nat) (u : Value) : Own w (W.setCell ⟨g, i, none⟩ u) v X ∧ Blk (W.setCell ⟨g, i, none⟩ u) g 38 (cs.setIfInBounds i u) :=
  ⟨⟨World.ownsRow.kept hq.1 (grown_set W g i u) (.inr (fun e => own_blk_ne hq.1 hx (by decide) e.symm)), hq.2.setCell (p := ⟨g, i, none⟩) hg u⟩, hx.set_ i u⟩
theorem boxed_alloc {w W : World} {A : Option Addr} {c k : Nat} {op z : Int} {X : List ByteArray} (hq : Own w W (.slice A X.length c) X) (hz : z = ((k : Nat) : Int)) : Boxed w op k X (.pointer (some ⟨W.heap.size, 0, none⟩)) (W.alloc (.cells #[.int .i64 op, .int .i64 z, .slice A X.length c] 38)) := by
  subst hz
  exact ⟨_, A, c, rfl, Blk.new W 38 _, (hq.strs.alloc (Nat.le_refl _) _).more (by simp), hq.2.alloc hq.2.size _⟩
theorem boxed_set {w W : World} {A : Option Addr} {c k g : Nat} {op z : Int} {X : List ByteArray} (hq : Own w W (.slice A X.length c) X) (hx : Blk W g 38 #[.int .i64 0, .int .i64 0, .slice none 0 0]) (hg : w.heap.size ≤ g) (hz : z = ((k : Nat) : Int)) :
    Boxed w op k X (.pointer (some ⟨g, 0, none⟩)) (((W.setCell ⟨g, 0, none⟩ (.int .i64 op)).setCell ⟨g, 1, none⟩ (.int .i64 z)).setCell ⟨g, 2, none⟩ (.slice A X.length c)) := by
  subst hz
  obtain ⟨q1, x1⟩ := set_boxed hq hx hg 0 (.int .i64 op)
  obtain ⟨q2, x2⟩ := set_boxed q1 x1 hg 1 (.int .i64 (k : Nat))
  obtain ⟨q3, x3⟩ := set_boxed q2 x2 hg 2 (.slice A X.length c)
  exact ⟨g, A, c, rfl, x3, q3.strs, q3.2⟩

set_option maxHeartbeats 4000000 in
set_option maxRecDepth 100000 in
theorem with_same (A : Option Addr) (L0 : List MEd) (m : MEd) (n c : Nat) (op : Int) (B : Option Addr) (ls : List ByteArray) (l d : Nat) (w : World) (hv : Vw w A (L0 ++ [m])) (hn : L0.length + 1 = n) (hnc : n ≤ c) (h1 : n ≤ 999) (hB : Strs w w.heap.size B ls) (hl : ls.length = l)
    (hop : m.op = op) (hmn : m.n ≤ 65536) (hml : m.lines.length ≤ 65536) (hll : l ≤ 65536) :
    Calls Try.prog 36 #[.slice A n c, .int .i64 op, .slice B l d] w fun e w' => ∃ A' c' L' n', e = .returned (.slice A' n' c') ∧ L'.length = n' ∧ n' ≤ c' ∧ Vw w' A' L' ∧ L'.map MEd.e = stepE ((L0 ++ [m]).map MEd.e) op ls ∧ Below w.heap.size w w' := by
  subst hl hop
  obtain ⟨a, rfl, hlt, hc⟩ := hv.cells (by simp)
  obtain ⟨k1, k2, k3⟩ := meCells_at (L := L0 ++ [m]) (k := L0.length) (m := m) (by simp)
  have hn1 : n - 1 = L0.length := by omega
  have hc1 := hc _ _ k1
  have hc2 := hc _ _ k2
  have hc3 := hc _ _ k3
  rw [← hn1] at hc1 hc2 hc3
  unfold MEd.val at hc3
  rw [← field_at a ((n - 1) * 3) 1 (by decide)] at hc2
  rw [← field_at a ((n - 1) * 3) 2 (by decide)] at hc3
  obtain ⟨X, hX⟩ : ∃ X, X = m.lines ++ ls := ⟨_, rfl⟩
  have hXl : X.length ≤ 131072 := by rw [hX, List.length_append]; omega
  have hmS := hv.old m (by simp)
  have hd : Below w.heap.size w w.drew := (Below.refl _ _).drew
  obtain ⟨A1, c1, W1, hr1, hq1, _⟩ := append_own_b (w0 := w) (w := w.drew) (v := .slice none 0 0) (X := []) ⟨World.ownsRow_nil _ _ _ _, hd⟩ m.lines.length m.cap hmS.drew rfl m.lines rfl (by omega)
  obtain ⟨A2, c2, W2, hr2, hq2, _⟩ := append_own_b hq1 ls.length d (hB.below hq1.2) rfl X hX (by omega)
  obtain ⟨A3, c3, W3, hr3, hq3, hk3⟩ := append_own_b (hq1.alloc (.cells #[.int .i64 0, .int .i64 0, .slice none 0 0] 38)) ls.length d ((hB.below hq1.2).alloc hq1.2.size _) rfl X hX (by omega)
  obtain ⟨A4, c4, W4, hr4, hq4, hk4⟩ := append_own_b (w0 := w) (w := (w.alloc (.cells #[.int .i64 0, .int .i64 0, .slice none 0 0] 38)).drew) (v := .slice none 0 0) (X := []) ⟨World.ownsRow_nil _ _ _ _, ((Below.refl w.heap.size w).alloc (Nat.le_refl _) _).drew⟩ m.lines.length m.cap ((hmS.alloc (Nat.le_refl _) _).drew) rfl m.lines rfl (by omega)
  obtain ⟨A5, c5, W5, hr5, hq5, hk5⟩ := append_own_b hq4 ls.length d (hB.below hq4.2) rfl X hX (by omega)
  have hx3 := hk3 _ _ (Blk.new W1 38 #[.int .i64 0, .int .i64 0, .slice none 0 0])
  have hx5 := hk5 _ _ (hk4 _ _ (show Blk (w.alloc (.cells #[.int .i64 0, .int .i64 0, .slice none 0 0] 38)).drew w.heap.size 38 #[.int .i64 0, .int .i64 0, .slice none 0 0] from Blk.new w 38 _))
  have HR1 := Lib.hid hr1
  have HR2 := Lib.hid hr2
  have HR3 := Lib.hid hr3
  have HR4 := Lib.hid hr4
  have HR5 := Lib.hid hr5
  have d0 : decide (0 < n) = true := by simp; omega
  have d1 : (0 : Int) < (n : Int) := by omega
  have f0 : (0 : Int) ≤ (n : Int) - 1 := by omega
  have f1 : (n : Int) - 1 < (n : Int) := by omega
  have f2 : ((n : Int) - 1).toNat = n - 1 := by omega
  have f3 : IntKind.i64.wrap ((n : Int) - 1) = (n : Int) - 1 := IntWalk.i64_in _ (by omega)
  have f5 : (1 : Int) ≤ (n : Int) := by omega
  have f4 : IntKind.i64.wrap ((m.n : Int) + 1) = (m.n : Int) + 1 := IntWalk.i64_in _ (by omega)
  have HX := Lib.hid hX
  have HN := Lib.hid hn
  have HN1 := Lib.hid hn1
  have HV := Lib.hid hv
  have e30 : W3.cell? ⟨W1.heap.size, 0, none⟩ = some (.int .i64 0) := hx3.cell 0
  have e31 : W3.cell? ⟨W1.heap.size, 1, none⟩ = some (.int .i64 0) := hx3.cell 1
  have e32 : W3.cell? ⟨W1.heap.size, 2, none⟩ = some (.slice none 0 0) := hx3.cell 2
  have e3f := fun i => hx3.frozen i
  have e50 : W5.cell? ⟨w.heap.size, 0, none⟩ = some (.int .i64 0) := hx5.cell 0
  have e51 : W5.cell? ⟨w.heap.size, 1, none⟩ = some (.int .i64 0) := hx5.cell 1
  have e52 : W5.cell? ⟨w.heap.size, 2, none⟩ = some (.slice none 0 0) := hx5.cell 2
  have e5f : ∀ i, W5.frozen? ⟨w.heap.size, i, none⟩ = false := fun i => hx5.frozen i
  have hcell : ∀ W, Below w.heap.size w W → W.cell? ⟨(a.add ((n - 1) * 3)).block, (a.add ((n - 1) * 3)).off + 1, none⟩ = some (.int .i64 (m.n : Nat)) ∧ W.cell? ⟨(a.add ((n - 1) * 3)).block, (a.add ((n - 1) * 3)).off + 2, none⟩ = some (.slice m.A m.lines.length m.cap) := fun W hb =>
    ⟨(hb.cell (by show (a.add _).block < _; rw [add_block]; exact hlt)).trans hc2, (hb.cell (by show (a.add _).block < _; rw [add_block]; exact hlt)).trans hc3⟩
  obtain ⟨p1, p2⟩ := hcell _ hq1.2
  obtain ⟨p3, p4⟩ := hcell _ hq2.2
  obtain ⟨p5, p6⟩ := hcell _ hq3.2
  obtain ⟨p7, p8⟩ := hcell _ hq4.2
  obtain ⟨p9, p10⟩ := hcell _ hq5.2
  obtain ⟨p11, p12⟩ := hcell _ ((Below.refl w.heap.size w).alloc (Nat.le_refl _) (.cells #[.int .i64 0, .int .i64 0, .slice none 0 0] 38))
  obtain ⟨p13, p14⟩ := hcell _ (hq1.2.alloc hq1.2.size (.cells #[.int .i64 0, .int .i64 0, .slice none 0 0] 38))
  obtain ⟨p15, p16⟩ := hcell _ (hq2.2.alloc hq2.2.size (.cells #[.int .i64 0, .int .i64 0, .slice none 0 0] 38))
  have HK3 : Hid (∀ v1 v2 v3 : Value, (((W3.setCell ⟨W1.heap.size, 0, none⟩ v1).setCell ⟨W1.heap.size, 1, none⟩ v2).setCell ⟨W1.heap.size, 2, none⟩ v3).cell? ⟨(a.add ((n - 1) * 3)).block, (a.add ((n - 1) * 3)).off + 1, none⟩ = some (.int .i64 (m.n : Nat)) ∧ (((W3.setCell ⟨W1.heap.size, 0, none⟩ v1).setCell ⟨W1.heap.size, 1, none⟩ v2).setCell ⟨W1.heap.size, 2, none⟩ v3).cell? ⟨(a.add ((n - 1) * 3)).block, (a.add ((n - 1) * 3)).off + 2, none⟩ = some (.slice m.A m.lines.length m.cap)) := Lib.hid (fun v1 v2 v3 =>
    hcell _ (((hq3.2.setCell (p := ⟨W1.heap.size, 0, none⟩) hq1.2.size v1).setCell (p := ⟨W1.heap.size, 1, none⟩) hq1.2.size v2).setCell (p := ⟨W1.heap.size, 2, none⟩) hq1.2.size v3))
  have HK5 : Hid (∀ v1 v2 v3 : Value, (((W5.setCell ⟨w.heap.size, 0, none⟩ v1).setCell ⟨w.heap.size, 1, none⟩ v2).setCell ⟨w.heap.size, 2, none⟩ v3).cell? ⟨(a.add ((n - 1) * 3)).block, (a.add ((n - 1) * 3)).off + 1, none⟩ = some (.int .i64 (m.n : Nat)) ∧ (((W5.setCell ⟨w.heap.size, 0, none⟩ v1).setCell ⟨w.heap.size, 1, none⟩ v2).setCell ⟨w.heap.size, 2, none⟩ v3).cell? ⟨(a.add ((n - 1) * 3)).block, (a.add ((n - 1) * 3)).off + 2, none⟩ = some (.slice m.A m.lines.length m.cap)) := Lib.hid (fun v1 v2 v3 =>
    hcell _ (((hq5.2.setCell (p := ⟨w.heap.size, 0, none⟩) (Nat.le_refl _) v1).setCell (p := ⟨w.heap.size, 1, none⟩) (Nat.le_refl _) v2).setCell (p := ⟨w.heap.size, 2, none⟩) (Nat.le_refl _) v3))
  have HQ2 := Lib.hid hq2
  have HQ3 := Lib.hid hq3
  have HQ5 := Lib.hid hq5
  have HX3 := Lib.hid hx3
  have HX5 := Lib.hid hx5
  have HLE := Lib.hid hq1.2.size
  clear hcell hq2 hq3 hq5 hx3 hx5 hq1 hq4
  clear hr1 hr2 hr3 hr4 hr5 hX hn hn1 hv k1 k2 k3 hc hk3 hk4 hk5
  go_enter Try.func36, Try.ntmps36
  go_wp2_with fail
  go_cut [8] (fun s8 wx => Boxed w m.op (m.n + 1) X s8 wx)
  case first =>
    go_region_held3 (fun w' => w'.cell? ⟨(a.add ((n - 1) * 3)).block, (a.add ((n - 1) * 3)).off + 1, none⟩ = some (.int .i64 (m.n : Nat)) ∧ w'.cell? ⟨(a.add ((n - 1) * 3)).block, (a.add ((n - 1) * 3)).off + 2, none⟩ = some (.slice m.A m.lines.length m.cap)) (first | (simp; done) | (exact ⟨by assumption, by assumption⟩) | exact HK3.out _ _ _ | exact HK5.out _ _ _ | go_keep) ((first | (refine step_append_run2 HR1.out rfl rfl rfl ?_ ?_ ?_; (focus (simp [Act.eval]; done)); (focus (simp [Act.eval]; done))) | (refine step_append_run2 HR2.out rfl rfl rfl ?_ ?_ ?_; (focus (simp [Act.eval]; done)); (focus (simp [Act.eval]; done))) | (refine step_append_run2 HR3.out rfl rfl rfl ?_ ?_ ?_; (focus (simp [Act.eval]; done)); (focus (simp [Act.eval]; done))) | (refine step_append_run2 HR4.out rfl rfl rfl ?_ ?_ ?_; (focus (simp [Act.eval]; done)); (focus (simp [Act.eval]; done))) | (refine step_append_run2 HR5.out rfl rfl rfl ?_ ?_ ?_; (focus (simp [Act.eval]; done)); (focus (simp [Act.eval]; done)))))
    all_goals
      go_simp
      go_wp2_with fail
      go_meet
      first | exact boxed_alloc HQ2.out (by omega) | exact boxed_set HQ3.out HX3.out HLE.out (by omega) | exact boxed_set HQ5.out HX5.out (Nat.le_refl _) (by omega)
  case rest =>
    obtain ⟨g, A6, c6, rfl, hbk, hS6, hbw⟩ := hcut
    have hvc := (HV.out.up hbw).front
    have hd0 : Below wc.heap.size wc wc := Below.refl _ _
    obtain ⟨A7, c7, W7, hr7, ho7, hb7, hk7⟩ := copy_eds (W := wc.drew) hd0.drew hvc (n - 1) c HN1.out.symm (by omega)
    obtain ⟨A8, c8, W8, hr8, ho8, hc8, hb8⟩ := push_ed (ho7.alloc (.cells #[.int .i64 m.op, .int .i64 ((m.n + 1 : Nat) : Int), .slice A6 X.length c6] 38)) (hb7.alloc hb7.size _) ⟨m.op, m.n + 1, A6, c6, X⟩ W7.heap.size (Blk.new W7 38 _) (by omega) n (by omega)
    obtain ⟨A9, c9, W9, hr9, ho9, hb9, hk9⟩ := copy_eds (W := (wc.alloc (.cells #[.int .i64 m.op, .int .i64 ((m.n + 1 : Nat) : Int), .slice A6 X.length c6] 38)).drew) (hd0.alloc hd0.size _).drew hvc (n - 1) c HN1.out.symm (by omega)
    obtain ⟨A10, c10, W10, hr10, ho10, hc10, hb10⟩ := push_ed ho9 hb9 ⟨m.op, m.n + 1, A6, c6, X⟩ wc.heap.size (hk9 _ _ (show Blk (wc.alloc (.cells #[.int .i64 m.op, .int .i64 ((m.n + 1 : Nat) : Int), .slice A6 X.length c6] 38)).drew wc.heap.size 38 _ from Blk.new wc 38 _)) (by omega) n (by omega)
    have hx7 := hk7 _ _ (show Blk wc.drew g 38 _ from hbk)
    have hfin : (L0 ++ [(⟨m.op, m.n + 1, A6, c6, X⟩ : MEd)]).map MEd.e = stepE ((L0 ++ [m]).map MEd.e) m.op ls := by
      rw [List.map_append, List.map_append]
      have := stepE_same (L0.map MEd.e) m.e ls
      simp only [List.map_cons, List.map_nil]
      rw [show m.op = m.e.op from rfl, this]
      simp [MEd.e, HX.out]
    have hold : ∀ W, Below wc.heap.size wc W → ∀ m' ∈ L0 ++ [(⟨m.op, m.n + 1, A6, c6, X⟩ : MEd)], Strs W W.heap.size m'.A m'.lines := fun W hb m' hm' => by
      rcases List.mem_append.1 hm' with e | e
      · exact ((hvc.old m' e).below hb).more hb.size
      · simp at e; subst e; exact (hS6.below hb).more hb.size
    have hL8 : (L0 ++ [(⟨m.op, m.n + 1, A6, c6, X⟩ : MEd)]).length = n := by simp; exact HN.out
    have hv8 := view_of ho8 hL8 (hold W8 hb8)
    have hv10 := view_of ho10 hL8 (hold W10 hb10)
    have HFIN := Lib.hid hfin
    have HL8 := Lib.hid hL8
    have HV8 := Lib.hid hv8
    have HV10 := Lib.hid hv10
    rw [show ((m.n + 1 : Nat) : Int) = (m.n : Int) + 1 from by omega] at hr8 hr9
    have HR7 := Lib.hid hr7
    have HR8 := Lib.hid hr8
    have HR9 := Lib.hid hr9
    have HR10 := Lib.hid hr10
    have q0 : wc.cell? ⟨g, 0, none⟩ = some (.int .i64 m.op) := hbk.cell 0
    have q1 : wc.cell? ⟨g, 1, none⟩ = some (.int .i64 ((m.n : Int) + 1)) := hbk.cell 1
    have q2 : wc.cell? ⟨g, 2, none⟩ = some (.slice A6 X.length c6) := hbk.cell 2
    have q3 : W7.cell? ⟨g, 0, none⟩ = some (.int .i64 m.op) := hx7.cell 0
    have q4 : W7.cell? ⟨g, 1, none⟩ = some (.int .i64 ((m.n : Int) + 1)) := hx7.cell 1
    have q5 : W7.cell? ⟨g, 2, none⟩ = some (.slice A6 X.length c6) := hx7.cell 2
    have f6 : (n : Int) - 1 ≤ (c : Int) := by omega
    have f7 : (n : Int) ≤ (c : Int) + 1 := by omega
    clear hr7 hr8 hr9 hr10 hfin hold hL8 hv8 hv10 hvc ho7 ho8 ho9 ho10 hx7 hk7 hk9 hbk hc1 hc2 hc3
    clear p1 p2 p3 p4 p5 p6 p7 p8 p9 p10 p11 p12 p13 p14 p15 p16 e30 e31 e32 e3f e50 e51 e52 e5f HK3 HK5 HR1 HR2 HR3 HR4 HR5 HQ2 HQ3 HQ5 HX3 HX5 HLE
    go_wp2_with fail
    go_region_law ((first | (refine step_append_run2 HR7.out rfl rfl rfl ?_ ?_ ?_; (focus (first | (simp [Act.eval]; done) | (simp [Act.eval, Act.put]; done))); (focus (first | (simp [Act.eval]; done) | (simp [Act.eval, Act.put]; done)))) | (refine step_append_run2 HR8.out rfl rfl rfl ?_ ?_ ?_; (focus (first | (simp [Act.eval]; done) | (simp [Act.eval, Act.put]; done))); (focus (first | (simp [Act.eval]; done) | (simp [Act.eval, Act.put]; done)))) | (refine step_append_run2 HR9.out rfl rfl rfl ?_ ?_ ?_; (focus (first | (simp [Act.eval]; done) | (simp [Act.eval, Act.put]; done))); (focus (first | (simp [Act.eval]; done) | (simp [Act.eval, Act.put]; done)))) | (refine step_append_run2 HR10.out rfl rfl rfl ?_ ?_ ?_; (focus (first | (simp [Act.eval]; done) | (simp [Act.eval, Act.put]; done))); (focus (first | (simp [Act.eval]; done) | (simp [Act.eval, Act.put]; done))))))
    all_goals
      go_simp
      go_wp2_with fail
      go_ret
      first
        | exact ⟨A8, c8, _, n, rfl, HL8.out, hc8, HV8.out, HFIN.out, hbw.trans (hb8.mono hbw.size)⟩
        | exact ⟨A10, c10, _, n, rfl, HL8.out, hc10, HV10.out, HFIN.out, hbw.trans (hb10.mono hbw.size)⟩

end Go.Proofs.Ytmonemgjgcfhlaa
