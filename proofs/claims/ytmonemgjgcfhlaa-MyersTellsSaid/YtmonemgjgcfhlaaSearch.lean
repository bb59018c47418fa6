/-
  search: it goes through two lists by rising costs, and tells the cost of the end, and the fronts on the way.
-/
import Derived.Test.YtmonemgjgcfhlaaRise
import Derived.BigRegion
import Derived.Deep.RegionLaw
import Derived.Deep.DeepCutAuto
namespace Go.Proofs.Ytmonemgjgcfhlaa
open Go.RowKit

/-- a search that has come to its end, in the block b -/
structure TrailAt (xs ys : List Int) (X Y : Value) (b : Nat) (L : List Fr) (mk v : Value) (W : World) : Prop where
  blk : Blk W b 54 #[X, Y, .int .i64 (Pm.D xs ys xs.length ys.length : Nat), mk, .int .i64 0, v]
  row : W.ownsRow 0 56 2 v L.length (frCells L)
  own : ∀ f ∈ L, f.own W
  ok : ∀ (t : Nat) (f : Fr), L[t]? = some f → Pm.FrontOk xs ys t f.low f.far
  len : L.length = Pm.D xs ys xs.length ys.length
theorem TrailAt.step {xs ys : List Int} {X Y : Value} {b : Nat} {L : List Fr} {mk v : Value} {W W' : World} (h : TrailAt xs ys X Y b L mk v W) (hb : Below W.heap.size W W') : TrailAt xs ys X Y b L mk v W' :=
  ⟨h.blk.below hb h.blk.lt, h.row.kept (grown_of_below hb none) (by cases v.ownBlock <;> simp), fun f hf => (h.own f hf).kept (grown_of_below hb none) (by cases f.val.ownBlock <;> simp), h.ok, h.len⟩

/-- behind the search: the cost is not yet written -/
def Done (w : World) (xs ys : List Int) (X Y : Value) (bb : Nat) (L : List Fr) (mk v : Value) (B : Nat) (cs : Array Value) (wx : World) : Prop :=
  Blk wx w.heap.size 54 #[X, Y, .int .i64 0, mk, .int .i64 0, v] ∧ wx.ownsRow B 56 2 v L.length (frCells L) ∧ (∀ f ∈ L, f.own wx) ∧ (∀ (t : Nat) (f : Fr), L[t]? = some f → Pm.FrontOk xs ys t f.low f.far) ∧ L.length = Pm.D xs ys xs.length ys.length ∧
    Blk wx bb 56 cs ∧ bb < B ∧ w.heap.size ≤ bb ∧ Below w.heap.size w wx
/-- ahead of the search -/
def Ahead (w : World) (X Y : Value) (mk : Value) (bb : Nat) (f0 : Fr) (wx : World) : Prop := Blk wx w.heap.size 54 #[X, Y, .int .i64 0, mk, .int .i64 0, .slice none 0 0] ∧ Blk wx bb 56 #[.int .i64 f0.low, f0.val] ∧ f0.own wx ∧ Below w.heap.size w wx

theorem grown_trans {a b c : World} {row : Option Nat} (h : a.grownBy b row) (h2 : b.grownBy c row) : a.grownBy c row :=
  ⟨h2.os.trans h.os, h2.tape.trans h.tape, h2.output.trans h.output, Nat.le_trans h.size h2.size, fun k hk hn => (h2.block k (Nat.lt_of_lt_of_le hk h.size) hn).trans (h.block k hk hn)⟩
theorem grown_alloc_drew {W c : World} {o : Obj} {row : Option Nat} (h : (W.alloc o).drew.grownBy c row) : W.grownBy c row :=
  ⟨h.os, h.tape, h.output, Nat.le_trans (by simp) h.size, fun k hk hn => (h.block k (by simp; omega) hn).trans (Below.heap_alloc W o k hk)⟩
theorem grown_set (W : World) (g j : Nat) (u : Value) : W.grownBy (W.setCell ⟨g, j, none⟩ u) (some g) :=
  ⟨rfl, rfl, rfl, by simp, fun k _ hk => heap_setCell_other W ⟨g, j, none⟩ k _ (fun e => hk (by simp [e]))⟩
theorem Ahead.mark {w W W' : World} {X Y mk : Value} {bb : Nat} {f0 : Fr} (h : Ahead w X Y mk bb f0 W) (hg : W.grownBy W' none) (mk' : Value) : Ahead w X Y mk' bb f0 (W'.setCell ⟨w.heap.size, 3, none⟩ mk') := by
  obtain ⟨a1, a2, a3, a4⟩ := h
  have b1 := a1.grown hg (by simp)
  have b2 := a2.grown hg (by simp)
  have b3 : f0.own W' := World.ownsRow.kept a3 hg (by cases f0.val.ownBlock <;> simp)
  have hbn : bb ≠ w.heap.size := by
    intro e; subst e; unfold Blk at a1 a2; rw [a1] at a2; cases a2
  exact ⟨b1.set_ 3 _, b2.far (p := ⟨w.heap.size, 3, none⟩) hbn _, World.ownsRow.kept b3 (grown_set W' _ _ _) (.inr (Ne.symm (own_blk_ne b3 b1 (by decide)))),
    (a4.grown hg a4.size (by simp)).setCell (p := ⟨w.heap.size, 3, none⟩) (Nat.le_refl _) _⟩

theorem Done.set {w wx : World} {xs ys : List Int} {X Y : Value} {bb : Nat} {L : List Fr} {mk v : Value} {B : Nat} {cs : Array Value} (h : Done w xs ys X Y bb L mk v B cs wx) (j : Nat) (u : Value) : Done w xs ys X Y bb L mk v B (cs.setIfInBounds j u) (wx.setCell ⟨bb, j, none⟩ u) := by
  obtain ⟨h1, h2, h3, h4, h5, h6, h7, h8, h9⟩ := h
  have hne : w.heap.size ≠ bb := by
    intro e; subst e; unfold Blk at h1 h6; rw [h1] at h6; cases h6
  refine ⟨h1.far (p := ⟨bb, j, none⟩) hne _, h2.kept (grown_set wx _ _ _) ?_, fun f hf => World.ownsRow.kept (h3 f hf) (grown_set wx _ _ _) (.inr (Ne.symm (own_blk_ne (h3 f hf) h6 (by decide)))), h4, h5, h6.set_ j u, h7, h8, h9.setCell (p := ⟨bb, j, none⟩) h8 _⟩
  cases hv : v.ownBlock with
  | none => left; rfl
  | some k => right; intro e; injection e with e; subst e; have := (h2.lt _ hv).1; omega
theorem Done.drew {w wx : World} {xs ys : List Int} {X Y : Value} {bb : Nat} {L : List Fr} {mk v : Value} {B : Nat} {cs : Array Value} (h : Done w xs ys X Y bb L mk v B cs wx) : Done w xs ys X Y bb L mk v B cs wx.drew :=
  ⟨h.1, h.2.1, h.2.2.1, h.2.2.2.1, h.2.2.2.2.1, h.2.2.2.2.2.1, h.2.2.2.2.2.2.1, h.2.2.2.2.2.2.2.1, below_drewN h.2.2.2.2.2.2.2.2 1⟩
/-- the row that the search has told is laid into the trail -/
theorem done_of {w wy w6 : World} {xs ys : List Int} {X Y mk : Value} {bb : Nat} {f0 : Fr} {L : List Fr} {v : Value} (hA : Ahead w X Y mk bb f0 wy) (hF : Fronts wy xs ys X Y wy.heap.size L v w6) (hl : L.length = Pm.D xs ys xs.length ys.length) (hbb : w.heap.size ≤ bb) :
    Done w xs ys X Y bb L mk v wy.heap.size #[.int .i64 f0.low, f0.val] (w6.setCell ⟨w.heap.size, 5, none⟩ v) := by
  obtain ⟨a1, a2, a3, a4⟩ := hA
  have b1 := a1.below hF.below a1.lt
  have b2 := a2.below hF.below a2.lt
  have hbn : bb ≠ w.heap.size := by
    intro e; subst e; unfold Blk at a1 a2; rw [a1] at a2; cases a2
  exact ⟨b1.set_ 5 _, hF.row.kept (grown_set w6 _ _ _) (.inr (Ne.symm (own_blk_ne hF.row b1 (by decide)))), fun f hf => World.ownsRow.kept (hF.own f hf) (grown_set w6 _ _ _) (.inr (Ne.symm (own_blk_ne (hF.own f hf) b1 (by decide)))), hF.ok, hl,
    b2.far (p := ⟨w.heap.size, 5, none⟩) hbn _, a2.lt, hbb, (below_step a4 hF.below).setCell (p := ⟨w.heap.size, 5, none⟩) (Nat.le_refl _) _⟩
/-- the cost is written -/
theorem trail_of {w wx : World} {xs ys : List Int} {X Y : Value} {bb : Nat} {L : List Fr} {mk v : Value} {B : Nat} {cs : Array Value} (h : Done w xs ys X Y bb L mk v B cs wx) : TrailAt xs ys X Y w.heap.size L mk v (wx.setCell ⟨w.heap.size, 2, none⟩ (.int .i64 (Pm.D xs ys xs.length ys.length : Nat))) ∧ Below w.heap.size w (wx.setCell ⟨w.heap.size, 2, none⟩ (.int .i64 (Pm.D xs ys xs.length ys.length : Nat))) := by
  obtain ⟨h1, h2, h3, h4, h5, h6, h7, h8, h9⟩ := h
  exact ⟨⟨h1.set_ 2 _, World.ownsRow.kept (own_mono h2 (Nat.zero_le _)) (grown_set wx _ _ _) (.inr (Ne.symm (own_blk_ne h2 h1 (by decide)))), fun f hf => World.ownsRow.kept (h3 f hf) (grown_set wx _ _ _) (.inr (Ne.symm (own_blk_ne (h3 f hf) h1 (by decide)))), h4, h5⟩, h9.setCell (p := ⟨w.heap.size, 2, none⟩) (Nat.le_refl _) _⟩

set_option maxHeartbeats 4000000 in
set_option maxRecDepth 100000 in
theorem search_any (X Y : Option Addr) (xs ys : List Int) (cx cy : Nat) (w : World) (hx : Ints w w.heap.size X xs) (hy : Ints w w.heap.size Y ys) (hlen : xs.length + ys.length ≤ 256) :
    Calls Try.prog 28 #[.slice X xs.length cx, .slice Y ys.length cy] w fun e w' =>
      ∃ L mk v, e = .returned (.pointer (some ⟨w.heap.size, 0, none⟩)) ∧ TrailAt xs ys (.slice X xs.length cx) (.slice Y ys.length cy) w.heap.size L mk v w' ∧ Below w.heap.size w w' := by
  have hB0 : Below w.heap.size w (w.alloc (.cells #[.slice X xs.length cx, .slice Y ys.length cy, .int .i64 0, .slice none 0 0, .int .i64 0, .slice none 0 0] 54)) := (Below.refl _ _).alloc (Nat.le_refl _) _
  go_enter Try.func28, Try.ntmps28
  go_wp2_with fail
  refine (slide_any 0 X Y xs ys cx cy 0 0 _ (by exact (hx.below hB0).more hB0.size) (by exact (hy.below hB0).more hB0.size) (by simp) (Nat.zero_le _) (Nat.zero_le _) (by omega) (by omega)).mono ?_
  rintro e w1 ⟨i, j, rfl, hs, hb1⟩
  have HS := Lib.hid hs
  obtain ⟨_, hs2, hs3, hs4, hs5, _⟩ := hs
  have hbt1 : Blk w1 w.heap.size 54 #[.slice X xs.length cx, .slice Y ys.length cy, .int .i64 0, .slice none 0 0, .int .i64 0, .slice none 0 0] := (Blk.new w 54 _).below hb1 (by simp)
  have hB1 := hB0.trans (hb1.mono (by simp))
  have t0 : w1.cell? ⟨w.heap.size, 0, none⟩ = some (.slice X xs.length cx) := hbt1.cell 0
  have t1 : w1.cell? ⟨w.heap.size, 1, none⟩ = some (.slice Y ys.length cy) := hbt1.cell 1
  have HBT1 := Lib.hid hbt1
  clear hbt1 hs2 hs5
  go_wp2_with fail
  refine (isEnd_any 0 i _ _ _ _ _ _ _ (by omega) (by omega) (by omega) (by omega)).mono ?_
  rintro e w2 ⟨rfl, hb2⟩
  have hbt2 := HBT1.out.below hb2 HBT1.out.lt
  have hB2 := below_step hB1 hb2
  have HBT2 := Lib.hid hbt2
  clear hbt2 hb1 hb2 t0 t1
  by_cases he : (i : Int) = xs.length ∧ (i : Int) - 0 = ys.length
  · rw [decide_eq_true he]
    have hD0 : Pm.D xs ys xs.length ys.length = 0 := by
      obtain ⟨_, k2, _, _, k5, _⟩ := HS.out
      have hi : i = xs.length := by omega
      have hj : j = ys.length := by omega
      subst hi hj
      rw [k5]
      exact Pm.D_zero (Nat.zero_le _)
    have HT : Hid (TrailAt xs ys (.slice X xs.length cx) (.slice Y ys.length cy) w.heap.size [] (.slice none 0 0) (.slice none 0 0) w2) := Lib.hid
      ⟨by rw [hD0]; exact HBT2.out, World.ownsRow_nil _ _ _ _, by simp, by simp, by rw [hD0]; rfl⟩
    clear he hD0
    go_wp2_with fail
    go_ret
    exact ⟨[], _, _, rfl, HT.out, hB2⟩
  · rw [decide_eq_false he]
    have hok : Pm.FrontOk xs ys 0 0 [(i : Int)] := Pm.FrontOk.first HS.out (by have := HS.out.2.1; intro e; exact he ⟨by omega, by omega⟩)
    have hlt2 := HBT2.out.lt
    have t2 : w2.cell? ⟨w.heap.size, 3, none⟩ = some (.slice none 0 0) := HBT2.out.cell 3
    have t3 : w2.cell? ⟨w.heap.size, 4, none⟩ = some (.int .i64 0) := HBT2.out.cell 4
    have t4 : w2.frozen? ⟨w.heap.size, 4, none⟩ = false := HBT2.out.frozen 4
    have HOK := Lib.hid hok
    clear he hok
    have hA0 : Ahead w (.slice X xs.length cx) (.slice Y ys.length cy) (.slice none 0 0) (w2.heap.size + 1) ⟨0, some ⟨w2.heap.size, 0, none⟩, 1, [(i : Int)]⟩ ((w2.alloc (.cells #[.int .i64 (i : Int)] 3)).alloc (.cells #[.int .i64 0, .slice (some ⟨w2.heap.size, 0, none⟩) 1 1] 56)) := by
      refine ⟨(HBT2.out.alloc _).alloc _, ?_, ?_, (hB2.alloc hB2.size _).alloc (by have := hB2.size; simp; omega) _⟩
      · have h := Blk.new (w2.alloc (.cells #[.int .i64 (i : Int)] 3)) 56 #[.int .i64 0, .slice (some ⟨w2.heap.size, 0, none⟩) 1 1]
        simpa [Fr.val] using h
      · have h := World.ownsRow_lit (base := 0) (e := 3) (size := 1) w2 #[.int .i64 (i : Int)] 1 (Nat.zero_le _) (by decide) rfl
        exact World.ownsRow.alloc h _
    go_wp2_with fail
    generalize ((w2.alloc (.cells #[.int .i64 (i : Int)] 3)).alloc (.cells #[.int .i64 0, .slice (some ⟨w2.heap.size, 0, none⟩) 1 1] 56)) = W3 at hA0 ⊢
    have hbb : w.heap.size ≤ w2.heap.size + 1 := by omega
    generalize w2.heap.size + 1 = bb at hA0 hbb ⊢
    have hA0' := hA0
    go_loopg [8] 1 (fun g s8 wx => (g = 1 ∧ s8 = .bool false ∧ Ahead w (.slice X xs.length cx) (.slice Y ys.length cy) (.slice none 0 0) bb ⟨0, some ⟨w2.heap.size, 0, none⟩, 1, [(i : Int)]⟩ wx) ∨ (g = 0 ∧ s8 = .bool true ∧ ∃ L mk v B cs, 1 ≤ L.length ∧ Done w xs ys (.slice X xs.length cx) (.slice Y ys.length cy) bb L mk v B cs wx))
    case atStart => exact .inl ⟨rfl, rfl, hA0'⟩
    case round =>
      clear hA0 hA0'
      rcases hrel with ⟨rfl, rfl, hA⟩ | ⟨rfl, rfl, hDn⟩
      · obtain ⟨a1, a2, a3, a4⟩ := hA
        have c3 : wr.cell? ⟨w.heap.size, 3, none⟩ = some (.slice none 0 0) := a1.cell 3
        have c4 : wr.cell? ⟨w.heap.size, 4, none⟩ = some (.int .i64 0) := a1.cell 4
        have z4 : wr.frozen? ⟨w.heap.size, 4, none⟩ = false := a1.frozen 4
        have hbn : bb ≠ w.heap.size := by
          intro e; subst e; unfold Blk at a1 a2; rw [a1] at a2; cases a2
        have hA4 : Ahead w (.slice X xs.length cx) (.slice Y ys.length cy) (.slice none 0 0) bb ⟨0, some ⟨w2.heap.size, 0, none⟩, 1, [(i : Int)]⟩ (wr.setCell ⟨w.heap.size, 4, none⟩ (.int .i64 0)) := by
          refine ⟨a1.set_ 4 _, a2.far (p := ⟨w.heap.size, 4, none⟩) hbn _, ?_, a4.setCell (p := ⟨w.heap.size, 4, none⟩) (Nat.le_refl _) _⟩
          exact World.ownsRow.kept (row := some w.heap.size) a3 ⟨rfl, rfl, rfl, by simp, fun k _ hk => heap_setCell_other wr ⟨w.heap.size, 4, none⟩ k _ (fun e => hk (by simp [e]))⟩ (.inr (Ne.symm (own_blk_ne a3 a1 (by decide))))
        have HA4 := Lib.hid hA4
        clear hA4 a1 a2 a3 a4
        go_wp2_with fail
        generalize (wr.setCell ⟨w.heap.size, 4, none⟩ (.int .i64 0)) = W4 at HA4 ⊢
        clear c3 c4 z4
        obtain ⟨i0, hi, hz0, hz1, hz2⟩ := info_parts info54
        go_cut [8] (fun s8 wx => s8 = .bool false ∧ ∃ mk, Ahead w (.slice X xs.length cx) (.slice Y ys.length cy) mk bb ⟨0, some ⟨w2.heap.size, 0, none⟩, 1, [(i : Int)]⟩ wx)
        case first =>
          have c3 : W4.cell? ⟨w.heap.size, 3, none⟩ = some (.slice none 0 0) := HA4.out.1.cell 3
          have z3 : W4.frozen? ⟨w.heap.size, 3, none⟩ = false := HA4.out.1.frozen 3
          have c5 : W4.cell? ⟨bb, 0, none⟩ = some (.int .i64 0) := HA4.out.2.1.cell 0
          have c6 : W4.cell? ⟨bb, 1, none⟩ = some (.slice (some ⟨w2.heap.size, 0, none⟩) 1 1) := HA4.out.2.1.cell 1
          have hlt := HA4.out.1.lt
          have hltb := HA4.out.2.1.lt
          go_region_law ((refine step_append_lies _ rfl (.tmp 43) (.tmp 45) 52 rfl 0 56 i0 _ 2 32 Try.underlying52 hi hz0 hz1 hz2 rfl (by omega) (.slice none 0 0) 0 [] (by simp [Act.eval]) (World.ownsRow_nil _ _ _ _) ⟨W4.heap.size, 0, none⟩ 1 1 [.int .i64 0, .slice (some ⟨w2.heap.size, 0, none⟩) 1 1] (by simp [Act.eval]) rfl (World.news_of_block (cs := #[.int .i64 0, .slice (some ⟨w2.heap.size, 0, none⟩) 1 1]) (t := 56) (fr := (0, 0)) (heap_alloc_new W4 _)) (by simp [Value.oneCell']) (by omega) (by decide) (by decide) (Nat.zero_le _) (W4.heap.size + 1) (by simp) ?_; intro gg cap w5 hown5 hgrow hat hltg; have hG5 : W4.grownBy w5 none := grown_alloc_drew hgrow; have hb5 := HA4.out.1.grown hG5 (by simp); have c53 : w5.cell? ⟨w.heap.size, 3, none⟩ = some (.slice none 0 0) := hb5.cell 3; have z53 : w5.frozen? ⟨w.heap.size, 3, none⟩ = false := hb5.frozen 3; have HG5 := Lib.hid hG5; clear hG5 hb5 hown5 hgrow))
          all_goals
            go_wp2_with fail
            go_meet
            exact ⟨rfl, _, HA4.out.mark HG5.out _⟩
        case rest =>
          obtain ⟨rfl, mk, hA5⟩ := hcut
          obtain ⟨W5, hW5⟩ : ∃ W5, W5 = wc := ⟨_, rfl⟩
          subst hW5
          have HA5 := Lib.hid hA5
          clear hA5
          go_wp2_with fail
          go_cut [8] (fun s8 wx => s8 = .bool true ∧ ∃ L v, 1 ≤ L.length ∧ Done w xs ys (.slice X xs.length cx) (.slice Y ys.length cy) bb L mk v W5.heap.size #[.int .i64 0, .slice (some ⟨w2.heap.size, 0, none⟩) 1 1] wx)
          case first =>
            have c0 : W5.cell? ⟨w.heap.size, 0, none⟩ = some (.slice X xs.length cx) := HA5.out.1.cell 0
            have c1 : W5.cell? ⟨w.heap.size, 1, none⟩ = some (.slice Y ys.length cy) := HA5.out.1.cell 1
            have c5 : W5.cell? ⟨bb, 0, none⟩ = some (.int .i64 0) := HA5.out.2.1.cell 0
            have c6 : W5.cell? ⟨bb, 1, none⟩ = some (.slice (some ⟨w2.heap.size, 0, none⟩) 1 1) := HA5.out.2.1.cell 1
            have hrise := rise_any ⟨0, some ⟨w2.heap.size, 0, none⟩, 1, [(i : Int)]⟩ X Y xs ys cx cy W5.drew HA5.out.2.2.1 ((hx.below HA5.out.2.2.2).more HA5.out.2.2.2.size) ((hy.below HA5.out.2.2.2).more HA5.out.2.2.2.size) HOK.out hlen
            have HRI : Hid (Calls Try.prog 45 #[.agg #[.slice X xs.length cx, .slice Y ys.length cy], .agg #[.int .i64 0, .slice (some ⟨w2.heap.size, 0, none⟩) 1 1], .int .i64 257] W5.drew fun e w' =>
                ∃ v L, e = .returned (.tuple #[v, .bool true]) ∧ L.length = Pm.D xs ys xs.length ys.length ∧ Fronts W5.drew xs ys (.slice X xs.length cx) (.slice Y ys.length cy) W5.drew.heap.size L v w') := Lib.hid hrise
            have hA5d : Ahead w (.slice X xs.length cx) (.slice Y ys.length cy) mk bb ⟨0, some ⟨w2.heap.size, 0, none⟩, 1, [(i : Int)]⟩ W5.drew := ⟨HA5.out.1, HA5.out.2.1, HA5.out.2.2.1, below_drewN HA5.out.2.2.2 1⟩
            have HAD := Lib.hid hA5d
            clear hrise hA5d
            go_region_with ((go_at_call 45; refine HRI.out.mono ?_; rintro e w6 ⟨v, L, rfl, hl, hF⟩; have hpos : 0 < L.length := (by rw [hl]; exact Nat.lt_of_le_of_lt (Nat.zero_le _) HOK.out.going); obtain ⟨gr, cr, rfl, _, _⟩ := hF.row.form hpos; have hb6 := HAD.out.1.below hF.below HAD.out.1.lt; have c55 : w6.cell? ⟨w.heap.size, 5, none⟩ = some (.slice none 0 0) := hb6.cell 5; have z55 : w6.frozen? ⟨w.heap.size, 5, none⟩ = false := hb6.frozen 5; have HF := Lib.hid hF; have HL := Lib.hid hl; clear hF hl hb6))
            all_goals
              go_wp2_with fail
              go_meet
              exact ⟨rfl, L, _, hpos, done_of HAD.out HF.out HL.out hbb⟩
          case rest =>
            obtain ⟨rfl, L, v, hL1, hDn⟩ := hcut
            obtain ⟨W7, hW7⟩ : ∃ W7, W7 = wc := ⟨_, rfl⟩
            subst hW7
            obtain ⟨n, hn⟩ : ∃ n, L.length = n + 1 := ⟨L.length - 1, by omega⟩
            obtain ⟨f, hfn⟩ : ∃ f, L[n]? = some f := ⟨_, List.getElem?_eq_getElem (by omega)⟩
            obtain ⟨k1, k2⟩ := frCells_at hfn
            have hrow := hDn.2.1
            rw [hn] at hrow
            obtain ⟨gr, cr, rfl, _, _⟩ := hrow.form (Nat.succ_pos n)
            have r1 : W7.cell? ⟨gr, n * 2, none⟩ = some (.int .i64 f.low) := (hrow.cellAt (n * 2) (by omega)).trans (by rw [Nat.mul_comm]; exact k1)
            have r2 : W7.cell? ⟨gr, n * 2 + 1, none⟩ = some (.slice f.A f.far.length f.cap) := (hrow.cellAt (n * 2 + 1) (by omega)).trans (by rw [Nat.mul_comm]; exact k2)
            have r3 : W7.cell? ⟨w.heap.size, 5, none⟩ = some (.slice (some ⟨gr, 0, none⟩) (n + 1) cr) := hDn.1.cell 5
            have r4 : W7.cell? ⟨bb, 0, none⟩ = some (.int .i64 0) := hDn.2.2.2.2.2.1.cell 0
            have r5 : W7.cell? ⟨bb, 1, none⟩ = some (.slice (some ⟨w2.heap.size, 0, none⟩) 1 1) := hDn.2.2.2.2.2.1.cell 1
            have r6 : W7.frozen? ⟨bb, 0, none⟩ = false := hDn.2.2.2.2.2.1.frozen 0
            have r7 : W7.frozen? ⟨bb, 1, none⟩ = false := hDn.2.2.2.2.2.1.frozen 1
            have hn7 : n < 257 := by
              have h1 := hDn.2.2.2.2.1
              have h2 := Pm.D_top (x := xs) (y := ys) (Nat.le_refl _) (Nat.le_refl _)
              omega
            have HDN := Lib.hid hDn
            have HLN := Lib.hid hn
            clear hDn hrow k1 k2 hfn hn
            go_wp2_with fail
            go_region
            all_goals
              go_wp2_with fail
              go_roundg 0
              case measure => omega
              case rel => exact .inr ⟨rfl, rfl, L, mk, _, _, _, hL1, ((HDN.out.set 0 _).set 1 _).drew⟩
      · obtain ⟨L, mk, v, B, cs, hL1, hDn⟩ := hDn
        obtain ⟨gr, cr, rfl, _, _⟩ := hDn.2.1.form hL1
        have r3 : wr.cell? ⟨w.heap.size, 5, none⟩ = some (.slice (some ⟨gr, 0, none⟩) L.length cr) := hDn.1.cell 5
        have r4 : wr.cell? ⟨w.heap.size, 4, none⟩ = some (.int .i64 0) := hDn.1.cell 4
        have r5 : wr.cell? ⟨w.heap.size, 2, none⟩ = some (.int .i64 0) := hDn.1.cell 2
        have r6 : wr.frozen? ⟨w.heap.size, 2, none⟩ = false := hDn.1.frozen 2
        have hLd := hDn.2.2.2.2.1
        have HDN := Lib.hid hDn
        have HW : Hid (wrap64 (L.length : Int) = (Pm.D xs ys xs.length ys.length : Nat)) := Lib.hid (by
          have h2 := Pm.D_top (x := xs) (y := ys) (Nat.le_refl _) (Nat.le_refl _)
          rw [← hLd] at h2 ⊢
          unfold wrap64
          omega)
        clear hDn hLd
        go_wp2_with fail
        go_region
        all_goals
          go_wp2_with fail
          go_ret
          rw [HW.out]
          obtain ⟨e1, e2⟩ := trail_of HDN.out
          exact ⟨L, mk, _, rfl, ⟨e1.blk, e1.row, e1.own, e1.ok, e1.len⟩, below_drewN e2 1⟩

end Go.Proofs.Ytmonemgjgcfhlaa
