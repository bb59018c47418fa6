/-
  Package cache: own: a cache in memory of its own; nothing that was there is changed.
-/
import Derived.Test.YtjifmfgfmciaeaaCiC
import Derived.Test.YtjifmfgfmciaeaaLca
import Derived.StillTailTactics
namespace Go.Proofs.Ytjifmfgfmciaeaa
open Go.RowKit

/-- the block in which the parts of a cache lie that a call has made: each part lies in new memory, and not in that block -/
structure OwnP (w w' : World) (g : Nat) (cs : Array Value) (P : List (List Sl)) : Prop where
  blk : Blk w' g 58 cs
  size : cs.size = P.length
  rows : ∀ (i : Nat) (L : List Sl), P[i]? = some L → ∃ (B : Option Addr) (c : Nat), cs[i]? = some (Value.slice B L.length c) ∧ SlotsAt w' B L ∧ L.length ≤ c ∧ ∀ b, B = some b → w.heap.size ≤ b.block ∧ b.block ≠ g
  ge : w.heap.size ≤ g
  below : Below w.heap.size w w'
theorem OwnP.up {w w' w2 : World} {g : Nat} {cs : Array Value} {P : List (List Sl)} (h : OwnP w w' g cs P) (hb : Below w'.heap.size w' w2) : OwnP w w2 g cs P :=
  ⟨Blk.below h.blk hb h.blk.lt, h.size, fun i L hi => by
    obtain ⟨B, c, h1, h2, h3, h4⟩ := h.rows i L hi
    exact ⟨B, c, h1, h2.up hb, h3, h4⟩, h.ge, h.below.trans (hb.mono h.below.size)⟩
theorem OwnP.parts {w w' : World} {g : Nat} {cs : Array Value} {P : List (List Sl)} (h : OwnP w w' g cs P) {X : Nat → Prop} (hX : ∀ b, X b → b < w.heap.size) : PartsAt X w' (some ⟨g, 0, none⟩) P := fun _ => by
  refine ⟨_, rfl, h.blk.lt, fun hx => by have := hX _ hx; have := h.ge; simp only at *; omega, fun i L hi => ?_⟩
  obtain ⟨B, c, h1, h2, h3, h4⟩ := h.rows i L hi
  refine ⟨B, c, ?_, h2, h3, fun b _ eb hx => by have := hX _ hx; have := (h4 b eb).1; omega⟩
  rw [add_zero_block, h.blk.cell]
  exact h1
/-- one part becomes another one -/
theorem OwnP.put {w w' : World} {g : Nat} {cs : Array Value} {P : List (List Sl)} (h : OwnP w w' g cs P) {i : Nat} {B : Option Addr} {L : List Sl} {c : Nat} (hs : SlotsAt w' B L) (hc : L.length ≤ c) (hB : ∀ b, B = some b → w.heap.size ≤ b.block ∧ b.block ≠ g) :
    OwnP w (w'.setCell ⟨g, i, none⟩ (.slice B L.length c)) g (cs.setIfInBounds i (.slice B L.length c)) (P.set i L) := by
  have hgr : w'.grownBy (w'.setCell ⟨g, i, none⟩ (.slice B L.length c)) (some g) := grown_set _ _ _ _
  refine ⟨Blk.set_ h.blk i _, by rw [Array.size_setIfInBounds, List.length_set]; exact h.size, fun j M hj => ?_, h.ge, h.below.setCell h.ge _⟩
  rw [List.getElem?_set] at hj
  by_cases e : i = j
  · subst e
    rw [if_pos rfl] at hj
    split at hj
    · rename_i hlt
      injection hj with hj
      subst hj
      exact ⟨B, c, Array.getElem?_setIfInBounds_self_of_lt (by rw [h.size]; exact hlt), RowAt.kept_grown hs hgr (fun a ea e => (hB a ea).2 (Option.some.inj e).symm), hc, hB⟩
    · cases hj
  · rw [if_neg e] at hj
    obtain ⟨B', c', h1, h2, h3, h4⟩ := h.rows j M hj
    exact ⟨B', c', by rw [Array.getElem?_setIfInBounds_ne e]; exact h1, RowAt.kept_grown h2 hgr (fun a ea e => (h4 a ea).2 (Option.some.inj e).symm), h3, h4⟩
def OwnTold (c : Ca) (w : World) (e : Ending) (w' : World) : Prop :=
  ∃ (g : Nat) (cs : Array Value) (n : Nat), e = .returned (.agg #[.int .i64 c.width, .int .i64 c.room, .slice (some ⟨g, 0, none⟩) n n, .int .i64 c.hits, .int .i64 c.misses, .int .i64 c.clashes, .int .i64 c.evicted]) ∧ c.parts.length = n ∧ OwnP w w' g cs c.parts

/-- between two rounds over the parts -/
structure OutIn (w1 wr : World) (g : Nat) (cs : Array Value) (P : List (List Sl)) (k : Nat) : Prop where
  blk : Blk wr g 58 cs
  size : cs.size = P.length
  rows : ∀ (i : Nat) (L : List Sl), i < k → P[i]? = some L → ∃ (h c : Nat), cs[i]? = some (Value.slice (some ⟨h, 0, none⟩) L.length c) ∧ SlotsAt wr (some ⟨h, 0, none⟩) L ∧ L.length ≤ c ∧ w1.heap.size ≤ h
  grown : w1.grownBy wr (some g)
  gl : g < w1.heap.size
/-- between two rounds over the slots of a part -/
structure InIn (w5 wr : World) (h : Nat) (ds : Array Value) (L : List Sl) (k : Nat) : Prop where
  blk : Blk wr h 63 ds
  size : ds.size = L.length * 5
  filled : Filled Sl.cells 5 ds L k
  grown : w5.grownBy wr (some h)
theorem InIn.step {w5 wr w2 : World} {h k : Nat} {ds : Array Value} {L : List Sl} {x : Sl} (s : InIn w5 wr h ds L k) (hx : L[k]? = some x) (hb : Below wr.heap.size wr w2) :
    InIn w5 (((((w2.setCell ⟨h, k * 5, none⟩ (.int .u64 x.sum)).setCell ⟨h, k * 5 + 1, none⟩ (.int .i64 x.len)).setCell ⟨h, k * 5 + 2, none⟩ (.string x.left)).setCell ⟨h, k * 5 + 3, none⟩ (.string x.right)).setCell ⟨h, k * 5 + 4, none⟩ (.string x.val)) h (putAt ds (k * 5) x.cells) L (k + 1) := by
  have hk := (List.getElem?_eq_some_iff.1 hx).1
  have g2 : w5.grownBy w2 (some h) := s.grown.trans (grown_of_below hb _)
  exact ⟨((((Blk.set_ (Blk.below s.blk hb s.blk.lt) (k * 5) _).set_ (k * 5 + 1) _).set_ (k * 5 + 2) _).set_ (k * 5 + 3) _).set_ (k * 5 + 4) _, by rw [putAt_size, s.size], s.filled.put sl_len hx (by rw [s.size]; omega),
    ((((g2.trans (grown_set _ _ _ _)).trans (grown_set _ _ _ _)).trans (grown_set _ _ _ _)).trans (grown_set _ _ _ _)).trans (grown_set _ _ _ _)⟩
theorem grown_both {w1 w2 w3 : World} {g h : Nat} (a : w1.grownBy w2 (some g)) (b : w2.grownBy w3 (some h)) (hh : w1.heap.size ≤ h) : w1.grownBy w3 (some g) :=
  ⟨b.os.trans a.os, b.tape.trans a.tape, b.output.trans a.output, Nat.le_trans a.size b.size, fun k hk hne => (b.block k (Nat.lt_of_lt_of_le hk a.size) (fun e => by injection e with e; omega)).trans (a.block k hk hne)⟩
/-- one part more: w5 has the part's new block h, which w6 fills -/
theorem OutIn.step {w1 wr w5 w6 : World} {g h k : Nat} {cs ds : Array Value} {P : List (List Sl)} {L : List Sl} (s : OutIn w1 wr g cs P k) (hL : P[k]? = some L) (hb5 : Blk w5 g 58 (cs.setIfInBounds k (.slice (some ⟨h, 0, none⟩) L.length L.length))) (gr : wr.grownBy w5 (some g)) (hh : wr.heap.size ≤ h)
    (f : InIn w5 w6 h ds L L.length) : OutIn w1 w6 g (cs.setIfInBounds k (.slice (some ⟨h, 0, none⟩) L.length L.length)) P (k + 1) := by
  have hk := (List.getElem?_eq_some_iff.1 hL).1
  have hgl := s.blk.lt
  have g4 : w1.grownBy w5 (some g) := s.grown.trans gr
  have h1h : w1.heap.size ≤ h := Nat.le_trans s.grown.size hh
  refine ⟨Blk.grown hb5 f.grown (fun e => by injection e with e; omega), by rw [Array.size_setIfInBounds]; exact s.size, fun i M hi hM => ?_, grown_both g4 f.grown h1h, s.gl⟩
  by_cases e : i = k
  · subst e
    rw [hL] at hM
    injection hM with hM
    subst hM
    exact ⟨h, L.length, Array.getElem?_setIfInBounds_self_of_lt (by rw [s.size]; exact hk), f.filled.at_ f.blk, Nat.le_refl _, h1h⟩
  · obtain ⟨h', c', e1, e2, e3, e4⟩ := s.rows i M (by omega) hM
    refine ⟨h', c', by rw [Array.getElem?_setIfInBounds_ne (fun e' => e e'.symm)]; exact e1, ?_, e3, e4⟩
    by_cases hM0 : M = []
    · subst hM0; exact RowAt.nil
    obtain ⟨a, ea, hal2, _⟩ := e2 hM0
    injection ea with ea
    have hlt : h' < wr.heap.size := by rw [← ea] at hal2; exact hal2
    have hg' : h' ≠ g := by have := s.gl; omega
    exact RowAt.kept_grown (RowAt.kept_grown e2 gr (fun a ea e => by injection ea with ea; rw [← ea] at e; exact hg' (Option.some.inj e).symm)) f.grown (fun a ea e => by injection ea with ea; rw [← ea] at e; have := Option.some.inj e; simp only at this; omega)

/-- the parts, each in memory that was not there in w1 -/
structure Rows3 (w1 W : World) (g : Nat) (cs : Array Value) (P : List (List Sl)) : Prop where
  blk : Blk W g 58 cs
  size : cs.size = P.length
  rows : ∀ (i : Nat) (L : List Sl), P[i]? = some L → ∃ (h c : Nat), cs[i]? = some (Value.slice (some ⟨h, 0, none⟩) L.length c) ∧ SlotsAt W (some ⟨h, 0, none⟩) L ∧ L.length ≤ c ∧ w1.heap.size ≤ h
  gl : g < w1.heap.size
theorem OutIn.rows3 {w1 W : World} {g : Nat} {cs : Array Value} {P : List (List Sl)} (s : OutIn w1 W g cs P P.length) : Rows3 w1 W g cs P := ⟨s.blk, s.size, fun i L hi => s.rows i L (List.getElem?_eq_some_iff.1 hi).1 hi, s.gl⟩
theorem Rows3.kept {w1 W W' : World} {g r : Nat} {cs : Array Value} {P : List (List Sl)} (s : Rows3 w1 W g cs P) (hg : W.grownBy W' (some r)) (hr : r < w1.heap.size) (hn : r ≠ g) : Rows3 w1 W' g cs P :=
  ⟨Blk.grown s.blk hg (fun e => hn (Option.some.inj e).symm), s.size, fun i L hi => by
    obtain ⟨h, c, h1, h2, h3, h4⟩ := s.rows i L hi
    exact ⟨h, c, h1, RowAt.kept_grown h2 hg (fun a ea e => by injection ea with ea; rw [← ea] at e; have := Option.some.inj e; simp only at this; omega), h3, h4⟩, s.gl⟩
theorem Rows3.own {w w1 W : World} {g : Nat} {cs : Array Value} {P : List (List Sl)} (s : Rows3 w1 W g cs P) (hw : w.heap.size ≤ w1.heap.size) (hg : w.heap.size ≤ g) (hb : Below w.heap.size w W) : OwnP w W g cs P :=
  ⟨s.blk, s.size, fun i L hi => by
    obtain ⟨h, c, h1, h2, h3, h4⟩ := s.rows i L hi
    exact ⟨_, c, h1, h2, h3, fun b eb => by injection eb with eb; rw [← eb]; exact ⟨Nat.le_trans hw h4, by have := s.gl; simp only; omega⟩⟩, hg, hb⟩
set_option maxHeartbeats 8000000 in
set_option maxRecDepth 100000 in
theorem cown_any (c : Ca) (A : Option Addr) (n cap : Nat) (w : World) {X : Nat → Prop} (ha : PartsAt X w A c.parts) (hn : c.parts.length = n) (hf : CaFit c) :
    Calls Try.prog 35 #[.agg #[.int .i64 c.width, .int .i64 c.room, .slice A n cap, .int .i64 c.hits, .int .i64 c.misses, .int .i64 c.clashes, .int .i64 c.evicted]] w (OwnTold c w) := by
  subst hn
  have HA := Lib.hid ha
  have HF := Lib.hid hf
  have hlen := hf.len
  clear ha hf
  have hmk := make_parts c.parts.length hlen
  go_enter Try.func35, Try.ntmps35
  go_upto_region 2 with (fail)
  clear hmk
  have hb1 : Blk (((w.alloc (.cells #[.int .i64 c.width, .int .i64 c.room, .slice A c.parts.length cap, .int .i64 c.hits, .int .i64 c.misses, .int .i64 c.clashes, .int .i64 c.evicted] 28)).alloc (.cells #[.int .i64 0, .int .i64 0, .slice none 0 0, .int .i64 0, .int .i64 0, .int .i64 0, .int .i64 0] 28)).alloc (.cells (madeCells #[.slice none 0 0] c.parts.length) 58)) w.heap.size 28 #[.int .i64 c.width, .int .i64 c.room, .slice A c.parts.length cap, .int .i64 c.hits, .int .i64 c.misses, .int .i64 c.clashes, .int .i64 c.evicted] := ((Blk.new w _ _).alloc _).alloc _
  have hb2 : Blk (((w.alloc (.cells #[.int .i64 c.width, .int .i64 c.room, .slice A c.parts.length cap, .int .i64 c.hits, .int .i64 c.misses, .int .i64 c.clashes, .int .i64 c.evicted] 28)).alloc (.cells #[.int .i64 0, .int .i64 0, .slice none 0 0, .int .i64 0, .int .i64 0, .int .i64 0, .int .i64 0] 28)).alloc (.cells (madeCells #[.slice none 0 0] c.parts.length) 58)) (w.heap.size + 1) 28 #[.int .i64 0, .int .i64 0, .slice none 0 0, .int .i64 0, .int .i64 0, .int .i64 0, .int .i64 0] := by
    have := (Blk.new (w.alloc (.cells #[.int .i64 c.width, .int .i64 c.room, .slice A c.parts.length cap, .int .i64 c.hits, .int .i64 c.misses, .int .i64 c.clashes, .int .i64 c.evicted] 28)) 28 #[.int .i64 0, .int .i64 0, .slice none 0 0, .int .i64 0, .int .i64 0, .int .i64 0, .int .i64 0]).alloc (.cells (madeCells #[.slice none 0 0] c.parts.length) 58)
    simpa using this
  have hb3 : Blk (((w.alloc (.cells #[.int .i64 c.width, .int .i64 c.room, .slice A c.parts.length cap, .int .i64 c.hits, .int .i64 c.misses, .int .i64 c.clashes, .int .i64 c.evicted] 28)).alloc (.cells #[.int .i64 0, .int .i64 0, .slice none 0 0, .int .i64 0, .int .i64 0, .int .i64 0, .int .i64 0] 28)).alloc (.cells (madeCells #[.slice none 0 0] c.parts.length) 58)) (w.heap.size + 2) 58 (madeCells #[.slice none 0 0] c.parts.length) := by
    have := Blk.new ((w.alloc (.cells #[.int .i64 c.width, .int .i64 c.room, .slice A c.parts.length cap, .int .i64 c.hits, .int .i64 c.misses, .int .i64 c.clashes, .int .i64 c.evicted] 28)).alloc (.cells #[.int .i64 0, .int .i64 0, .slice none 0 0, .int .i64 0, .int .i64 0, .int .i64 0, .int .i64 0] 28)) 58 (madeCells #[.slice none 0 0] c.parts.length)
    simpa using this
  have hw0 : Below w.heap.size w (((w.alloc (.cells #[.int .i64 c.width, .int .i64 c.room, .slice A c.parts.length cap, .int .i64 c.hits, .int .i64 c.misses, .int .i64 c.clashes, .int .i64 c.evicted] 28)).alloc (.cells #[.int .i64 0, .int .i64 0, .slice none 0 0, .int .i64 0, .int .i64 0, .int .i64 0, .int .i64 0] 28)).alloc (.cells (madeCells #[.slice none 0 0] c.parts.length) 58)) := (((Below.refl _ _).alloc (Nat.le_refl _) _).alloc (by simp) _).alloc (by simp <;> omega) _
  obtain ⟨w1, hw1⟩ : ∃ w1, w1 = (((w.alloc (.cells #[.int .i64 c.width, .int .i64 c.room, .slice A c.parts.length cap, .int .i64 c.hits, .int .i64 c.misses, .int .i64 c.clashes, .int .i64 c.evicted] 28)).alloc (.cells #[.int .i64 0, .int .i64 0, .slice none 0 0, .int .i64 0, .int .i64 0, .int .i64 0, .int .i64 0] 28)).alloc (.cells (madeCells #[.slice none 0 0] c.parts.length) 58)) := ⟨_, rfl⟩
  obtain ⟨r1, hr1⟩ : ∃ r1, r1 = w.heap.size := ⟨_, rfl⟩
  obtain ⟨r2, hr2⟩ : ∃ r2, r2 = w.heap.size + 1 := ⟨_, rfl⟩
  obtain ⟨g, hg⟩ : ∃ g, g = w.heap.size + 2 := ⟨_, rfl⟩
  rw [← hw1] at hb1 hb2 hb3 hw0 ⊢
  rw [← hg] at hb3 ⊢
  rw [← hr2] at hb2 ⊢
  rw [← hr1] at hb1
  rw [show (⟨w.heap.size, 0, none⟩ : Addr) = ⟨r1, 0, none⟩ from by rw [hr1]]
  have HN : Hid (r1 ≠ g ∧ r2 ≠ g ∧ r2 ≠ r1 ∧ w.heap.size ≤ r1 ∧ w.heap.size ≤ r2 ∧ w.heap.size ≤ g) := Lib.hid (by omega)
  have HB1 := Lib.hid hb1
  have HB2 := Lib.hid hb2
  have HW1 := Lib.hid hw0
  have HG3 := Lib.hid hb3
  obtain ⟨x0, x1, x2, x3, x4, x5, x6⟩ := box7 HB1.out (Below.refl _ _)
  have HO0 : Hid (OutIn w1 w1 g (madeCells #[.slice none 0 0] c.parts.length) c.parts 0) := Lib.hid ⟨hb3, by rw [size_madeCells], fun i L h => absurd h (Nat.not_lt_zero _), World.grownBy.refl _ _, hb3.lt⟩
  clear hb1 hb2 hb3 hw0 hw1 hr1 hr2 hg
  go_wp2_with fail
  clear x0 x1 x2 x3 x4 x5 x6
  go_loopw [15] (fun i wr => ∃ (k : Nat) (cs : Array Value), k ≤ c.parts.length ∧ i = .int .i64 k ∧ Hid (OutIn w1 wr g cs c.parts k)) (fun i _ => c.parts.length - (intOf i).toNat)
  case atStart => exact ⟨0, _, Nat.zero_le _, rfl, HO0⟩
  case round =>
    obtain ⟨k, cs, hk, rfl, HV⟩ := hrel
    obtain ⟨w2, rfl⟩ : ∃ w2, w2 = wr := ⟨_, rfl⟩
    have HWB : Hid (Below w.heap.size w w2) := Lib.hid (HW1.out.grown HV.out.grown HW1.out.size (fun b e => by injection e with e; rw [← e]; exact HN.out.2.2.2.2.2))
    by_cases g1 : k < c.parts.length
    · obtain ⟨L, hL⟩ : ∃ L, c.parts[k]? = some L := ⟨_, List.getElem?_eq_getElem g1⟩
      obtain ⟨a, B, cl, rfl, hal0, hcell0, hSB, hcl⟩ := HA.out.at_ hL
      have hcell : w2.cell? (a.add k) = some (.slice B L.length cl) := (HWB.out.cell (by rw [add_block]; exact hal0)).trans hcell0
      have hal : a.block < w2.heap.size := Nat.lt_of_lt_of_le hal0 HWB.out.size
      have hLc := HF.out.each L (List.mem_of_getElem? hL)
      have l1 : L.length ≤ 1000 := hLc.1
      have HFT := Lib.hid (fitS_of hLc.2)
      have HL := Lib.hid hL
      have HSU : Hid (∀ W, Below w.heap.size w W → SlotsAt W B L) := Lib.hid fun W hW => hSB.up hW
      obtain ⟨ds0, hds0, hmk2⟩ := make_slots L.length (by omega) w2
      have hgl := HV.out.blk.lt
      obtain ⟨vk, hvk⟩ : ∃ v, cs[k]? = some v := ⟨_, Array.getElem?_eq_getElem (by rw [HV.out.size]; exact g1)⟩
      have hbg := HV.out.blk.alloc (.cells ds0 63)
      have zk := (Blk.cell hbg k).trans hvk
      have qk := Blk.frozen hbg k
      have ha2 := add_zero_block g k
      have HDS := Lib.hid hds0
      clear hL hSB hLc hcl hds0 hvk hbg hal0 hcell0
      go_upto_region 6 with (fail)
      have hgh : w2.heap.size = (w2.setCell ⟨g, k, none⟩ (.slice (some ⟨w2.heap.size, 0, none⟩) L.length L.length)).heap.size := by simp
      have hbh : Blk ((w2.setCell ⟨g, k, none⟩ (.slice (some ⟨w2.heap.size, 0, none⟩) L.length L.length)).alloc (.cells ds0 63)) w2.heap.size 63 ds0 := by
        have := Blk.new (w2.setCell ⟨g, k, none⟩ (.slice (some ⟨w2.heap.size, 0, none⟩) L.length L.length)) 63 ds0
        rwa [← hgh] at this
      have hbg5 : Blk ((w2.setCell ⟨g, k, none⟩ (.slice (some ⟨w2.heap.size, 0, none⟩) L.length L.length)).alloc (.cells ds0 63)) g 58 (cs.setIfInBounds k (.slice (some ⟨w2.heap.size, 0, none⟩) L.length L.length)) := (Blk.set_ HV.out.blk k _).alloc _
      have hw5b : Below w.heap.size w ((w2.setCell ⟨g, k, none⟩ (.slice (some ⟨w2.heap.size, 0, none⟩) L.length L.length)).alloc (.cells ds0 63)) := (HWB.out.setCell HN.out.2.2.2.2.2 _).alloc (by rw [← hgh]; exact HWB.out.size) _
      have hgr5 : w2.grownBy ((w2.setCell ⟨g, k, none⟩ (.slice (some ⟨w2.heap.size, 0, none⟩) L.length L.length)).alloc (.cells ds0 63)) (some g) := (grown_set _ _ _ _).trans (World.grownBy_alloc _ _ _)
      clear hgh
      obtain ⟨h, hh⟩ : ∃ h, h = w2.heap.size := ⟨_, rfl⟩
      have HHS : Hid (w2.heap.size ≤ h) := Lib.hid (by omega)
      rw [← hh] at hbh hbg5 hw5b hgr5 ⊢
      obtain ⟨w5, hw5⟩ : ∃ w5, w5 = (w2.setCell ⟨g, k, none⟩ (.slice (some ⟨h, 0, none⟩) L.length L.length)).alloc (.cells ds0 63) := ⟨_, rfl⟩
      rw [← hw5] at hbh hbg5 hw5b hgr5 ⊢
      have HGR5 := Lib.hid hgr5
      have HW5B := Lib.hid hw5b
      have HBG5 := Lib.hid hbg5
      have HHN : Hid (g ≠ h ∧ w.heap.size ≤ h) := Lib.hid (by have := HWB.out.size; omega)
      have HGK : Hid ((cs.setIfInBounds k (.slice (some ⟨h, 0, none⟩) L.length L.length))[k]? = some (.slice (some ⟨h, 0, none⟩) L.length L.length)) := Lib.hid (Array.getElem?_setIfInBounds_self_of_lt (by rw [HV.out.size]; exact g1))
      have HI0 : Hid (InIn w5 w5 h ds0 L 0) := Lib.hid ⟨hbh, HDS.out, fun i x hi => absurd hi (Nat.not_lt_zero _), World.grownBy.refl _ _⟩
      clear hbh hbg5 hw5b hgr5 hw5 hh hmk2 zk qk ha2 hgl hcell hal
      go_wp2_with fail
      go_loopw [28] (fun j wr => ∃ (k2 : Nat) (ds : Array Value), k2 ≤ L.length ∧ j = .int .i64 k2 ∧ Hid (InIn w5 wr h ds L k2)) (fun j _ => L.length - (intOf j).toNat)
      case atStart => exact ⟨0, _, Nat.zero_le _, rfl, HI0⟩
      case round =>
        obtain ⟨k2, ds, hk2, rfl, HV2⟩ := hrel
        obtain ⟨w8, rfl⟩ : ∃ w8, w8 = wr := ⟨_, rfl⟩
        have HW8B : Hid (Below w.heap.size w w8) := Lib.hid (HW5B.out.grown HV2.out.grown HW5B.out.size (fun b e => by injection e with e; rw [← e]; exact HHN.out.2))
        have HBG8 := Lib.hid (Blk.grown HBG5.out HV2.out.grown (fun e => HHN.out.1 (Option.some.inj e)))
        by_cases g2 : k2 < L.length
        · obtain ⟨x, hx⟩ : ∃ x, L[k2]? = some x := ⟨_, List.getElem?_eq_getElem g2⟩
          obtain ⟨b, rfl, hbl, c0, c1, c2, c3, c4⟩ := slots_fields (HSU.out w8 HW8B.out) hx
          have hfx := (HFT.out x (List.mem_of_getElem? hx)).1
          have HFleft := Lib.hid hfx.1
          have HFright := Lib.hid hfx.2.1
          have HFval := Lib.hid hfx.2.2
          have HX := Lib.hid hx
          clear hx hfx
          go_upto_region 9 with (fail)
          clear c0 c1 c2 c3 c4 hbl
          have hbx := Blk.new w8 63 #[.int .u64 x.sum, .int .i64 x.len, .string x.left, .string x.right, .string x.val]
          have hal : Below w8.heap.size w8 (w8.alloc (.cells #[.int .u64 x.sum, .int .i64 x.len, .string x.left, .string x.right, .string x.val] 63)) := (Below.refl _ _).alloc (Nat.le_refl _) _
          obtain ⟨wb, hwb⟩ : ∃ wb, wb = w8.alloc (.cells #[.int .u64 x.sum, .int .i64 x.len, .string x.left, .string x.right, .string x.val] 63) := ⟨_, rfl⟩
          obtain ⟨gs, hgs⟩ : ∃ gs, gs = w8.heap.size := ⟨_, rfl⟩
          rw [← hwb] at hbx hal ⊢
          rw [← hgs] at hbx ⊢
          have HGS : Hid (w8.heap.size ≤ gs) := Lib.hid (by omega)
          have HSB := Lib.hid hbx
          have HSW := Lib.hid hal
          clear hbx hal hwb hgs
          refine wp_region_noPanic ?_
          refine wp_region_held_drew (S := fun W => Blk W gs 63 #[.int .u64 x.sum, .int .i64 x.len, .string x.left, .string x.right, .string x.val] ∧ Below w8.heap.size w8 W) (by kernel_rfl) (⟨HSB.out, HSW.out.drew⟩) (fun hS0 => ?_)
          change wpAnyH _ _ _ _ _ 15 #[false, false, false, false, false, false, false, false, false, false, false, false, false, false, false] _ (World.drew _)
          refine wpAnyH_take (i := 0) (v := .pointer (some ⟨gs, 2, none⟩)) rfl (by kernel_rfl) (by kernel_rfl) (by kernel_rfl) (fun _ _ _ h => h) (Or.inl ⟨by rfl, fun w' hS' => by go_simp⟩) hS0 ?_
          change wpAnyH _ _ _ _ _ _ _ (Act.put _ (some 33) (.pointer (some ⟨gs, 2, none⟩))) _
          simp only [Act.put, List.setIfInBounds_toArray, List.set_cons_zero, List.set_cons_succ]
          refine wpAnyH_take (i := 1) (v := .string x.left) rfl (by kernel_rfl) (by kernel_rfl) (by kernel_rfl) (fun _ _ _ h => h) (Or.inl ⟨by rfl, fun w' hS' => by obtain ⟨u0, u1, u2, u3, u4⟩ := slot_cells5 hS'.1; go_simp⟩) hS0 ?_
          change wpAnyH _ _ _ _ _ _ _ (Act.put _ (some 34) (.string x.left)) _
          simp only [Act.put, List.setIfInBounds_toArray, List.set_cons_zero, List.set_cons_succ]
          refine wpAnyH_take (i := 3) (v := .pointer (some ⟨gs, 3, none⟩)) rfl (by kernel_rfl) (by kernel_rfl) (by kernel_rfl) (fun _ _ _ h => h) (Or.inl ⟨by rfl, fun w' hS' => by go_simp⟩) hS0 ?_
          change wpAnyH _ _ _ _ _ _ _ (Act.put _ (some 36) (.pointer (some ⟨gs, 3, none⟩))) _
          simp only [Act.put, List.setIfInBounds_toArray, List.set_cons_zero, List.set_cons_succ]
          refine wpAnyH_take (i := 4) (v := .string x.right) rfl (by kernel_rfl) (by kernel_rfl) (by kernel_rfl) (fun _ _ _ h => h) (Or.inl ⟨by rfl, fun w' hS' => by obtain ⟨u0, u1, u2, u3, u4⟩ := slot_cells5 hS'.1; go_simp⟩) hS0 ?_
          change wpAnyH _ _ _ _ _ _ _ (Act.put _ (some 37) (.string x.right)) _
          simp only [Act.put, List.setIfInBounds_toArray, List.set_cons_zero, List.set_cons_succ]
          refine wpAnyH_take (i := 6) (v := .pointer (some ⟨gs, 4, none⟩)) rfl (by kernel_rfl) (by kernel_rfl) (by kernel_rfl) (fun _ _ _ h => h) (Or.inl ⟨by rfl, fun w' hS' => by go_simp⟩) hS0 ?_
          change wpAnyH _ _ _ _ _ _ _ (Act.put _ (some 39) (.pointer (some ⟨gs, 4, none⟩))) _
          simp only [Act.put, List.setIfInBounds_toArray, List.set_cons_zero, List.set_cons_succ]
          refine wpAnyH_take (i := 7) (v := .string x.val) rfl (by kernel_rfl) (by kernel_rfl) (by kernel_rfl) (fun _ _ _ h => h) (Or.inl ⟨by rfl, fun w' hS' => by obtain ⟨u0, u1, u2, u3, u4⟩ := slot_cells5 hS'.1; go_simp⟩) hS0 ?_
          change wpAnyH _ _ _ _ _ _ _ (Act.put _ (some 40) (.string x.val)) _
          simp only [Act.put, List.setIfInBounds_toArray, List.set_cons_zero, List.set_cons_succ]
          refine wpAnyH_ready (rs := [2]) (by kernel_rfl) (by simp) (AllReadyH.cons rfl (fun K hK => ?_) (AllReadyH.nil))
          · skip
            go_simp
            refine (clone_any x.left _ HFleft.out).mono ?_
            rintro e W1 ⟨rfl, hb3⟩
            refine hK.out _ _ ⟨Blk.below hS0.1 hb3 hS0.1.lt, hS0.2.trans (hb3.mono hS0.2.size)⟩ (fun hS2 => ?_)
            clear hK K
            simp only [List.setIfInBounds_toArray, List.set_cons_zero, List.set_cons_succ]
            refine wpAnyH_take (i := 9) (v := .pointer (some ⟨gs, 2, none⟩)) rfl (by kernel_rfl) (by kernel_rfl) (by kernel_rfl) (fun _ _ _ h => h) (Or.inl ⟨by rfl, fun w' hS' => by go_simp⟩) hS2 ?_
            change wpAnyH _ _ _ _ _ _ _ (Act.put _ (some 42) (.pointer (some ⟨gs, 2, none⟩))) _
            simp only [Act.put, List.setIfInBounds_toArray, List.set_cons_zero, List.set_cons_succ]
            refine wpAnyH_ready (rs := [5]) (by kernel_rfl) (by simp) (AllReadyH.cons rfl (fun K hK => ?_) (AllReadyH.nil))
            · skip
              go_simp
              refine (clone_any x.right _ HFright.out).mono ?_
              rintro e W4 ⟨rfl, hb6⟩
              refine hK.out _ _ ⟨Blk.below hS2.1 hb6 hS2.1.lt, hS2.2.trans (hb6.mono hS2.2.size)⟩ (fun hS5 => ?_)
              clear hK K
              simp only [List.setIfInBounds_toArray, List.set_cons_zero, List.set_cons_succ]
              refine wpAnyH_ready (rs := [8]) (by kernel_rfl) (by simp) (AllReadyH.cons rfl (fun K hK => ?_) (AllReadyH.nil))
              · skip
                go_simp
                refine (clone_any x.val _ HFval.out).mono ?_
                rintro e W7 ⟨rfl, hb9⟩
                refine hK.out _ _ ⟨Blk.below hS5.1 hb9 hS5.1.lt, hS5.2.trans (hb9.mono hS5.2.size)⟩ (fun hS8 => ?_)
                clear hK K
                simp only [List.setIfInBounds_toArray, List.set_cons_zero, List.set_cons_succ]
                refine wpAnyH_ready (rs := [10]) (by kernel_rfl) (by simp) (AllReadyH.cons rfl (fun K hK => ?_) (AllReadyH.nil))
                · skip
                  refine step_op_skip (op_store_own (j := 2) (s := x.left) hS8.1 (by rfl) rfl rfl rfl) rfl ?_
                  refine hK.out _ _ ⟨Blk.set_ hS8.1 2 (.string x.left), hS8.2.setCell HGS.out _⟩ (fun hS10 => ?_)
                  clear hK K
                  change wpAnyH _ _ _ _ _ _ _ (Act.put _ none (undef)) _
                  simp only [Act.put]
                  refine wpAnyH_take (i := 11) (v := .pointer (some ⟨gs, 3, none⟩)) rfl (by kernel_rfl) (by kernel_rfl) (by kernel_rfl) (fun _ _ _ h => h) (Or.inl ⟨by rfl, fun w' hS' => by go_simp⟩) hS10 ?_
                  change wpAnyH _ _ _ _ _ _ _ (Act.put _ (some 43) (.pointer (some ⟨gs, 3, none⟩))) _
                  simp only [Act.put, List.setIfInBounds_toArray, List.set_cons_zero, List.set_cons_succ]
                  refine wpAnyH_ready (rs := [12]) (by kernel_rfl) (by simp) (AllReadyH.cons rfl (fun K hK => ?_) (AllReadyH.nil))
                  · skip
                    refine step_op_skip (op_store_own (j := 3) (s := x.right) hS10.1 (by rfl) rfl rfl rfl) rfl ?_
                    refine hK.out _ _ ⟨Blk.set_ hS10.1 3 (.string x.right), hS10.2.setCell HGS.out _⟩ (fun hS11 => ?_)
                    clear hK K
                    change wpAnyH _ _ _ _ _ _ _ (Act.put _ none (undef)) _
                    simp only [Act.put]
                    refine wpAnyH_take (i := 13) (v := .pointer (some ⟨gs, 4, none⟩)) rfl (by kernel_rfl) (by kernel_rfl) (by kernel_rfl) (fun _ _ _ h => h) (Or.inl ⟨by rfl, fun w' hS' => by go_simp⟩) hS11 ?_
                    change wpAnyH _ _ _ _ _ _ _ (Act.put _ (some 44) (.pointer (some ⟨gs, 4, none⟩))) _
                    simp only [Act.put, List.setIfInBounds_toArray, List.set_cons_zero, List.set_cons_succ]
                    refine wpAnyH_ready (rs := [14]) (by kernel_rfl) (by simp) (AllReadyH.cons rfl (fun K hK => ?_) (AllReadyH.nil))
                    · skip
                      refine step_op_skip (op_store_own (j := 4) (s := x.val) hS11.1 (by rfl) rfl rfl rfl) rfl ?_
                      refine hK.out _ _ ⟨Blk.set_ hS11.1 4 (.string x.val), hS11.2.setCell HGS.out _⟩ (fun hS12 => ?_)
                      clear hK K
                      change wpAnyH _ _ _ _ _ _ _ (Act.put _ none (undef)) _
                      simp only [Act.put]
                      refine wpAnyH_done (by kernel_rfl) ?_ _
                      refine NoPanic.normal ?_
                      obtain ⟨w9, hw9, HR9⟩ : ∃ w9, w9 = _ ∧ Hid (Blk w9 gs 63 #[.int .u64 x.sum, .int .i64 x.len, .string x.left, .string x.right, .string x.val] ∧ Below w8.heap.size w8 w9) := ⟨_, rfl, Lib.hid hS12⟩
                      rw [← hw9]
                      clear hw9
                      go_wp2_with fail
                      obtain ⟨e0, e1, e2, e3, e4⟩ := slot_cells5 HR9.out.1
                      have HBG9 := Lib.hid (Blk.below HBG8.out HR9.out.2 HBG8.out.lt)
                      have HBH9 := Lib.hid (Blk.below HV2.out.blk HR9.out.2 HV2.out.blk.lt)
                      have p9 := (Blk.cell HBG9.out k).trans HGK.out
                      obtain ⟨v0, v1, v2, v3, v4, d0, d1, d2, d3, d4⟩ := five_cells ds (k2 * 5) (by rw [HV2.out.size]; omega)
                      have z0 := (Blk.cell HBH9.out (k2 * 5)).trans d0
                      have z1 := (Blk.cell HBH9.out (k2 * 5 + 1)).trans d1
                      have z2 := (Blk.cell HBH9.out (k2 * 5 + 2)).trans d2
                      have z3 := (Blk.cell HBH9.out (k2 * 5 + 3)).trans d3
                      have z4 := (Blk.cell HBH9.out (k2 * 5 + 4)).trans d4
                      have q0 := Blk.frozen HBH9.out (k2 * 5)
                      have q1 := Blk.frozen HBH9.out (k2 * 5 + 1)
                      have q2 := Blk.frozen HBH9.out (k2 * 5 + 2)
                      have q3 := Blk.frozen HBH9.out (k2 * 5 + 3)
                      have q4 := Blk.frozen HBH9.out (k2 * 5 + 4)
                      have ha := add_zero_block h (k2 * 5)
                      have ha2 := add_zero_block g k
                      have HD9 : Hid (Below w8.heap.size w8 w9.drew) := Lib.hid HR9.out.2.drew
                      clear d0 d1 d2 d3 d4
                      go_still_tail 7, (by kernel_rfl)
                      change wpList _ _ _ _ _ w9.drew
                      have Z0 : w9.drew.cell? ⟨h, k2 * 5, none⟩ = some v0 := z0
                      have Z1 : w9.drew.cell? ⟨h, k2 * 5 + 1, none⟩ = some v1 := z1
                      have Z2 : w9.drew.cell? ⟨h, k2 * 5 + 2, none⟩ = some v2 := z2
                      have Z3 : w9.drew.cell? ⟨h, k2 * 5 + 3, none⟩ = some v3 := z3
                      have Z4 : w9.drew.cell? ⟨h, k2 * 5 + 4, none⟩ = some v4 := z4
                      have Q0 : w9.drew.frozen? ⟨h, k2 * 5, none⟩ = false := q0
                      have Q1 : w9.drew.frozen? ⟨h, k2 * 5 + 1, none⟩ = false := q1
                      have Q2 : w9.drew.frozen? ⟨h, k2 * 5 + 2, none⟩ = false := q2
                      have Q3 : w9.drew.frozen? ⟨h, k2 * 5 + 3, none⟩ = false := q3
                      have Q4 : w9.drew.frozen? ⟨h, k2 * 5 + 4, none⟩ = false := q4
                      have hlt9 : h < w9.drew.heap.size := HBH9.out.lt
                      clear z0 z1 z2 z3 z4 q0 q1 q2 q3 q4 e0 e1 e2 e3 e4 p9
                      obtain ⟨wA, hwA⟩ : ∃ wA, wA = w9.drew := ⟨_, rfl⟩
                      rw [← hwA] at HD9 Z0 Z1 Z2 Z3 Z4 Q0 Q1 Q2 Q3 Q4 hlt9 ⊢
                      clear hwA
                      go_wp2_with fail
                      go_roundw
                      case rel => exact ⟨k2 + 1, _, by omega, by go_num, Lib.hid (HV2.out.step HX.out HD9.out)⟩
                      case measure => simp [intOf]; omega
        · obtain rfl : k2 = L.length := by omega
          go_wp2_with fail
          go_roundw
          case rel => exact ⟨k + 1, _, by omega, by go_num, Lib.hid (HV.out.step HL.out HBG5.out HGR5.out HHS.out HV2.out)⟩
          case measure => simp [intOf]; omega
    · obtain rfl : k = c.parts.length := by omega
      have hbx := Blk.grown HB1.out HV.out.grown (fun e => HN.out.1 (Option.some.inj e))
      have HBR := Lib.hid (Blk.grown HB2.out HV.out.grown (fun e => HN.out.2.1 (Option.some.inj e)))
      have z2 := Blk.cell hbx 2
      have q2 := Blk.frozen hbx 2
      have hb3 := Blk.set_ hbx 2 (.slice (some ⟨g, 0, none⟩) c.parts.length c.parts.length)
      have hg3 : w2.grownBy (w2.setCell ⟨r1, 2, none⟩ (.slice (some ⟨g, 0, none⟩) c.parts.length c.parts.length)) (some r1) := grown_set _ _ _ _
      simp only [List.getElem?_toArray, List.getElem?_cons_zero, List.getElem?_cons_succ] at z2
      simp only [List.setIfInBounds_toArray, List.set_cons_zero, List.set_cons_succ] at hb3
      have hlt1 := hbx.lt
      go_upto_region 14 with (fail)
      obtain ⟨w3, hw3⟩ : ∃ w3, w3 = w2.setCell ⟨r1, 2, none⟩ (.slice (some ⟨g, 0, none⟩) c.parts.length c.parts.length) := ⟨_, rfl⟩
      rw [← hw3] at hb3 hg3 ⊢
      have HOP : Hid (Rows3 w1 w3 g cs c.parts) := Lib.hid (HV.out.rows3.kept hg3 HB1.out.lt HN.out.1)
      have HW3B : Hid (Below w.heap.size w w3) := Lib.hid (HWB.out.grown hg3 HWB.out.size (fun b e => by injection e with e; rw [← e]; exact HN.out.2.2.2.1))
      have hb4 := Blk.grown HBR.out hg3 (fun e => HN.out.2.2.1 (Option.some.inj e))
      clear hw3 z2 q2 hbx hg3 hlt1
      obtain ⟨x0, x1, x2, x3, x4, x5, x6⟩ := box7 hb3 (Below.refl _ _)
      obtain ⟨z0, z1, z2, z3, z4, z5, z6⟩ := box7 hb4 (Below.refl _ _)
      have q0 := Blk.frozen hb4 0
      have q1 := Blk.frozen hb4 1
      have q2 := Blk.frozen hb4 2
      have q3 := Blk.frozen hb4 3
      have q4 := Blk.frozen hb4 4
      have q5 := Blk.frozen hb4 5
      have q6 := Blk.frozen hb4 6
      have hl4 := hb4.lt
      have hs7 := set7 hb4 c.width c.room (some ⟨g, 0, none⟩) c.parts.length c.parts.length c.hits c.misses c.clashes c.evicted
      have HS7 := Lib.hid hs7
      clear hs7 hb3 hb4
      go_wp2_with fail
      obtain ⟨u0, u1, u2, u3, u4, u5, u6⟩ := box7 HS7.out.1 (Below.refl _ _)
      refine bodyPost_ret (v := .agg #[.int .i64 c.width, .int .i64 c.room, .slice (some ⟨g, 0, none⟩) c.parts.length c.parts.length, .int .i64 c.hits, .int .i64 c.misses, .int .i64 c.clashes, .int .i64 c.evicted]) (by simp [results, Try.results35, go_sem, u0, u1, u2, u3, u4, u5, u6]) rfl ?_
      exact ⟨g, cs, c.parts.length, rfl, rfl, (HOP.out.kept HS7.out.2 HB2.out.lt HN.out.2.1).own HW1.out.size HN.out.2.2.2.2.2 (HW3B.out.grown HS7.out.2 HW3B.out.size (fun b e => by injection e with e; rw [← e]; exact HN.out.2.2.2.2.1))⟩

end Go.Proofs.Ytjifmfgfmciaeaa
