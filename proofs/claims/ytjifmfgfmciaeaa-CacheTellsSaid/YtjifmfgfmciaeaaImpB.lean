/-
  Package lru: owns: what it returns, in new memory; nothing that was there is changed.
-/
import Derived.Test.YtjifmfgfmciaeaaImpA
import Derived.Test.YtjifmfgfmciaeaaFill
import Derived.Laws.MakeOwn
namespace Go.Proofs.Ytjifmfgfmciaeaa
open Go.RowKit

theorem make_slots (n : Nat) (hn : n ≤ 1048576) (W : World) : ∃ cs, cs.size = n * 5 ∧ (Instr.makeSlice 58 (.int .i64 (n : Int)) (.int .i64 (n : Int))).run Try.prog W = .ok (.slice (some ⟨W.heap.size, 0, none⟩) n n) (W.alloc (.cells cs 63)) := by
  obtain ⟨i0, hi, hz0, hz1, hz2⟩ := info_parts infoS
  have hr := run_make (P := Try.prog) W 58 63 i0 _ Try.underlying58 hi hz0 .i64 .i64 (n : Int) (n : Int) (by omega) (Int.le_refl _) (by rw [hz2]; omega) (by omega)
  rw [hz1] at hr
  simp only [Int.toNat_natCast] at hr
  exact ⟨_, size_madeCells _ _, hr⟩
theorem five_cells (cs : Array Value) (b : Nat) (h : b + 4 < cs.size) : ∃ v0 v1 v2 v3 v4, cs[b]? = some v0 ∧ cs[b + 1]? = some v1 ∧ cs[b + 2]? = some v2 ∧ cs[b + 3]? = some v3 ∧ cs[b + 4]? = some v4 :=
  ⟨_, _, _, _, _, Array.getElem?_eq_getElem (by omega), Array.getElem?_eq_getElem (by omega), Array.getElem?_eq_getElem (by omega), Array.getElem?_eq_getElem (by omega), Array.getElem?_eq_getElem (by omega)⟩
/-- a list in new memory -/
def OwnsTold (L : List Sl) (w : World) (e : Ending) (w' : World) : Prop := ∃ (g n c : Nat), e = .returned (.slice (some ⟨g, 0, none⟩) n c) ∧ (L.length = n ∧ n ≤ c) ∧ SlotsAt w' (some ⟨g, 0, none⟩) L ∧ Below w.heap.size w w' ∧ w.heap.size ≤ g
/-- between two rounds -/
structure OwnsIn (w wr : World) (g : Nat) (L : List Sl) (k : Nat) (cs : Array Value) : Prop where
  blk : Blk wr g 63 cs
  size : cs.size = L.length * 5
  filled : Filled Sl.cells 5 cs L k
  below : Below w.heap.size w wr

theorem OwnsIn.step {w wr w2 : World} {g k : Nat} {L : List Sl} {cs : Array Value} {x : Sl} (h : OwnsIn w wr g L k cs) (hx : L[k]? = some x) (hb : Below wr.heap.size wr w2) (hg : w.heap.size ≤ g) :
    OwnsIn w (((((w2.setCell ⟨g, k * 5, none⟩ (.int .u64 x.sum)).setCell ⟨g, k * 5 + 1, none⟩ (.int .i64 x.len)).setCell ⟨g, k * 5 + 2, none⟩ (.string x.left)).setCell ⟨g, k * 5 + 3, none⟩ (.string x.right)).setCell ⟨g, k * 5 + 4, none⟩ (.string x.val)) g L (k + 1) (putAt cs (k * 5) x.cells) := by
  have hk := (List.getElem?_eq_some_iff.1 hx).1
  refine ⟨((((Blk.set_ (Blk.below h.blk hb h.blk.lt) (k * 5) _).set_ (k * 5 + 1) _).set_ (k * 5 + 2) _).set_ (k * 5 + 3) _).set_ (k * 5 + 4) _, by rw [putAt_size, h.size], h.filled.put sl_len hx (by rw [h.size]; omega), ?_⟩
  have h2 : Below w.heap.size w w2 := h.below.trans (hb.mono h.below.size)
  exact ((((h2.setCell hg _).setCell hg _).setCell hg _).setCell hg _).setCell hg _

set_option maxHeartbeats 2000000 in
theorem owns_any (A : Option Addr) (L : List Sl) (n c : Nat) (w : World) (ha : SlotsAt w A L) (hn : L.length = n) (h1 : L.length ≤ 1048576) (hf : FitS L) :
    Calls Try.prog 55 #[.slice A n c] w (OwnsTold L w) := by
  subst hn
  have HA := Lib.hid ha
  have HF := Lib.hid hf
  clear ha hf
  obtain ⟨cs0, hs0, hmk⟩ := make_slots L.length h1 w
  have HS0 := Lib.hid hs0
  clear hs0
  go_enter Try.func55, Try.ntmps55
  go_wp2_with fail
  have hb0 : Blk (w.alloc (.cells cs0 63)) w.heap.size 63 cs0 := Blk.new w _ _
  have hw0 : Below w.heap.size w (w.alloc (.cells cs0 63)) := (Below.refl _ _).alloc (Nat.le_refl _) _
  obtain ⟨w1, hw1⟩ : ∃ w1, w1 = w.alloc (.cells cs0 63) := ⟨_, rfl⟩
  obtain ⟨g, hg⟩ : ∃ g, g = w.heap.size := ⟨_, rfl⟩
  rw [← hw1] at hb0 hw0 ⊢
  rw [← hg] at hb0 ⊢
  have hI : OwnsIn w w1 g L 0 cs0 := ⟨hb0, HS0.out, fun i x hi => absurd hi (Nat.not_lt_zero _), hw0⟩
  have HI0 := Lib.hid hI
  have HG : Hid (w.heap.size ≤ g) := Lib.hid (by omega)
  clear hb0 hw0 hw1 hg hmk hI
  go_loopw [11] (fun i wr => ∃ (k : Nat) (cs : Array Value), k ≤ L.length ∧ i = .int .i64 k ∧ Hid (OwnsIn w wr g L k cs)) (fun i _ => L.length - (intOf i).toNat)
  case atStart => exact ⟨0, cs0, Nat.zero_le _, rfl, HI0⟩
  case round =>
    obtain ⟨k, cs, hk, rfl, HV⟩ := hrel
    by_cases g1 : k < L.length
    · obtain ⟨x, hx⟩ : ∃ x, L[k]? = some x := ⟨_, List.getElem?_eq_getElem g1⟩
      obtain ⟨a, rfl, hal, c0, c1, c2, c3, c4⟩ := slots_fields (HA.out.up HV.out.below) hx
      have HX := Lib.hid hx
      have HFX : Hid (FitS [x]) := Lib.hid (HF.out.sub fun y hy => by rw [List.mem_singleton.1 hy]; exact List.mem_of_getElem? hx)
      clear hx
      go_wp2_with fail
      refine (own_any x _ HFX.out).mono ?_
      rintro e w2 ⟨rfl, hb⟩
      have hal0 : Below wr.heap.size wr w2 := ((Below.refl _ _).alloc (Nat.le_refl _) _).trans (hb.mono (by simp))
      have HB := Lib.hid hal0
      have HB2 := Lib.hid (Blk.below HV.out.blk hal0 HV.out.blk.lt)
      clear hb hal0 c0 c1 c2 c3 c4 hal
      obtain ⟨v0, v1, v2, v3, v4, e0, e1, e2, e3, e4⟩ := five_cells cs (k * 5) (by rw [HV.out.size]; omega)
      have z0 := (Blk.cell HB2.out (k * 5)).trans e0
      have z1 := (Blk.cell HB2.out (k * 5 + 1)).trans e1
      have z2 := (Blk.cell HB2.out (k * 5 + 2)).trans e2
      have z3 := (Blk.cell HB2.out (k * 5 + 3)).trans e3
      have z4 := (Blk.cell HB2.out (k * 5 + 4)).trans e4
      have q0 := Blk.frozen HB2.out (k * 5)
      have q1 := Blk.frozen HB2.out (k * 5 + 1)
      have q2 := Blk.frozen HB2.out (k * 5 + 2)
      have q3 := Blk.frozen HB2.out (k * 5 + 3)
      have q4 := Blk.frozen HB2.out (k * 5 + 4)
      have ha := add_zero_block g (k * 5)
      clear e0 e1 e2 e3 e4
      go_wp2_with fail
      go_roundw
      case rel => exact ⟨k + 1, _, by omega, by go_num, Lib.hid (HV.out.step HX.out HB.out HG.out)⟩
      case measure => simp [intOf]; omega
    · obtain rfl : k = L.length := by omega
      go_wp2_with fail
      go_ret
      exact ⟨g, L.length, L.length, rfl, ⟨rfl, Nat.le_refl _⟩, HV.out.filled.at_ HV.out.blk, HV.out.below, HG.out⟩

end Go.Proofs.Ytjifmfgfmciaeaa
