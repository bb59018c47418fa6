/-
  (*trail).front: the front of a cost that is less than the end's.
-/
import Derived.Test.YtmonemgjgcfhlaaSearch
namespace Go.Proofs.Ytmonemgjgcfhlaa
open Go.RowKit

set_option maxHeartbeats 2000000 in
set_option maxRecDepth 100000 in
theorem front_any (xs ys : List Int) (X Y mk v : Value) (b c : Nat) (L : List Fr) (f : Fr) (w : World) (hT : TrailAt xs ys X Y b L mk v w) (hc : c < 256) (hf : L[c]? = some f) :
    Calls Try.prog 31 #[.pointer (some ⟨b, 0, none⟩), .int .i64 c] w fun e w' => e = .returned (.agg #[.int .i64 f.low, .slice f.A f.far.length f.cap]) ∧ Below w.heap.size w w' := by
  have hcl : c < L.length := (List.getElem?_eq_some_iff.1 hf).1
  obtain ⟨gr, cr, rfl, _, hgl⟩ := hT.row.form (by omega)
  obtain ⟨k1, k2⟩ := frCells_at hf
  have r1 : w.cell? ⟨gr, c * 2, none⟩ = some (.int .i64 f.low) := (hT.row.cellAt (c * 2) (by omega)).trans (by rw [Nat.mul_comm]; exact k1)
  have r2 : w.cell? ⟨gr, c * 2 + 1, none⟩ = some (.slice f.A f.far.length f.cap) := (hT.row.cellAt (c * 2 + 1) (by omega)).trans (by rw [Nat.mul_comm]; exact k2)
  have r3 : w.cell? ⟨b, 5, none⟩ = some (.slice (some ⟨gr, 0, none⟩) L.length cr) := hT.blk.cell 5
  have r4 : w.cell? ⟨b, 4, none⟩ = some (.int .i64 0) := hT.blk.cell 4
  have hbl := hT.blk.lt
  have q1 : (((c : Int) / 256 != 0) : Bool) = false := by rw [bne_eq_false_iff_eq]; omega
  have q2 : (c : Int) % 256 = c := by omega
  clear k1 k2 hT hf
  go_enter Try.func31, Try.ntmps31
  go_wp2_with fail
  exact bodyPost_ret (v := .agg #[.int .i64 f.low, .slice f.A f.far.length f.cap]) (by simp [results, Try.results31, go_sem]) rfl ⟨rfl, (Below.refl _ _).alloc (Nat.le_refl _) _⟩

theorem front_at (xs ys : List Int) (X Y mk v : Value) (b c : Nat) (k : Int) (L : List Fr) (f : Fr) (w : World) (hT : TrailAt xs ys X Y b L mk v w) (hc : c < 256) (hk : k = c) (hf : L[c]? = some f) :
    Calls Try.prog 31 #[.pointer (some ⟨b, 0, none⟩), .int .i64 k] w fun e w' => e = .returned (.agg #[.int .i64 f.low, .slice f.A f.far.length f.cap]) ∧ Below w.heap.size w w' := by
  subst hk
  exact front_any xs ys X Y mk v b c L f w hT hc hf

/-- what the closure of Diff has caught -/
def Caught (w0 : World) (bc bt bx bo : Nat) (C : Int) (P : Value) (lx ly : Int) (W : World) : Prop :=
  W.cell? ⟨bc, 0, none⟩ = some (.int .i64 C) ∧ W.cell? ⟨bt, 0, none⟩ = some P ∧ W.cell? ⟨bx, 0, none⟩ = some (.int .i64 lx) ∧ W.cell? ⟨bo, 0, none⟩ = some (.int .i64 ly) ∧ Below w0.heap.size w0 W
theorem Caught.below {w0 W w' : World} {bc bt bx bo : Nat} {C lx ly : Int} {P : Value} (h : Caught w0 bc bt bx bo C P lx ly W) (hb : Below W.heap.size W w') : Caught w0 bc bt bx bo C P lx ly w' := by
  obtain ⟨h1, h2, h3, h4, h5⟩ := h
  refine ⟨?_, ?_, ?_, ?_, below_step h5 hb⟩
  · rw [hb.cell (p := ⟨bc, 0, none⟩) (lt_of_cell h1 :)]; exact h1
  · rw [hb.cell (p := ⟨bt, 0, none⟩) (lt_of_cell h2 :)]; exact h2
  · rw [hb.cell (p := ⟨bx, 0, none⟩) (lt_of_cell h3 :)]; exact h3
  · rw [hb.cell (p := ⟨bo, 0, none⟩) (lt_of_cell h4 :)]; exact h4
theorem Caught.drew {w0 W : World} {bc bt bx bo : Nat} {C lx ly : Int} {P : Value} (h : Caught w0 bc bt bx bo C P lx ly W) : Caught w0 bc bt bx bo C P lx ly W.drew :=
  ⟨h.1, h.2.1, h.2.2.1, h.2.2.2.1, below_drewN h.2.2.2.2 1⟩

set_option maxHeartbeats 2000000 in
set_option maxRecDepth 100000 in
theorem cutIs_none (bc bt bx bo : Nat) (w : World) (hc : w.cell? ⟨bc, 0, none⟩ = some (.int .i64 0)) :
    Calls Try.prog 30 #[.pointer (some ⟨bc, 0, none⟩), .pointer (some ⟨bt, 0, none⟩), .pointer (some ⟨bx, 0, none⟩), .pointer (some ⟨bo, 0, none⟩)] w fun e w' => e = .returned (.bool false) ∧ Below w.heap.size w w' := by
  go_enter Try.func30, Try.ntmps30
  go_wp2_with fail
  go_quiet (fail)
  go_wp2_with fail
  go_ret
  exact ⟨rfl, below_drewN (Below.refl _ _) _⟩

set_option maxHeartbeats 1000000 in
set_option maxRecDepth 100000 in
theorem cutIs_some (xs ys : List Int) (X Y mk v : Value) (b c : Nat) (L : List Fr) (f : Fr) (bc bt bx bo : Nat) (C lx ly : Int) (w : World) (hT : TrailAt xs ys X Y b L mk v w) (hc : c < 256) (hCc : C - 1 = c) (hf : L[c]? = some f) (r : Bool)
    (hC : Caught w bc bt bx bo C (.pointer (some ⟨b, 0, none⟩)) lx ly w) (h1 : 0 ≤ lx) (h2 : lx ≤ 256) (h3 : 0 ≤ ly) (h4 : ly ≤ 256) (_hl : xs.length ≤ 256) (_hl2 : ys.length ≤ 256) (hr : decide (lx - 1 ≤ Pm.onL f.low f.far (lx - 1 - ly)) = r) :
    Calls Try.prog 30 #[.pointer (some ⟨bc, 0, none⟩), .pointer (some ⟨bt, 0, none⟩), .pointer (some ⟨bx, 0, none⟩), .pointer (some ⟨bo, 0, none⟩)] w fun e w' => e = .returned (.bool r) ∧ Below w.heap.size w w' := by
  have hok := hT.ok c f hf
  have o1 := hok.low1
  have o2 := hok.low2
  have o3 := hok.high1
  have o4 := hok.high2
  have o5 := hok.ne
  have q1 : -1073741824 ≤ f.low := by omega
  have q2 : f.low ≤ 1073741824 := by omega
  have q3 : f.far.length ≤ 1073741824 := by omega
  have q4 : -1073741824 ≤ lx - 1 - ly := by omega
  have q5 : lx - 1 - ly ≤ 1073741824 := by omega
  have q6 : decide ((0 : Int) < C) = true := by simp; omega
  have HT : Hid (∀ W, Below w.heap.size w W → TrailAt xs ys X Y b L mk v W) := Lib.hid fun W hB => hT.step hB
  have HI : Hid (∀ W, Below w.heap.size w W → Ints W W.heap.size f.A f.far) := Lib.hid fun W hB => Fr.own.ints ((hT.step hB).own f (List.mem_of_getElem? hf))
  have u1 : IntKind.i64.wrap (C - 1) = C - 1 := IntWalk.i64_in _ (by omega)
  have u2 : IntKind.i64.wrap (lx - 1) = lx - 1 := IntWalk.i64_in _ (by omega)
  have u3 : IntKind.i64.wrap (lx - 1 - ly) = lx - 1 - ly := IntWalk.i64_in _ (by omega)
  have HR := Lib.hid hr
  have HF := Lib.hid hf
  have HCC := Lib.hid hCc
  obtain ⟨c1, c2, c3, c4, hB⟩ := hC
  clear hT hok hr hf hCc o1 o2 o3 o4 o5
  go_enter Try.func30, Try.ntmps30
  go_wp2_with fail
  go_region_held3 (fun W => W.cell? ⟨bc, 0, none⟩ = some (.int .i64 C) ∧ W.cell? ⟨bt, 0, none⟩ = some (.pointer (some ⟨b, 0, none⟩)) ∧ W.cell? ⟨bx, 0, none⟩ = some (.int .i64 lx) ∧ W.cell? ⟨bo, 0, none⟩ = some (.int .i64 ly) ∧ Below w.heap.size w W)
      (first | exact Caught.drew (by go_split_ands; exact ⟨by assumption, by assumption, by assumption, by assumption, by assumption⟩) | (go_split_ands; refine Caught.below ⟨?_, ?_, ?_, ?_, ?_⟩ hb <;> assumption))
      (first | (go_at_call 31; go_split_ands; refine (front_at xs ys X Y mk v b c _ L f _ (HT.out _ (by assumption)) hc HCC.out HF.out).mono ?_; rintro e w' ⟨rfl, hb⟩) | (go_at_call 32; go_split_ands; refine (on_any _ _ _ _ _ _ (HI.out _ (by assumption)) q1 q2 q3 q4 q5).mono ?_; rintro e w' ⟨rfl, hb⟩))
  all_goals
    go_split_ands
    go_wp2_with fail
    go_ret
    rw [← HR.out]
    exact ⟨rfl, by assumption⟩

end Go.Proofs.Ytmonemgjgcfhlaa
