/-
  Cost and Common: what the shortest ways cost, and how many lines may stay.
-/
import Derived.Test.YtmonemgjgcfhlaaNumbered
namespace Go.Proofs.Ytmonemgjgcfhlaa
open Go.RowKit

theorem shared_turn (A : Option Addr) (zs : List Int) (n c : Nat) (w : World) (ha : Ints w w.heap.size A zs) (hn : zs.length = n) (h1 : n ≤ 1073741) :
    Calls Try.prog 29 #[.slice A n c] w fun e w' => ∃ A' c' xs, e = .returned (.slice A' xs.length c') ∧ Hid (xs = (sharedL zs).reverse) ∧ xs.length ≤ n ∧ Ints w' w'.heap.size A' xs ∧ Below w.heap.size w w' := by
  subst hn
  refine (shared_any A zs c w ha h1).mono ?_
  rintro e w' ⟨A', c', rfl, hi, hb⟩
  exact ⟨A', c', (sharedL zs).reverse, by rw [List.length_reverse], Lib.hid rfl, by rw [List.length_reverse]; exact sharedL_le zs, hi, hb⟩

/-- what the search tells, for the whole lists -/
theorem cost_sum {a b : List ByteArray} {xs ys : List Int} (hx : xs = (sharedL (Pm.numL a a b (-1))).reverse) (hy : ys = (sharedL (Pm.numL b a b (-2))).reverse) :
    Pm.ed a b + xs.length + ys.length = Pm.D xs ys xs.length ys.length + a.length + b.length := by
  have h := Pm.ed_numbers a b a b (fun _ h => h) (fun _ h => h) (-1) (-2) (by decide) (by decide)
  subst hx hy
  have e := Pm.D_whole (sharedL (Pm.numL a a b (-1))) (sharedL (Pm.numL b a b (-2)))
  rw [List.length_reverse, List.length_reverse, e]
  exact h

set_option maxHeartbeats 2000000 in
set_option maxRecDepth 100000 in
theorem cost_any (A B : Option Addr) (a b : List ByteArray) (c d : Nat) (w : World) (ha : Strs w w.heap.size A a) (hb : Strs w w.heap.size B b) (hlen : a.length + b.length ≤ 256) (hsa : ∀ s ∈ a, s.size ≤ maxLen) (hsb : ∀ s ∈ b, s.size ≤ maxLen) :
    Calls Try.prog 15 #[.slice A a.length c, .slice B b.length d] w fun e w' => e = .returned (.int .i64 (Pm.ed a b : Nat)) ∧ Below w.heap.size w w' := by
  have HSA := Lib.hid hsa
  have HSB := Lib.hid hsb
  clear hsa hsb
  have n1 := Pm.numL_len a a b (-1)
  have n2 := Pm.numL_len b a b (-2)
  have HN1 := Lib.hid n1
  have HN2 := Lib.hid n2
  clear n1 n2
  go_enter Try.func15, Try.ntmps15
  go_wp2_with fail
  refine (numbered_any A B a b c d _ ha hb (by omega) (by omega) HSA.out HSB.out).mono ?_
  rintro e w1 ⟨X, cx, Y, cy, rfl, hX, hY, hb1⟩
  go_wp2_with fail
  refine (shared_turn X _ _ cx _ hX HN1.out (by omega)).mono ?_
  rintro e w2 ⟨X', cx', xs, rfl, HX, hxl, hX', hb2⟩
  have hB2 := below_step hb1 hb2
  go_wp2_with fail
  refine (shared_turn Y _ _ cy _ ((hY.below hb2).more hb2.size) HN2.out (by omega)).mono ?_
  rintro e w3 ⟨Y', cy', ys, rfl, HY, hyl, hY', hb3⟩
  have hB3 := below_step hB2 hb3
  go_wp2_with fail
  refine (search_any X' Y' xs ys cx' cy' _ ((hX'.below hb3).more hb3.size) hY' (by omega)).mono ?_
  rintro e w4 ⟨L, mk, v, rfl, hT, hb4⟩
  have hB4 := below_step hB3 hb4
  have hsum := cost_sum HX.out HY.out
  have t0 : w4.cell? ⟨w3.heap.size, 0, none⟩ = some (.slice X' xs.length cx') := hT.blk.cell 0
  have t1 : w4.cell? ⟨w3.heap.size, 1, none⟩ = some (.slice Y' ys.length cy') := hT.blk.cell 1
  have hD := Pm.D_top (x := xs) (y := ys) (Nat.le_refl _) (Nat.le_refl _)
  obtain ⟨dd, hdd⟩ : ∃ dd, dd = Pm.D xs ys xs.length ys.length := ⟨_, rfl⟩
  have t2 : w4.cell? ⟨w3.heap.size, 2, none⟩ = some (.int .i64 (dd : Nat)) := by rw [hdd]; exact hT.blk.cell 2
  rw [← hdd] at hsum hD
  have HSUM := Lib.hid hsum
  have hfin : (a.length : Int) - xs.length + b.length - ys.length + dd = (Pm.ed a b : Nat) := by omega
  have HF := Lib.hid hfin
  have u1 : IntKind.i64.wrap ((a.length : Int) - xs.length) = (a.length : Int) - xs.length := IntWalk.i64_in _ (by omega)
  have u2 : IntKind.i64.wrap ((a.length : Int) - xs.length + b.length) = (a.length : Int) - xs.length + b.length := IntWalk.i64_in _ (by omega)
  have u3 : IntKind.i64.wrap ((a.length : Int) - xs.length + b.length - ys.length) = (a.length : Int) - xs.length + b.length - ys.length := IntWalk.i64_in _ (by omega)
  have u4 : IntKind.i64.wrap ((a.length : Int) - xs.length + b.length - ys.length + dd) = (a.length : Int) - xs.length + b.length - ys.length + dd := IntWalk.i64_in _ (by omega)
  clear hsum hfin hdd hT
  go_wp2_with fail
  go_quiet (fail)
  go_wp2_with fail
  go_ret
  rw [HF.out]
  exact ⟨rfl, below_drewN hB4 _⟩

set_option maxHeartbeats 2000000 in
theorem common_any (A B : Option Addr) (a b : List ByteArray) (c d : Nat) (w : World) (ha : Strs w w.heap.size A a) (hb : Strs w w.heap.size B b) (hlen : a.length + b.length ≤ 256) (hsa : ∀ s ∈ a, s.size ≤ maxLen) (hsb : ∀ s ∈ b, s.size ≤ maxLen) :
    Calls Try.prog 17 #[.slice A a.length c, .slice B b.length d] w fun e w' => e = .returned (.int .i64 (((a.length : Int) + b.length - (Pm.ed a b : Nat)) / 2)) ∧ Below w.heap.size w w' := by
  have ht := Pm.ed_top a b
  have HSA := Lib.hid hsa
  have HSB := Lib.hid hsb
  clear hsa hsb
  go_enter Try.func17, Try.ntmps17
  go_wp2_with fail
  refine (cost_any A B a b c d _ ha hb hlen HSA.out HSB.out).mono ?_
  rintro e w1 ⟨rfl, hb1⟩
  have q1 : (0 : Int) ≤ a.length + b.length - (Pm.ed a b : Nat) := by omega
  go_wp2_with fail
  go_ret
  exact ⟨rfl, hb1⟩

end Go.Proofs.Ytmonemgjgcfhlaa
