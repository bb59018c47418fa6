/-
  collatorref05.table: of each place of two lists how many lines may stay from there on. Nothing that was there is changed.
-/
import Derived.Test.YtmonemgjgcfhlaaTab
import Derived.Test.YtmonemgjgcfhlaaNumbered
import Derived.BigRegion
namespace Go.Proofs.Ytmonemgjgcfhlaa
open Go.RowKit

theorem info23 : (Try.prog.info? 23).map (fun i => (i.zero, i.size, i.bytes)) = some (some (.slice none 0 0), 1, 24) := by kernel_rfl
theorem make_rows (n : Nat) (hn : n ≤ 1001) (z : Int) (hz : z = (n : Int)) (W : World) : (Instr.makeSlice 61 (.int .i64 z) (.int .i64 z)).run Try.prog W = .ok (.slice (some ⟨W.heap.size, 0, none⟩) n n) (W.alloc (.cells (madeCells #[.slice none 0 0] n) 23)) := by
  subst hz
  exact run_make_row' (P := Try.prog) 61 23 (.slice none 0 0) 24 Try.underlying61 info23 rfl .i64 .i64 n (by omega) (by omega) W
theorem make_ints (n : Nat) (hn : n ≤ 1001) (z : Int) (hz : z = (n : Int)) (W : World) : (Instr.makeSlice 23 (.int .i64 z) (.int .i64 z)).run Try.prog W = .ok (.slice (some ⟨W.heap.size, 0, none⟩) n n) (W.alloc (.cells (madeCells #[.int .i64 0] n) 3)) := by
  subst hz
  exact run_make_row' (P := Try.prog) 23 3 (.int .i64 0) 8 Try.underlying23 info3' rfl .i64 .i64 n (by omega) (by omega) W

theorem cell_strB {w w0 : World} {A : Option Addr} {ss : List ByteArray} {k : Nat} {s : ByteArray} (h : Strs w w0.heap.size A ss) (hs : ss[k]? = some s) : ∃ ad, A = some ad ∧ w.cell? (ad.add k) = some (.string s) := by
  obtain ⟨ad, e, _, hc⟩ := h (by intro e; subst e; simp at hs)
  exact ⟨ad, e, hc k s hs⟩

set_option maxHeartbeats 4000000 in
set_option maxRecDepth 100000 in
theorem table_any (A B : Option Addr) (a b : List ByteArray) (c d : Nat) (w : World) (ha : Strs w w.heap.size A a) (hb : Strs w w.heap.size B b) (h1 : a.length ≤ 1000) (h2 : b.length ≤ 1000) :
    Calls Try.prog 35 #[.slice A a.length c, .slice B b.length d] w fun e w' => e = .returned (.slice (some ⟨w.heap.size, 0, none⟩) (a.length + 1) (a.length + 1)) ∧ TabAt w' w.heap.size a b ∧ Below w.heap.size w w' := by
  have hm1 := make_rows (a.length + 1) (by omega) ((a.length : Int) + 1) (by simp)
  have hm2 := make_ints (b.length + 1) (by omega) ((b.length : Int) + 1) (by simp)
  go_enter Try.func35, Try.ntmps35
  go_wp2_with fail
  go_loopw [6, 7] (fun s6 s7 wr => ∃ (n : Nat) (i : Int), s6 = .int .i64 i ∧ i = (n : Int) - 1 ∧ n ≤ a.length + 1 ∧ TOut w wr a b n) (fun s6 _ _ => (intOf s6 + 1).toNat)
  case atStart => exact ⟨a.length + 1, (a.length : Int), rfl, by simp, Nat.le_refl _, TOut.start w a b⟩
  case round =>
    obtain ⟨n, i0, rfl, hi0, hn, hO⟩ := hrel
    by_cases g0 : 0 ≤ i0
    · obtain ⟨i, rfl⟩ : ∃ i : Nat, n = i + 1 := ⟨n - 1, by omega⟩
      obtain rfl : i0 = (i : Int) := by omega
      clear hi0
      have hi : i ≤ a.length := by omega
      have hi' : (i : Int) < (a.length : Int) + 1 := by omega
      have hsz := hO.size
      have hst1 : ∀ o, (wr.alloc o).cell? ⟨w.heap.size, i, none⟩ = some (.slice none 0 0) := fun o => by
        have := (hO.top.alloc o).cell (i := i) (by omega)
        rw [this]; unfold topF; rw [if_neg (by omega)]
      have hst2 : ∀ o, (wr.alloc o).frozen? ⟨w.heap.size, i, none⟩ = false := fun o => (hO.top.alloc o).frozen i
      have hI0 := TIn.start hO hi
      have HSZ := Lib.hid hsz
      clear hsz
      go_wp2_with fail
      clear hst1 hst2
      go_loopw [7] (fun s7 wi => ∃ (m : Nat) (j : Int), s7 = .int .i64 j ∧ j = (m : Int) - 1 ∧ m ≤ b.length ∧ (i < a.length ∨ m = b.length) ∧ TIn w wi a b i m) (fun s7 _ => (intOf s7 + 1).toNat)
      case atStart => exact ⟨b.length, (b.length : Int) - 1, rfl, rfl, Nat.le_refl _, .inr rfl, hI0⟩
      case round =>
        obtain ⟨m, j0, rfl, hj0, hm, hlast, hI⟩ := hrel
        have HLAST := Lib.hid hlast
        clear hlast
        clear hI0
        by_cases g1 : 0 ≤ j0 ∧ i < a.length
        · obtain ⟨g1, g2⟩ := g1
          obtain ⟨j, rfl⟩ : ∃ j : Nat, m = j + 1 := ⟨m - 1, by omega⟩
          obtain rfl : j0 = (j : Int) := by omega
          clear hj0
          have hj : j < b.length := by omega
          obtain ⟨s, hs⟩ : ∃ s, a[i]? = some s := ⟨_, List.getElem?_eq_getElem g2⟩
          obtain ⟨t, ht⟩ : ∃ t, b[j]? = some t := ⟨_, List.getElem?_eq_getElem hj⟩
          obtain ⟨ad, rfl, hca⟩ := cell_strB (ha.below hI.below) hs
          obtain ⟨bd, rfl, hcb⟩ := cell_strB (hb.below hI.below) ht
          have t1 : wr.cell? ⟨w.heap.size, i, none⟩ = some (.slice (some ⟨w.heap.size + 1 + (a.length - i), 0, none⟩) (b.length + 1) (b.length + 1)) := by
            have := hI.top.cell (i := i) (by omega)
            rw [this]; unfold topF; rw [if_pos (Nat.le_refl _)]
          have t2 : wr.cell? ⟨w.heap.size, i + 1, none⟩ = some (.slice (some ⟨w.heap.size + 1 + (a.length - (i + 1)), 0, none⟩) (b.length + 1) (b.length + 1)) := by
            have := hI.top.cell (i := i + 1) (by omega)
            rw [this]; unfold topF; rw [if_pos (by omega)]
          have t3 : wr.cell? ⟨w.heap.size + 1 + (a.length - i), j, none⟩ = some (.int .i64 0) := by
            have := hI.cur.cell (i := j) (by omega)
            rw [this, if_neg (by omega)]
          have t4 : wr.frozen? ⟨w.heap.size + 1 + (a.length - i), j, none⟩ = false := hI.cur.frozen j
          obtain ⟨gc, hgc⟩ : ∃ gc, gc = w.heap.size + 1 + (a.length - i) := ⟨_, rfl⟩
          obtain ⟨gn, hgn⟩ : ∃ gn, gn = w.heap.size + 1 + (a.length - (i + 1)) := ⟨_, rfl⟩
          have e1 : IntKind.i64.wrap ((i : Int) + 1) = (i : Int) + 1 := IntWalk.i64_in _ (by omega)
          have e2 : IntKind.i64.wrap ((j : Int) + 1) = (j : Int) + 1 := IntWalk.i64_in _ (by omega)
          have HGC := Lib.hid hgc
          have HI := Lib.hid hI
          by_cases hst : s = t
          · have hx := (hI.done (i + 1) (by omega) (by omega)).cell (i := j + 1) (by omega)
            have hlt := cAt_le a b (i + 1) (j + 1)
            have HK := Lib.hid (cAt_keep hs (hst ▸ ht))
            rw [← hgn] at t2 hx
            rw [← hgc] at t1 t3 t4
            generalize cAt a b (i + 1) (j + 1) = x at *
            subst hst
            clear hI hs ht hgc hgn
            go_wp2_with fail
            go_quiet (fail)
            go_wp2_with fail
            have hxx : IntKind.i64.wrap (1 + (x : Int)) = 1 + (x : Int) := IntWalk.i64_in _ (by omega)
            go_big_region
            go_wp2_with fail
            go_roundw
            case rel => exact ⟨j, (j : Int) - 1, rfl, rfl, by omega, .inl g2, by rw [HGC.out]; exact (HI.out.drewN (nq + 1)).set_ hi _ (by rw [HK.out]; omega)⟩
            case measure => simp [intOf]
          · have hx := (hI.done (i + 1) (by omega) (by omega)).cell (i := j) (by omega)
            have hy := hI.cur.cell (i := j + 1) (by omega)
            rw [if_pos (by omega)] at hy
            have hlt := cAt_le a b (i + 1) j
            have hlt' := cAt_le a b i (j + 1)
            have HK := Lib.hid (cAt_ne hs ht hst)
            have hst' : (s.toList == t.toList) = false := by
              cases h : (s.toList == t.toList) with
              | false => rfl
              | true => exact absurd (same_of h) hst
            rw [← hgn] at t2 hx
            rw [← hgc] at t1 t3 t4 hy
            generalize cAt a b (i + 1) j = x at *
            generalize cAt a b i (j + 1) = y at *
            clear hI hs ht hgc hgn hst
            by_cases hxy : x < y
            · have hxy' : (x : Int) < (y : Int) := by omega
              go_wp2_with fail
              go_quiet (fail)
              go_wp2_with fail
              go_big_region
              go_wp2_with fail
              go_roundw
              case rel => exact ⟨j, (j : Int) - 1, rfl, rfl, by omega, .inl g2, by rw [HGC.out]; exact (HI.out.drewN (nq + 1)).set_ hi _ (by rw [HK.out]; omega)⟩
              case measure => simp [intOf]
            · have hxy' : ¬ (x : Int) < (y : Int) := by omega
              go_wp2_with fail
              go_quiet (fail)
              go_wp2_with fail
              go_big_region
              go_wp2_with fail
              go_roundw
              case rel => exact ⟨j, (j : Int) - 1, rfl, rfl, by omega, .inl g2, by rw [HGC.out]; exact (HI.out.drewN (nq + 1)).set_ hi _ (by rw [HK.out]; omega)⟩
              case measure => simp [intOf]
        · by_cases g2 : 0 ≤ j0
          · have g3 : ¬ i < a.length := fun h => g1 ⟨g2, h⟩
            have hI2 : TOut w wr a b i := by
              have e1 : i = a.length := by omega
              have e2 : m = b.length := by
                rcases HLAST.out with h | h
                · exact absurd h g3
                · exact h
              subst e1 e2
              exact hI.last
            have j1 : decide (0 ≤ j0) = true := by simpa using g2
            clear hj0 g1
            go_wp2_with fail
            go_roundw
            case rel => exact ⟨i, (i : Int) - 1, rfl, rfl, by omega, hI2⟩
            case measure => simp [intOf]
          · have hI2 : TOut w wr a b i := by
              have e2 : m = 0 := by omega
              subst e2
              exact hI.full
            clear hj0 g1
            go_wp2_with fail
            go_roundw
            case rel => exact ⟨i, (i : Int) - 1, rfl, rfl, by omega, hI2⟩
            case measure => simp [intOf]
    · obtain rfl : n = 0 := by omega
      clear hi0
      go_wp2_with fail
      go_ret
      exact ⟨rfl, hO.tab, hO.below⟩

end Go.Proofs.Ytmonemgjgcfhlaa
