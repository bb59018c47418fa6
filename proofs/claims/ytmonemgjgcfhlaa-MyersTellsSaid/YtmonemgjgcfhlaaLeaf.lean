/-
  The leaves of the search: isShared, (front).high, (front).on, (grid).isEnd, (grid).slide: what each returns; nothing that was there is changed.
-/
import Derived.Test.YtmonemgjgcfhlaaMem
import Derived.Test.YtmonemgjgcfhlaaFronts
import Derived.IntWalk
namespace Go.Proofs.Ytmonemgjgcfhlaa
open Go.RowKit

set_option maxHeartbeats 400000 in
theorem isShared_any (n : Int) (w : World) : Calls Try.prog 34 #[.int .i64 n] w fun e w' => e = .returned (.bool (decide (0 ≤ n))) ∧ w = w' := by
  go_enter Try.func34, Try.ntmps34
  go_wp2
  go_ret
  exact ⟨rfl, rfl⟩

set_option maxHeartbeats 400000 in
theorem high_any (low : Int) (A : Option Addr) (n c : Nat) (w : World) (h1 : -1073741824 ≤ low) (h2 : low ≤ 1073741824) (h3 : n ≤ 1073741824) :
    Calls Try.prog 47 #[.agg #[.int .i64 low, .slice A n c]] w fun e w' => e = .returned (.int .i64 (low + 2 * ((n : Int) - 1))) ∧ Below w.heap.size w w' := by
  go_enter Try.func47, Try.ntmps47
  go_wp2
  go_ret
  exact ⟨rfl, (Below.refl _ _).alloc (Nat.le_refl _) _⟩

theorem bcell {W w1 : World} (hb : Below W.heap.size W w1) : (∀ b o, b < W.heap.size → w1.cell? ⟨b, o, none⟩ = W.cell? ⟨b, o, none⟩) ∧ (∀ b o, b < W.heap.size → w1.frozen? ⟨b, o, none⟩ = W.frozen? ⟨b, o, none⟩) :=
  ⟨fun b o h => hb.cell (p := ⟨b, o, none⟩) h, fun b o h => hb.frozen (p := ⟨b, o, none⟩) h⟩

set_option maxHeartbeats 800000 in
theorem on_any (low k : Int) (A : Option Addr) (far : List Int) (c : Nat) (w : World) (ha : Ints w w.heap.size A far) (h1 : -1073741824 ≤ low) (h2 : low ≤ 1073741824) (h3 : far.length ≤ 1073741824) (_h4 : -1073741824 ≤ k) (_h5 : k ≤ 1073741824) :
    Calls Try.prog 32 #[.agg #[.int .i64 low, .slice A far.length c], .int .i64 k] w fun e w' => e = .returned (.int .i64 (Pm.onL low far k)) ∧ Below w.heap.size w w' := by
  have hB0 : Below w.heap.size w (w.alloc (.cells #[.int .i64 low, .slice A far.length c] 56)) := (Below.refl _ _).alloc (Nat.le_refl _) _
  by_cases g1 : k < low
  · have g1' : decide (k < low) = true := by simpa using g1
    have HE := Lib.hid (Pm.onL_out (far := far) (.inl g1))
    go_enter Try.func32, Try.ntmps32
    go_wp2_with fail
    go_ret
    rw [HE.out]
    exact ⟨rfl, hB0⟩
  · by_cases g2 : low + 2 * ((far.length : Int) - 1) < k
    · have HE := Lib.hid (Pm.onL_out (far := far) (.inr g2))
      go_enter Try.func32, Try.ntmps32
      go_wp2_with (go_at_call 47; refine (high_any _ _ _ _ _ h1 h2 h3).mono ?_; rintro e w' ⟨rfl, hb⟩)
      go_ret
      rw [HE.out]
      exact ⟨rfl, hB0.trans (hb.mono (by simp))⟩
    · obtain ⟨t, ht⟩ : ∃ t : Nat, (k - low) / 2 = t := ⟨((k - low) / 2).toNat, by omega⟩
      have htl : t < far.length := by omega
      obtain ⟨a, rfl, hab, hca⟩ := ha.at_ htl
      have HE : Hid (Pm.onL low far k = far[t]) := by
        refine Lib.hid ?_
        unfold Pm.onL
        rw [if_neg (by omega), ht, Int.toNat_natCast, List.getD_eq_getElem?_getD, List.getElem?_eq_getElem htl]
        rfl
      have hd : 0 ≤ k - low := by omega
      generalize far[t] = f at hca HE
      have HT := Lib.hid ht
      clear ht
      have hca1 : (w.alloc (.cells #[.int .i64 low, .slice (some a) far.length c] 56)).cell? (a.add ((k - low) / 2).toNat) = some (.int .i64 f) := by
        rw [HT.out, Int.toNat_natCast, World.cell?_alloc_lt _ _ _ (by rw [add_block]; exact hab)]; exact hca
      clear hca
      go_enter Try.func32, Try.ntmps32
      go_wp2_with (go_at_call 47; refine (high_any _ _ _ _ _ h1 h2 h3).mono ?_; rintro e w' ⟨rfl, hb⟩; obtain ⟨hc, hf⟩ := bcell hb; have hcc := (hb.cell (p := a.add ((k - low) / 2).toNat) (by rw [add_block]; simp; omega)).trans hca1; clear hf)
      go_ret
      rw [HE.out]
      exact ⟨rfl, hB0.trans (hb.mono (by simp))⟩

set_option maxHeartbeats 800000 in
theorem isEnd_any (k i : Int) (A B : Option Addr) (n m c d : Nat) (w : World) (h1 : -1073741824 ≤ k) (h2 : k ≤ 1073741824) (h3 : -1073741824 ≤ i) (h4 : i ≤ 1073741824) :
    Calls Try.prog 44 #[.agg #[.slice A n c, .slice B m d], .int .i64 k, .int .i64 i] w fun e w' => e = .returned (.bool (decide (i = n ∧ i - k = m))) ∧ Below w.heap.size w w' := by
  have hB0 : Below w.heap.size w (w.alloc (.cells #[.slice A n c, .slice B m d] 51)) := (Below.refl _ _).alloc (Nat.le_refl _) _
  by_cases g1 : i = n
  · have g1' : ((i == (n : Int)) : Bool) = true := by simpa using g1
    by_cases g2 : i - k = m
    · have g2' : ((i - k == (m : Int)) : Bool) = true := by simpa using g2
      have HE : Hid (decide (i = n ∧ i - k = m) = true) := Lib.hid (by simp; exact ⟨g1, g2⟩)
      clear g1 g2
      go_enter Try.func44, Try.ntmps44
      go_wp2
      go_ret
      rw [HE.out]
      exact ⟨rfl, hB0⟩
    · have g2' : ((i - k == (m : Int)) : Bool) = false := by simpa using g2
      have HE : Hid (decide (i = n ∧ i - k = m) = false) := Lib.hid (by simp; intro _; exact g2)
      clear g1 g2
      go_enter Try.func44, Try.ntmps44
      go_wp2
      go_ret
      rw [HE.out]
      exact ⟨rfl, hB0⟩
  · have g1' : ((i == (n : Int)) : Bool) = false := by simpa using g1
    have HE : Hid (decide (i = n ∧ i - k = m) = false) := Lib.hid (by simp; intro e; exact absurd e g1)
    clear g1
    go_enter Try.func44, Try.ntmps44
    go_wp2
    go_ret
    rw [HE.out]
    exact ⟨rfl, hB0⟩

theorem slid_mk {xs ys : List Int} {i j p q : Nat} (h1 : i ≤ p) (h2 : (i : Int) - j = (p : Int) - q) (h3 : p ≤ xs.length) (h4 : q ≤ ys.length) (h5 : Pm.D xs ys p q = Pm.D xs ys i j)
    (h6 : p = xs.length ∨ q = ys.length ∨ ∃ x y, xs[p]? = some x ∧ ys[q]? = some y ∧ x ≠ y) : Pm.Slid xs ys i j p q := by
  refine ⟨h1, h2, h3, h4, h5, fun g1 g2 => ?_⟩
  rcases h6 with e | e | ⟨x, y, hx, hy, hne⟩
  · omega
  · omega
  · rw [List.getElem?_eq_getElem g1] at hx
    rw [List.getElem?_eq_getElem g2] at hy
    injection hx with hx
    injection hy with hy
    subst hx hy
    exact hne
theorem D_on {xs ys : List Int} {p q : Nat} {x y : Int} (hx : xs[p]? = some x) (hy : ys[q]? = some y) (h : x = y) : Pm.D xs ys (p + 1) (q + 1) = Pm.D xs ys p q := by
  obtain ⟨h1, e1⟩ := List.getElem?_eq_some_iff.1 hx
  obtain ⟨h2, e2⟩ := List.getElem?_eq_some_iff.1 hy
  exact Pm.D_keep h1 h2 (by rw [e1, e2, h])

set_option maxHeartbeats 1000000 in
set_option maxRecDepth 100000 in
theorem slide_any (k : Int) (A B : Option Addr) (xs ys : List Int) (c d i j : Nat) (w : World) (ha : Ints w w.heap.size A xs) (hb : Ints w w.heap.size B ys) (hk : (i : Int) - j = k) (hi : i ≤ xs.length) (hj : j ≤ ys.length) (h1 : xs.length ≤ 1073741824) (h2 : ys.length ≤ 1073741824) :
    Calls Try.prog 43 #[.agg #[.slice A xs.length c, .slice B ys.length d], .int .i64 k, .int .i64 i] w fun e w' => ∃ i' j' : Nat, e = .returned (.int .i64 i') ∧ Pm.Slid xs ys i j i' j' ∧ Below w.heap.size w w' := by
  have hB0 : Below w.heap.size w (w.alloc (.cells #[.slice A xs.length c, .slice B ys.length d] 51)) := (Below.refl _ _).alloc (Nat.le_refl _) _
  have hk1 : -1073741824 ≤ k := by omega
  have hk2 : k ≤ 1073741824 := by omega
  have HK := Lib.hid hk
  clear hk
  go_enter Try.func43, Try.ntmps43
  go_wp2
  go_loopw [2] (fun v wr => ∃ p q n : Nat, v = .int .i64 p ∧ i ≤ p ∧ (i : Int) - j = (p : Int) - q ∧ p ≤ xs.length ∧ q ≤ ys.length ∧ Pm.D xs ys p q = Pm.D xs ys i j ∧ wr = (w.alloc (.cells #[.slice A xs.length c, .slice B ys.length d] 51)).drewN n) (fun v _ => xs.length - (intOf v).toNat)
  case atStart => exact ⟨i, j, 0, rfl, Nat.le_refl _, rfl, hi, hj, rfl, rfl⟩
  case round =>
    obtain ⟨p, q, n, rfl, hip, hpq, hp, hq, hD, rfl⟩ := hrel
    have HPQ := Lib.hid hpq
    have HD := Lib.hid hD
    have hpk : (p : Int) - k = q := by have := HK.out; omega
    have hpk0 : 0 ≤ (p : Int) - k := by omega
    clear hpq hD
    by_cases g1 : p < xs.length
    · by_cases g2 : q < ys.length
      · obtain ⟨a, rfl, hab, hca⟩ := ha.at_ g1
        obtain ⟨b, rfl, hbb, hcb⟩ := hb.at_ g2
        obtain ⟨x, hx⟩ : ∃ x, x = xs[p] := ⟨_, rfl⟩
        obtain ⟨y, hy⟩ : ∃ y, y = ys[q] := ⟨_, rfl⟩
        rw [← hx] at hca
        rw [← hy] at hcb
        have HX := Lib.hid (at_getD g1 hx)
        have HY := Lib.hid (at_getD g2 hy)
        have g2' : (p : Int) - k < ys.length := by omega
        have hca1 : (w.alloc (.cells #[.slice (some a) xs.length c, .slice (some b) ys.length d] 51)).cell? (a.add p) = some (.int .i64 x) := by rw [World.cell?_alloc_lt _ _ _ (by rw [add_block]; exact hab)]; exact hca
        have hcb1 : (w.alloc (.cells #[.slice (some a) xs.length c, .slice (some b) ys.length d] 51)).cell? (b.add ((p : Int) - k).toNat) = some (.int .i64 y) := by rw [hpk, Int.toNat_natCast, World.cell?_alloc_lt _ _ _ (by rw [add_block]; exact hbb)]; exact hcb
        have HQ := Lib.hid hpk
        clear hx hy hca hcb hpk
        go_wp2
        go_quiet (fail)
        go_wp2
        · have he : (x == y) = true := by assumption
          go_roundw
          case rel => exact ⟨p + 1, q + 1, n + nq, by go_num, by omega, by have := HPQ.out; omega, by omega, by omega, (D_on HX.out HY.out (by simpa using he)).trans HD.out, rfl⟩
          case measure => simp [intOf]; omega
        · have he : (x == y) = false := by assumption
          go_ret
          exact ⟨p, q, rfl, slid_mk hip HPQ.out hp hq HD.out (.inr (.inr ⟨x, y, HX.out, HY.out, by simpa using he⟩)), below_drewN (below_drewN hB0 _) _⟩
      · have g1' : decide (p < xs.length) = true := by simpa using g1
        have g2' : decide ((p : Int) - k < ys.length) = false := by simp; omega
        have HQ := Lib.hid hpk
        clear hpk
        go_wp2
        go_quiet (fail)
        go_wp2
        go_ret
        exact ⟨p, q, rfl, slid_mk hip HPQ.out hp hq HD.out (.inr (.inl (by omega))), below_drewN (below_drewN hB0 _) _⟩
    · have g1' : decide (p < xs.length) = false := by simpa using g1
      have HQ := Lib.hid hpk
      clear hpk
      go_wp2
      go_quiet (fail)
      go_wp2
      go_ret
      exact ⟨p, q, rfl, slid_mk hip HPQ.out hp hq HD.out (.inl (by omega)), below_drewN (below_drewN hB0 _) _⟩

end Go.Proofs.Ytmonemgjgcfhlaa
