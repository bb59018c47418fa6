/-
  collatorlaw03.RowsShared: whatever the raw numbers, it returns true.
-/
import Derived.Test.YtjapbiojjbdplaaLines
namespace Go.Proofs.Ytjapbiojjbdplaa
open Go.RowKit
open Pl

theorem behind_comm {α : Type} [DecidableEq α] (a b : List α) : behindL a b = behindL b a := ahead_comm _ _
theorem behind_le {α : Type} [DecidableEq α] (a b : List α) : behindL a b ≤ a.length ∧ behindL a b ≤ b.length := by
  have := ahead_le a.reverse b.reverse
  simpa [behindL] using this
theorem behind_same {α : Type} [DecidableEq α] (a b : List α) (j : Nat) (h : j < behindL a b) : a[a.length - 1 - j]? = b[b.length - 1 - j]? := by
  obtain ⟨h1, h2⟩ := behind_le a b
  have := ahead_same a.reverse b.reverse j h
  rwa [List.getElem?_reverse (by omega), List.getElem?_reverse (by omega)] at this
theorem behind_stop {α : Type} [DecidableEq α] (a b : List α) (h1 : behindL a b < a.length) (h2 : behindL a b < b.length) : a[a.length - 1 - behindL a b]? ≠ b[b.length - 1 - behindL a b]? := by
  have := ahead_stop a.reverse b.reverse (by simpa [behindL] using h1) (by simpa [behindL] using h2)
  rwa [List.getElem?_reverse (by unfold behindL at h1; omega), List.getElem?_reverse (by unfold behindL at h2; omega)] at this
/-- what two lists share, in one sentence -/
theorem shared_facts {α : Type} [DecidableEq α] (a b : List α) : ∃ n m, aheadL a b = n ∧ behindL (a.drop n) (b.drop n) = m ∧ aheadL b a = n ∧ behindL (b.drop n) (a.drop n) = m ∧ n + m ≤ a.length ∧ n + m ≤ b.length ∧
    (∀ j, j < n → a[j]? = b[j]?) ∧ (∀ j, j < m → a[a.length - 1 - j]? = b[b.length - 1 - j]?) ∧ (n < a.length → n < b.length → a[n]? ≠ b[n]?) ∧ (n + m < a.length → n + m < b.length → a[a.length - 1 - m]? ≠ b[b.length - 1 - m]?) := by
  obtain ⟨g1, g2⟩ := ahead_le a b
  obtain ⟨g3, g4⟩ := behind_le (a.drop (aheadL a b)) (b.drop (aheadL a b))
  rw [List.length_drop] at g3 g4
  refine ⟨_, _, rfl, rfl, ahead_comm b a, behind_comm _ _, by omega, by omega, fun j hj => ahead_same a b j hj, fun j hj => ?_, fun h1 h2 => ahead_stop a b h1 h2, fun h1 h2 => ?_⟩
  · have := behind_same _ _ j hj
    rw [List.length_drop, List.length_drop, List.getElem?_drop, List.getElem?_drop] at this
    rwa [show aheadL a b + (a.length - aheadL a b - 1 - j) = a.length - 1 - j from by omega, show aheadL a b + (b.length - aheadL a b - 1 - j) = b.length - 1 - j from by omega] at this
  · have := behind_stop (a.drop (aheadL a b)) (b.drop (aheadL a b)) (by rw [List.length_drop]; omega) (by rw [List.length_drop]; omega)
    rw [List.length_drop, List.length_drop, List.getElem?_drop, List.getElem?_drop] at this
    rwa [show aheadL a b + (a.length - aheadL a b - 1 - behindL (a.drop (aheadL a b)) (b.drop (aheadL a b))) = a.length - 1 - behindL (a.drop (aheadL a b)) (b.drop (aheadL a b)) from by omega, show aheadL a b + (b.length - aheadL a b - 1 - behindL (a.drop (aheadL a b)) (b.drop (aheadL a b))) = b.length - 1 - behindL (a.drop (aheadL a b)) (b.drop (aheadL a b)) from by omega] at this

theorem lines_le (zs : List Int) : (linesL zs).length ≤ 20 := by rw [linesL_length, plainL_length]; omega

/-- Lines, its answer as a list that is read -/
theorem lines_at (A : Option Addr) (zs : List Int) (c : Nat) (w : World) (ha : Ints w w.heap.size A zs) (h1 : zs.length ≤ 140737488355328) (hz : ∀ z ∈ zs, -9223372036854775808 ≤ z ∧ z ≤ 9223372036854775807) :
    Calls Try.prog 10 #[.slice A zs.length c, .int .i64 20] w fun e w' => ∃ A' c', e = .returned (.slice A' (linesL zs).length c') ∧ Strs w' w'.heap.size A' (linesL zs) ∧ (linesL zs).length ≤ c' ∧ Below w.heap.size w w' := by
  refine (lines_any A zs c w ha h1 hz).mono ?_
  rintro e w' ⟨A', c', rfl, hown, hb⟩
  obtain ⟨_, _, he, hc, _⟩ := row_shape hown
  injection he with e1 e2 e3
  subst e3
  exact ⟨A', c', rfl, Strs.of_own hown, hc, hb⟩

set_option maxHeartbeats 4000000 in
set_option maxRecDepth 100000 in
theorem sharedLaw_walk (A B : Option Addr) (zs ts : List Int) (c d : Nat) (w : World) (ha : Ints w w.heap.size A zs) (hb : Ints w w.heap.size B ts) (h1 : zs.length ≤ 140737488355328) (h2 : ts.length ≤ 140737488355328)
    (hz : ∀ z ∈ zs, -9223372036854775808 ≤ z ∧ z ≤ 9223372036854775807) (ht : ∀ z ∈ ts, -9223372036854775808 ≤ z ∧ z ≤ 9223372036854775807) :
    Calls Try.prog 6 #[.slice A zs.length c, .slice B ts.length d] w fun e w' => e = .returned (.bool true) ∧ Below w.heap.size w w' := by
  have HZ := Lib.hid hz
  have HT := Lib.hid ht
  clear hz ht
  go_enter Try.func6, Try.ntmps6
  go_wp2_with fail
  refine (awake_any _).mono ?_
  rintro e w1 ⟨rfl, hb1⟩
  go_wp2_with fail
  refine (lines_at _ zs _ _ ((ha.below hb1).more hb1.size) h1 HZ.out).mono ?_
  rintro e w2 ⟨A2, c2, rfl, hA2, hc2, hb2⟩
  replace hb1 := hb1.trans (hb2.mono hb1.size)
  clear hb2
  go_wp2_with fail
  refine (lines_at _ ts _ _ ((hb.below hb1).more hb1.size) h2 HT.out).mono ?_
  rintro e w3 ⟨A3, c3, rfl, hA3, hc3, hb3⟩
  replace hb1 := hb1.trans (hb3.mono hb1.size)
  replace hA2 := (hA2.below hb3).more hb3.size
  clear hb3
  have la := lines_le zs
  have lb := lines_le ts
  generalize linesL zs = a at *
  generalize linesL ts = b at *
  obtain ⟨n, m, e1, e2, e3, e4, hn1, hn2, hs1, hs2, hs3, hs4⟩ := shared_facts a b
  have E1 := Lib.hid e1
  have E2 := Lib.hid e2
  have E3 := Lib.hid e3
  have E4 := Lib.hid e4
  have S1 := Lib.hid hs1
  have S2 := Lib.hid hs2
  have S3 := Lib.hid hs3
  have S4 := Lib.hid hs4
  clear e1 e2 e3 e4 hs1 hs2 hs3 hs4
  go_wp2_with fail
  refine (shared_at _ _ a b _ _ _ _ _ n m _ hA2 hA3 rfl rfl hc2 hc3 (by omega) (by omega) (by rw [E1.out]) (by rw [E1.out, E2.out])).mono ?_
  rintro e w4 ⟨rfl, hb4⟩
  replace hb1 := hb1.trans (hb4.mono hb1.size)
  replace hA2 := (hA2.below hb4).more hb4.size
  replace hA3 := (hA3.below hb4).more hb4.size
  clear hb4
  go_wp2_with fail
  refine (shared_at _ _ b a _ _ _ _ _ n m _ hA3 hA2 rfl rfl hc3 hc2 (by omega) (by omega) (by rw [E3.out]) (by rw [E3.out, E4.out])).mono ?_
  rintro e w5 ⟨rfl, hb5⟩
  replace hb1 := hb1.trans (hb5.mono hb1.size)
  replace hA2 := (hA2.below hb5).more hb5.size
  replace hA3 := (hA3.below hb5).more hb5.size
  clear hb5
  go_wp2_with fail
  go_loopw [12] (fun i wr => ∃ k q : Nat, k ≤ n ∧ i = .int .i64 k ∧ wr = w5.drewN q) (fun i _ => n - (intOf i).toNat)
  case atStart => exact ⟨0, 0, Nat.zero_le _, rfl, rfl⟩
  case round =>
    obtain ⟨k, q, hk, rfl, rfl⟩ := hrel
    by_cases hlt : k < n
    · obtain ⟨a1, rfl, _, hca⟩ := hA2.at_ (show k < a.length by omega)
      obtain ⟨b1, rfl, _, hcb⟩ := hA3.at_ (show k < b.length by omega)
      have hxy : a[k]'(by omega) = b[k]'(by omega) := by
        have := S1.out k hlt
        rw [List.getElem?_eq_getElem (by omega), List.getElem?_eq_getElem (by omega)] at this
        injection this
      rw [← hxy] at hcb
      clear hxy
      generalize a[k]'(by omega) = x at hca hcb
      have hxx : (x.toList == x.toList) = true := by simp
      go_wp2
      go_quiet (fail)
      go_wp2
      go_roundw
      case rel => exact ⟨k + 1, q + nq, by omega, by go_num, rfl⟩
      case measure => simp [intOf]; omega
    · obtain ⟨w6, hw6⟩ : ∃ w6, w6 = w5.drewN q := ⟨_, rfl⟩
      replace hA2 : Strs w6 w6.heap.size A2 a := by rw [hw6]; exact hA2.drewN q
      replace hA3 : Strs w6 w6.heap.size A3 b := by rw [hw6]; exact hA3.drewN q
      replace hb1 : Below w.heap.size w w6 := by rw [hw6]; exact below_drewN hb1 q
      rw [← hw6]
      clear hw6
      go_wp2
      go_loopw [13] (fun i wr => ∃ k q : Nat, k ≤ m ∧ i = .int .i64 k ∧ wr = w6.drewN q) (fun i _ => m - (intOf i).toNat)
      case atStart => exact ⟨0, 0, Nat.zero_le _, rfl, rfl⟩
      case round =>
        obtain ⟨j, r, hj, rfl, rfl⟩ := hrel
        by_cases hlt2 : j < m
        · obtain ⟨P, hP⟩ : ∃ P, P = a.length - 1 - j := ⟨_, rfl⟩
          obtain ⟨Q, hQ⟩ : ∃ Q, Q = b.length - 1 - j := ⟨_, rfl⟩
          have gP : P < a.length := by omega
          have gQ : Q < b.length := by omega
          obtain ⟨a1, rfl, _, hca⟩ := hA2.at_ gP
          obtain ⟨b1, rfl, _, hcb⟩ := hA3.at_ gQ
          have hxy : a[P] = b[Q] := by
            have := S2.out j hlt2
            rw [← hP, ← hQ, List.getElem?_eq_getElem gP, List.getElem?_eq_getElem gQ] at this
            injection this
          rw [← hxy] at hcb
          clear hxy
          generalize a[P] = x at hca hcb
          have hxx : (x.toList == x.toList) = true := by simp
          have e1 : IntKind.i64.wrap ((a.length : Int) - 1) = (a.length : Int) - 1 := IntWalk.i64_in _ (by omega)
          have e2 : IntKind.i64.wrap ((a.length : Int) - 1 - j) = P := by rw [IntWalk.i64_in _ (by omega)]; omega
          have e3 : IntKind.i64.wrap ((b.length : Int) - 1) = (b.length : Int) - 1 := IntWalk.i64_in _ (by omega)
          have e4 : IntKind.i64.wrap ((b.length : Int) - 1 - j) = Q := by rw [IntWalk.i64_in _ (by omega)]; omega
          clear hP hQ
          go_wp2
          go_quiet (fail)
          clear e1 e2 e3 e4
          go_wp2
          go_roundw
          case rel => exact ⟨j + 1, r + nq, by omega, by go_num, rfl⟩
          case measure => simp [intOf]; omega
        · obtain ⟨w7, hw7⟩ : ∃ w7, w7 = w6.drewN r := ⟨_, rfl⟩
          replace hA2 : Strs w7 w7.heap.size A2 a := by rw [hw7]; exact hA2.drewN r
          replace hA3 : Strs w7 w7.heap.size A3 b := by rw [hw7]; exact hA3.drewN r
          replace hb1 : Below w.heap.size w w7 := by rw [hw7]; exact below_drewN hb1 r
          rw [← hw7]
          clear hw7
          have e5 : IntKind.i64.wrap ((n : Int) + m) = (n : Int) + m := IntWalk.i64_in _ (by omega)
          by_cases g : n < a.length ∧ n < b.length
          · obtain ⟨ga, gb⟩ := g
            have d1 : decide ((n : Int) < min (a.length : Int) (b.length : Int)) = true := by simp; omega
            obtain ⟨a1, rfl, _, hca⟩ := hA2.at_ ga
            obtain ⟨b1, rfl, _, hcb⟩ := hA3.at_ gb
            have hxy : a[n] ≠ b[n] := by
              intro e
              exact S3.out ga gb (by rw [List.getElem?_eq_getElem ga, List.getElem?_eq_getElem gb, e])
            generalize a[n] = x at hca hxy
            generalize b[n] = y at hcb hxy
            have hxx : (x.toList == y.toList) = false := by
              rw [beq_eq_false_iff_ne]; intro e; rw [toList_data, toList_data] at e; exact hxy (ByteArray.ext (Array.toList_inj.1 e))
            clear hxy
            by_cases gm : n + m < a.length ∧ n + m < b.length
            · have d2 : decide ((n : Int) + m < min (a.length : Int) (b.length : Int)) = true := by simp; omega
              obtain ⟨P, hP⟩ : ∃ P, P = a.length - 1 - m := ⟨_, rfl⟩
              obtain ⟨Q, hQ⟩ : ∃ Q, Q = b.length - 1 - m := ⟨_, rfl⟩
              have gP : P < a.length := by omega
              have gQ : Q < b.length := by omega
              obtain ⟨a1', ea, _, hca2⟩ := hA2.at_ gP
              obtain ⟨b1', eb, _, hcb2⟩ := hA3.at_ gQ
              injection ea with ea
              injection eb with eb
              subst ea eb
              have hxy2 : a[P] ≠ b[Q] := by
                intro e
                exact S4.out gm.1 gm.2 (by rw [← hP, ← hQ, List.getElem?_eq_getElem gP, List.getElem?_eq_getElem gQ, e])
              generalize a[P] = x2 at hca2 hxy2
              generalize b[Q] = y2 at hcb2 hxy2
              have hxx2 : (x2.toList == y2.toList) = false := by
                rw [beq_eq_false_iff_ne]; intro e; rw [toList_data, toList_data] at e; exact hxy2 (ByteArray.ext (Array.toList_inj.1 e))
              clear hxy2
              have e1 : IntKind.i64.wrap ((a.length : Int) - 1) = (a.length : Int) - 1 := IntWalk.i64_in _ (by omega)
              have e2 : IntKind.i64.wrap ((a.length : Int) - 1 - m) = P := by rw [IntWalk.i64_in _ (by omega)]; omega
              have e3 : IntKind.i64.wrap ((b.length : Int) - 1) = (b.length : Int) - 1 := IntWalk.i64_in _ (by omega)
              have e4 : IntKind.i64.wrap ((b.length : Int) - 1 - m) = Q := by rw [IntWalk.i64_in _ (by omega)]; omega
              clear hP hQ gm
              go_wp2
              go_quiet (fail)
              clear e1 e2 e3 e4 e5
              go_wp2_with fail
              refine (shared_at _ _ a a _ _ _ _ _ (a.length : Int) 0 _ (hA2.drewN _) (hA2.drewN _) rfl rfl hc2 hc2 (by omega) (by omega) (by rw [ahead_self]) (by rw [ahead_self, List.drop_length]; rfl)).mono ?_
              rintro e w8 ⟨rfl, hb8⟩
              go_wp2_with fail
              go_ret
              exact ⟨rfl, (below_drewN hb1 _).trans (hb8.mono hb1.size)⟩
            · have d2 : decide ((n : Int) + m < min (a.length : Int) (b.length : Int)) = false := by simp; omega
              clear gm
              go_wp2
              go_quiet (fail)
              clear e5
              go_wp2_with fail
              refine (shared_at _ _ a a _ _ _ _ _ (a.length : Int) 0 _ (hA2.drewN _) (hA2.drewN _) rfl rfl hc2 hc2 (by omega) (by omega) (by rw [ahead_self]) (by rw [ahead_self, List.drop_length]; rfl)).mono ?_
              rintro e w8 ⟨rfl, hb8⟩
              go_wp2_with fail
              go_ret
              exact ⟨rfl, (below_drewN hb1 _).trans (hb8.mono hb1.size)⟩
          · have d1 : decide ((n : Int) < min (a.length : Int) (b.length : Int)) = false := by simp; omega
            have d2 : decide ((n : Int) + m < min (a.length : Int) (b.length : Int)) = false := by simp; omega
            clear g
            go_wp2
            go_quiet (fail)
            clear e5
            go_wp2_with fail
            refine (shared_at _ _ a a _ _ _ _ _ (a.length : Int) 0 _ (hA2.drewN _) (hA2.drewN _) rfl rfl hc2 hc2 (by omega) (by omega) (by rw [ahead_self]) (by rw [ahead_self, List.drop_length]; rfl)).mono ?_
            rintro e w8 ⟨rfl, hb8⟩
            go_wp2_with fail
            go_ret
            exact ⟨rfl, (below_drewN hb1 _).trans (hb8.mono hb1.size)⟩

end Go.Proofs.Ytjapbiojjbdplaa
