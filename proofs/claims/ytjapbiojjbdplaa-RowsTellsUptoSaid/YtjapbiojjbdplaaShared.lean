/-
  rows.sameAhead, rows.sameBehind, rows.Shared: what they return of any two lists of texts, and that they change nothing.
-/
import Derived.Test.YtjapbiojjbdplaaMem
import Derived.Deep.QuietTactic
import Derived.BigQuiet
namespace Go.Proofs.Ytjapbiojjbdplaa
open Go.RowKit
open Pl

theorem same_of {x y : ByteArray} (h : (x.toList == y.toList) = true) : x = y := by
  have e := eq_of_beq h
  rw [toList_data, toList_data] at e
  exact ByteArray.ext (Array.toList_inj.1 e)
theorem unlike_of {x y : ByteArray} (h : (x.toList == y.toList) = false) : x ≠ y := by
  rintro rfl
  simp at h
theorem at_getD {α : Type} {l : List α} {k : Nat} {x : α} (hk : k < l.length) (h : x = l[k]) : l[k]? = some x := by rw [h]; exact List.getElem?_eq_getElem hk

theorem ahead_on {ss ts : List ByteArray} {k : Nat} (hs : ∀ j, j < k → ss[j]? = ts[j]?) {x y : ByteArray} (hx : ss[k]? = some x) (hy : ts[k]? = some y) (h : x = y) : ∀ j, j < k + 1 → ss[j]? = ts[j]? := by
  intro j hj
  rcases Nat.lt_or_ge j k with g | g
  · exact hs j g
  · obtain rfl : j = k := by omega
    rw [hx, hy, h]
theorem ahead_end {ss ts : List ByteArray} {k : Nat} (h1 : k ≤ ss.length) (h2 : k ≤ ts.length) (hs : ∀ j, j < k → ss[j]? = ts[j]?) (hx : k = ss.length ∨ k = ts.length ∨ ss[k]? ≠ ts[k]?) : aheadL ss ts = k := ahead_char _ _ _ h1 h2 hs hx

set_option maxHeartbeats 1000000 in
set_option maxRecDepth 100000 in
theorem sameAhead_any (A B : Option Addr) (ss ts : List ByteArray) (c d H : Nat) (w : World) (ha : Strs w H A ss) (hb : Strs w H B ts) (h1 : ss.length ≤ 140737488355328) :
    Calls Try.prog 26 #[.slice A ss.length c, .slice B ts.length d] w fun e w' => e = .returned (.int .i64 (aheadL ss ts)) ∧ ∃ n, w' = w.drewN n := by
  go_enter Try.func26, Try.ntmps26
  go_wp2
  go_loopw [5] (fun i wr => ∃ k n : Nat, k ≤ ss.length ∧ k ≤ ts.length ∧ i = .int .i64 k ∧ wr = w.drewN n ∧ ∀ j, j < k → ss[j]? = ts[j]?) (fun i _ => ss.length - (intOf i).toNat)
  case atStart => exact ⟨0, 0, Nat.zero_le _, Nat.zero_le _, rfl, rfl, fun j hj => absurd hj (by omega)⟩
  case round =>
    obtain ⟨k, n, hk1, hk2, rfl, rfl, hs⟩ := hrel
    have HS := Lib.hid hs
    clear hs
    by_cases g1 : k < ss.length
    · by_cases g2 : k < ts.length
      · obtain ⟨a, rfl, hab, hca⟩ := ha.at_ g1
        obtain ⟨b, rfl, hbb, hcb⟩ := hb.at_ g2
        obtain ⟨x, hx⟩ : ∃ x, x = ss[k] := ⟨_, rfl⟩
        obtain ⟨y, hy⟩ : ∃ y, y = ts[k] := ⟨_, rfl⟩
        rw [← hx] at hca
        rw [← hy] at hcb
        have HX := Lib.hid (at_getD g1 hx)
        have HY := Lib.hid (at_getD g2 hy)
        clear hx hy
        go_wp2
        go_quiet (fail)
        go_wp2
        · have he : (x.toList == y.toList) = true := by assumption
          go_roundw
          case rel => exact ⟨k + 1, n + nq, by omega, by omega, by go_num, rfl, ahead_on HS.out HX.out HY.out (same_of he)⟩
          case measure => simp [intOf]; omega
        · have he : (x.toList == y.toList) = false := by assumption
          go_ret
          rw [ahead_end hk1 hk2 HS.out (.inr (.inr (by rw [HX.out, HY.out]; simpa using unlike_of he)))]
          exact ⟨rfl, n + nq, by rw [World.drewN_drewN]⟩
      · have g1' : decide (k < ss.length) = true := by simpa using g1
        have g2' : decide (k < ts.length) = false := by simpa using g2
        go_wp2
        go_quiet (fail)
        go_wp2
        go_ret
        rw [ahead_end hk1 hk2 HS.out (.inr (.inl (by omega)))]
        exact ⟨rfl, n + nq, by rw [World.drewN_drewN]⟩
    · have g1' : decide (k < ss.length) = false := by simpa using g1
      go_wp2
      go_quiet (fail)
      go_wp2
      go_ret
      rw [ahead_end hk1 hk2 HS.out (.inl (by omega))]
      exact ⟨rfl, n + nq, by rw [World.drewN_drewN]⟩

theorem behind_on {ss ts : List ByteArray} {k : Nat} (hs : ∀ j, j < k → ss[ss.length - 1 - j]? = ts[ts.length - 1 - j]?) {x y : ByteArray} (hx : ss[ss.length - 1 - k]? = some x) (hy : ts[ts.length - 1 - k]? = some y) (h : x = y) : ∀ j, j < k + 1 → ss[ss.length - 1 - j]? = ts[ts.length - 1 - j]? := by
  intro j hj
  rcases Nat.lt_or_ge j k with g | g
  · exact hs j g
  · obtain rfl : j = k := by omega
    rw [hx, hy, h]

set_option maxHeartbeats 1000000 in
set_option maxRecDepth 100000 in
theorem sameBehind_any (A B : Option Addr) (ss ts : List ByteArray) (c d H : Nat) (w : World) (ha : Strs w H A ss) (hb : Strs w H B ts) (h1 : ss.length ≤ 140737488355328) (h2 : ts.length ≤ 140737488355328) :
    Calls Try.prog 27 #[.slice A ss.length c, .slice B ts.length d] w fun e w' => e = .returned (.int .i64 (behindL ss ts)) ∧ ∃ n, w' = w.drewN n := by
  go_enter Try.func27, Try.ntmps27
  go_wp2
  go_loopw [5] (fun i wr => ∃ k n : Nat, k ≤ ss.length ∧ k ≤ ts.length ∧ i = .int .i64 k ∧ wr = w.drewN n ∧ ∀ j, j < k → ss[ss.length - 1 - j]? = ts[ts.length - 1 - j]?) (fun i _ => ss.length - (intOf i).toNat)
  case atStart => exact ⟨0, 0, Nat.zero_le _, Nat.zero_le _, rfl, rfl, fun j hj => absurd hj (by omega)⟩
  case round =>
    obtain ⟨k, n, hk1, hk2, rfl, rfl, hs⟩ := hrel
    have HS := Lib.hid hs
    clear hs
    by_cases g1 : k < ss.length
    · by_cases g2 : k < ts.length
      · obtain ⟨p, hp⟩ : ∃ p, p = ss.length - 1 - k := ⟨_, rfl⟩
        obtain ⟨q, hq⟩ : ∃ q, q = ts.length - 1 - k := ⟨_, rfl⟩
        have gp : p < ss.length := by omega
        have gq : q < ts.length := by omega
        obtain ⟨a, rfl, hab, hca⟩ := ha.at_ gp
        obtain ⟨b, rfl, hbb, hcb⟩ := hb.at_ gq
        obtain ⟨x, hx⟩ : ∃ x, x = ss[p] := ⟨_, rfl⟩
        obtain ⟨y, hy⟩ : ∃ y, y = ts[q] := ⟨_, rfl⟩
        rw [← hx] at hca
        rw [← hy] at hcb
        have HX := Lib.hid (at_getD gp hx)
        have HY := Lib.hid (at_getD gq hy)
        have HP := Lib.hid hp
        have HQ := Lib.hid hq
        have e1 : IntKind.i64.wrap ((ss.length : Int) - 1) = (ss.length : Int) - 1 := IntWalk.i64_in _ (by omega)
        have e2 : IntKind.i64.wrap ((ss.length : Int) - 1 - k) = p := by rw [IntWalk.i64_in _ (by omega)]; omega
        have e3 : IntKind.i64.wrap ((ts.length : Int) - 1) = (ts.length : Int) - 1 := IntWalk.i64_in _ (by omega)
        have e4 : IntKind.i64.wrap ((ts.length : Int) - 1 - k) = q := by rw [IntWalk.i64_in _ (by omega)]; omega
        clear hx hy hp hq
        go_wp2
        go_quiet (fail)
        clear e1 e2 e3 e4
        go_wp2
        · have he : (x.toList == y.toList) = true := by assumption
          go_roundw
          case rel => exact ⟨k + 1, n + nq, by omega, by omega, by go_num, rfl, behind_on HS.out (by rw [← HP.out]; exact HX.out) (by rw [← HQ.out]; exact HY.out) (same_of he)⟩
          case measure => simp [intOf]; omega
        · have he : (x.toList == y.toList) = false := by assumption
          go_ret
          rw [behind_char ss ts k hk1 hk2 HS.out (.inr (.inr (by rw [← HP.out, ← HQ.out, HX.out, HY.out]; simpa using unlike_of he)))]
          exact ⟨rfl, n + nq, by rw [World.drewN_drewN]⟩
      · have g1' : decide (k < ss.length) = true := by simpa using g1
        have g2' : decide (k < ts.length) = false := by simpa using g2
        go_wp2
        go_quiet (fail)
        go_wp2
        go_ret
        rw [behind_char ss ts k hk1 hk2 HS.out (.inr (.inl (by omega)))]
        exact ⟨rfl, n + nq, by rw [World.drewN_drewN]⟩
    · have g1' : decide (k < ss.length) = false := by simpa using g1
      go_wp2
      go_quiet (fail)
      go_wp2
      go_ret
      rw [behind_char ss ts k hk1 hk2 HS.out (.inl (by omega))]
      exact ⟨rfl, n + nq, by rw [World.drewN_drewN]⟩

theorem sameBehind_at (A B : Option Addr) (ss ts : List ByteArray) (l m c d H : Nat) (w : World) (ha : Strs w H A ss) (hb : Strs w H B ts) (hl : ss.length = l) (hm : ts.length = m) (h1 : l ≤ 140737488355328) (h2 : m ≤ 140737488355328) :
    Calls Try.prog 27 #[.slice A l c, .slice B m d] w fun e w' => e = .returned (.int .i64 (behindL ss ts)) ∧ ∃ n, w' = w.drewN n := by
  subst hl hm
  exact sameBehind_any A B ss ts c d H w ha hb h1 h2

set_option maxHeartbeats 1000000 in
set_option maxRecDepth 100000 in
theorem shared_any (A B : Option Addr) (ss ts : List ByteArray) (c d H : Nat) (w : World) (ha : Strs w H A ss) (hb : Strs w H B ts) (h1 : ss.length ≤ c) (h2 : ts.length ≤ d) (h3 : ss.length ≤ 140737488355328) (h4 : ts.length ≤ 140737488355328) :
    Calls Try.prog 16 #[.slice A ss.length c, .slice B ts.length d] w fun e w' => e = .returned (.tuple #[.int .i64 (aheadL ss ts), .int .i64 (behindL (ss.drop (aheadL ss ts)) (ts.drop (aheadL ss ts)))]) ∧ ∃ n, w' = w.drewN n := by
  obtain ⟨hk1, hk2⟩ := ahead_le ss ts
  go_enter Try.func16, Try.ntmps16
  go_wp2_with (go_at_call 26; refine (sameAhead_any _ _ _ _ _ _ _ _ ha hb (by omega)).mono ?_; rintro e w1 ⟨rfl, hn⟩)
  have HN := Lib.hid hn
  have ha1 : Strs w1 H A ss := by obtain ⟨n, rfl⟩ := hn; exact ha.drewN n
  have hb1 : Strs w1 H B ts := by obtain ⟨n, rfl⟩ := hn; exact hb.drewN n
  have hd1 := ha1.drop (aheadL ss ts) c hk1 h1
  have hd2 := hb1.drop (aheadL ss ts) d hk2 h2
  clear hn
  generalize hk : aheadL ss ts = k at *
  have HK := Lib.hid hk
  clear hk
  go_quiet ((go_at_call 27; exact Calls.quiet_of (sameBehind_at _ _ (ss.drop k) (ts.drop k) _ _ _ _ H _ (hd1.drewN _) (hd2.drewN _) (by simp) (by simp) (by omega) (by omega))))
  go_wp2
  all_goals
    go_ret2
    obtain ⟨n, rfl⟩ := HN.out
    rw [HK.out]
    exact ⟨rfl, n + nq, by rw [World.drewN_drewN]⟩

end Go.Proofs.Ytjapbiojjbdplaa
