/-
  collatorref01.Texts: whether two lists of texts are the same. rows.Right: whether lines are right. Both only read.
-/
import Derived.Test.YtjapbiojjbdplaaShared
namespace Go.Proofs.Ytjapbiojjbdplaa
open Go.RowKit
open Pl

theorem ext_of {ss ts : List ByteArray} (h : ss.length = ts.length) (hs : ∀ j, j < ss.length → ss[j]? = ts[j]?) : ss = ts := by
  apply List.ext_getElem?
  intro j
  rcases Nat.lt_or_ge j ss.length with g | g
  · exact hs j g
  · rw [List.getElem?_eq_none g, List.getElem?_eq_none (by omega)]

set_option maxHeartbeats 1000000 in
set_option maxRecDepth 100000 in
theorem texts_any (A B : Option Addr) (ss ts : List ByteArray) (c d H : Nat) (w : World) (ha : Strs w H A ss) (hb : Strs w H B ts) (h1 : ss.length ≤ 140737488355328) :
    Calls Try.prog 18 #[.slice A ss.length c, .slice B ts.length d] w fun e w' => e = .returned (.bool (decide (ss = ts))) ∧ ∃ n, w' = w.drewN n := by
  by_cases hl : ss.length = ts.length
  · have hl' : (((ss.length : Int) != (ts.length : Int)) : Bool) = false := by rw [hl]; simp
    have HL := Lib.hid hl
    have hle : ts.length ≤ ss.length := by omega
    have hge : ss.length ≤ ts.length := by omega
    clear hl
    go_enter Try.func18, Try.ntmps18
    go_wp2
    go_loopw [5] (fun i wr => ∃ k n : Nat, k ≤ ss.length ∧ i = .int .i64 k ∧ wr = w.drewN n ∧ ∀ j, j < k → ss[j]? = ts[j]?) (fun i _ => ss.length - (intOf i).toNat)
    case atStart => exact ⟨0, 0, Nat.zero_le _, rfl, rfl, fun j hj => absurd hj (by omega)⟩
    case round =>
      obtain ⟨k, n, hk1, rfl, rfl, hs⟩ := hrel
      have HS := Lib.hid hs
      clear hs hl'
      by_cases g1 : k < ss.length
      · have g2 : k < ts.length := by omega
        obtain ⟨a, rfl, hab, hca⟩ := ha.at_ g1
        obtain ⟨b, rfl, hbb, hcb⟩ := hb.at_ g2
        obtain ⟨x, hx⟩ : ∃ x, x = ss[k] := ⟨_, rfl⟩
        obtain ⟨y, hy⟩ : ∃ y, y = ts[k] := ⟨_, rfl⟩
        rw [← hx] at hca
        rw [← hy] at hcb
        have HX := Lib.hid (at_getD g1 hx)
        have HY := Lib.hid (at_getD g2 hy)
        clear hx hy
        go_wp2
        go_quiet (fail)
        go_wp2
        · have he : (!x.toList == y.toList) = true := by assumption
          have hne : x ≠ y := unlike_of (by simpa using he)
          go_ret
          rw [decide_eq_false (fun e => hne (by have h1 := HX.out; rw [e, HY.out] at h1; injection h1 with h1; exact h1.symm))]
          exact ⟨rfl, n + nq, by rw [World.drewN_drewN]⟩
        · have he : (!x.toList == y.toList) = false := by assumption
          go_roundw
          case rel => exact ⟨k + 1, n + nq, by omega, by go_num, rfl, ahead_on HS.out HX.out HY.out (same_of (by simpa using he))⟩
          case measure => simp [intOf]; omega
      · go_wp2
        go_ret
        have e : ss = ts := ext_of HL.out (fun j hj => HS.out j (by omega))
        rw [decide_eq_true e]
        exact ⟨rfl, n, rfl⟩
  · have hl' : (((ss.length : Int) != (ts.length : Int)) : Bool) = true := by simp; omega
    go_enter Try.func18, Try.ntmps18
    go_wp2
    go_ret
    rw [decide_eq_false (fun e => hl (by rw [e]))]
    exact ⟨rfl, 0, rfl⟩

/-- a text's bytes -/
def txt (s : ByteArray) : List UInt8 := s.data.toList
def txts (ss : List ByteArray) : List (List UInt8) := ss.map txt
theorem txts_length (ss : List ByteArray) : (txts ss).length = ss.length := by simp [txts]
theorem okAt_eq {ss : List ByteArray} {k : Nat} {x : ByteArray} (hx : ss[k]? = some x) : okAt (txts ss) k = (isLineB (txt x) && (k + 1 == ss.length || feedB (txt x))) := by
  unfold okAt
  have : (txts ss).getD k [] = txt x := by simp [txts, hx]
  rw [this, txts_length]

theorem ok_on {ss : List ByteArray} {k : Nat} (hs : ∀ j, j < k → okAt (txts ss) j = true) (h : okAt (txts ss) k = true) : ∀ j, j < k + 1 → okAt (txts ss) j = true := by
  intro j hj
  rcases Nat.lt_or_ge j k with g | g
  · exact hs j g
  · obtain rfl : j = k := by omega
    exact h

set_option maxHeartbeats 1000000 in
set_option maxRecDepth 100000 in
theorem right_any (A : Option Addr) (ss : List ByteArray) (c H : Nat) (w : World) (ha : Strs w H A ss) (h1 : ss.length ≤ 140737488355328) (hsz : ∀ s ∈ ss, s.size ≤ 140737488355328) :
    Calls Try.prog 14 #[.slice A ss.length c] w fun e w' => e = .returned (.bool (rightL (txts ss))) ∧ w = w' := by
  have HSZ := Lib.hid hsz
  clear hsz
  go_enter Try.func14, Try.ntmps14
  go_wp2
  go_loop [3, 4, 5, 8] (fun _ _ _ i => ∃ k : Nat, k ≤ ss.length ∧ i = .int .i64 k ∧ ∀ j, j < k → okAt (txts ss) j = true) (fun _ _ _ i => ss.length - (intOf i).toNat)
  case atStart => exact ⟨0, Nat.zero_le _, rfl, fun j hj => absurd hj (by omega)⟩
  case round =>
    obtain ⟨k, hk1, rfl, hs⟩ := hrel
    have HS := Lib.hid hs
    clear hs
    by_cases g1 : k < ss.length
    · obtain ⟨a, rfl, hab, hca⟩ := ha.at_ g1
      obtain ⟨x, hx⟩ : ∃ x, x = ss[k] := ⟨_, rfl⟩
      rw [← hx] at hca
      have hxs : x.size ≤ 140737488355328 := HSZ.out x (by rw [hx]; exact List.getElem_mem _)
      have HX := Lib.hid (okAt_eq (at_getD g1 hx))
      clear hx
      go_wp2_with (first
        | (go_at_call 23; refine (isLine_any _ _ hxs).mono ?_; rintro e w' ⟨rfl, rfl⟩)
        | (go_at_call 24; refine (hasFeed_any _ _ hxs).mono ?_; rintro e w' ⟨rfl, rfl⟩))
      · have e1 : isLineB x.data.toList = true := by assumption
        have e2 : (k : Int) = (ss.length : Int) - 1 := by assumption
        have hok : okAt (txts ss) k = true := by rw [HX.out, txt, e1]; simp; omega
        go_round
        case rel => exact ⟨ss.length, Nat.le_refl _, rfl, fun j hj => ok_on HS.out hok j (by omega)⟩
        case measure => simp [intOf]; omega
      · have e1 : isLineB x.data.toList = true := by assumption
        have e2 : ¬ (k : Int) = (ss.length : Int) - 1 := by assumption
        have e3 : (!((k : Int) == (ss.length : Int) - 1)) = true ∧ (!feedB x.data.toList) = true := by assumption
        have hok : okAt (txts ss) k = false := by rw [HX.out, txt, e1]; simp at e3 ⊢; exact ⟨by omega, e3.2⟩
        go_ret
        rw [rightL_not _ k (by rw [txts_length]; exact g1) hok]
        exact ⟨rfl, rfl⟩
      · have e1 : isLineB x.data.toList = true := by assumption
        have e2 : ¬ (k : Int) = (ss.length : Int) - 1 := by assumption
        have e3 : (!((k : Int) == (ss.length : Int) - 1)) = false ∨ (!feedB x.data.toList) = false := by assumption
        have e4 : feedB x.data.toList = true := by
          rcases e3 with e3 | e3
          · simp at e3; exact absurd e3 e2
          · simpa using e3
        have hok : okAt (txts ss) k = true := by rw [HX.out, txt, e1, e4]; simp
        go_round
        case rel => exact ⟨k + 1, by omega, by go_num, ok_on HS.out hok⟩
        case measure => simp [intOf]; omega
      · have e1 : ¬ isLineB x.data.toList = true := by assumption
        have hok : okAt (txts ss) k = false := by rw [HX.out, txt]; simp [e1]
        go_ret
        rw [rightL_not _ k (by rw [txts_length]; exact g1) hok]
        exact ⟨rfl, rfl⟩
    · go_wp2
      go_ret
      rw [rightL_of _ (fun i hi => HS.out i (by rw [txts_length] at hi; omega))]
      exact ⟨rfl, rfl⟩

end Go.Proofs.Ytjapbiojjbdplaa
