/-
  collatorref01.Texts: whether two lists of texts are the same; strings.Clone: the same text. Nothing that was there is changed.
-/
import Derived.Test.YtmonemgjgcfhlaaMem
namespace Go.Proofs.Ytmonemgjgcfhlaa
open Go.RowKit

theorem toList_data (s : ByteArray) : s.toList = s.data.toList := Lib.toList_data s
theorem same_of {x y : ByteArray} (h : (x.toList == y.toList) = true) : x = y := by
  have e := eq_of_beq h
  rw [toList_data, toList_data] at e
  exact ByteArray.ext (Array.toList_inj.1 e)
theorem unlike_of {x y : ByteArray} (h : (x.toList == y.toList) = false) : x ≠ y := by
  rintro rfl
  simp at h
theorem ahead_on {ss ts : List ByteArray} {k : Nat} (hs : ∀ j, j < k → ss[j]? = ts[j]?) {x y : ByteArray} (hx : ss[k]? = some x) (hy : ts[k]? = some y) (h : x = y) : ∀ j, j < k + 1 → ss[j]? = ts[j]? := by
  intro j hj
  rcases Nat.lt_or_ge j k with g | g
  · exact hs j g
  · obtain rfl : j = k := by omega
    rw [hx, hy, h]


theorem ext_of {ss ts : List ByteArray} (h : ss.length = ts.length) (hs : ∀ j, j < ss.length → ss[j]? = ts[j]?) : ss = ts := by
  apply List.ext_getElem?
  intro j
  rcases Nat.lt_or_ge j ss.length with g | g
  · exact hs j g
  · rw [List.getElem?_eq_none g, List.getElem?_eq_none (by omega)]

set_option maxHeartbeats 1000000 in
set_option maxRecDepth 100000 in
theorem texts_any (A B : Option Addr) (ss ts : List ByteArray) (c d H : Nat) (w : World) (ha : Strs w H A ss) (hb : Strs w H B ts) (h1 : ss.length ≤ 140737488355328) :
    Calls Try.prog 20 #[.slice A ss.length c, .slice B ts.length d] w fun e w' => e = .returned (.bool (decide (ss = ts))) ∧ ∃ n, w' = w.drewN n := by
  by_cases hl : ss.length = ts.length
  · have hl' : (((ss.length : Int) != (ts.length : Int)) : Bool) = false := by rw [hl]; simp
    have HL := Lib.hid hl
    have hle : ts.length ≤ ss.length := by omega
    have hge : ss.length ≤ ts.length := by omega
    clear hl
    go_enter Try.func20, Try.ntmps20
    go_wp2
    go_loopw [5] (fun i wr => ∃ k n : Nat, k ≤ ss.length ∧ i = .int .i64 k ∧ wr = w.drewN n ∧ ∀ j, j < k → ss[j]? = ts[j]?) (fun i _ => ss.length - (intOf i).toNat)
    case atStart => exact ⟨0, 0, Nat.zero_le _, rfl, rfl, fun j hj => absurd hj (by omega)⟩
    case round =>
      obtain ⟨k, n, hk1, rfl, rfl, hs⟩ := hrel
      have HS := Lib.hid hs
      clear hs hl'
      by_cases g1 : k < ss.length
      · have g2 : k < ts.length := by omega
        obtain ⟨a, rfl, hab, hca⟩ := ha.at_ g1
        obtain ⟨b, rfl, hbb, hcb⟩ := hb.at_ g2
        obtain ⟨x, hx⟩ : ∃ x, x = ss[k] := ⟨_, rfl⟩
        obtain ⟨y, hy⟩ : ∃ y, y = ts[k] := ⟨_, rfl⟩
        rw [← hx] at hca
        rw [← hy] at hcb
        have HX := Lib.hid (at_getD g1 hx)
        have HY := Lib.hid (at_getD g2 hy)
        clear hx hy
        go_wp2
        go_quiet (fail)
        go_wp2
        · have he : (!x.toList == y.toList) = true := by assumption
          have hne : x ≠ y := unlike_of (by simpa using he)
          go_ret
          rw [decide_eq_false (fun e => hne (by have h1 := HX.out; rw [e, HY.out] at h1; injection h1 with h1; exact h1.symm))]
          exact ⟨rfl, n + nq, by rw [World.drewN_drewN]⟩
        · have he : (!x.toList == y.toList) = false := by assumption
          go_roundw
          case rel => exact ⟨k + 1, n + nq, by omega, by go_num, rfl, ahead_on HS.out HX.out HY.out (same_of (by simpa using he))⟩
          case measure => simp [intOf]; omega
      · go_wp2
        go_ret
        have e : ss = ts := ext_of HL.out (fun j hj => HS.out j (by omega))
        rw [decide_eq_true e]
        exact ⟨rfl, n, rfl⟩
  · have hl' : (((ss.length : Int) != (ts.length : Int)) : Bool) = true := by simp; omega
    go_enter Try.func20, Try.ntmps20
    go_wp2
    go_ret
    rw [decide_eq_false (fun e => hl (by rw [e]))]
    exact ⟨rfl, 0, rfl⟩

set_option maxHeartbeats 400000 in
theorem clone_any (s : ByteArray) (w : World) (hs : s.size ≤ 140737488355328) :
    Calls Try.prog 48 #[.string s] w fun e w' => e = .returned (.string s) ∧ Below w.heap.size w w' := by
  go_enter Try.func48, Try.ntmps48
  go_wp2_with (go_at_call 51; refine (Try.stringslite_Clone _ _ (by omega)).mono ?_; rintro e w' ⟨rfl, hb⟩)
  go_ret
  exact ⟨rfl, hb⟩

end Go.Proofs.Ytmonemgjgcfhlaa
