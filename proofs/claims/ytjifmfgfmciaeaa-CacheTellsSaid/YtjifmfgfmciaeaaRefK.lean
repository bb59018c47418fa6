/-
  collatorref13.Same tells of two lists that are the same that they are. Nothing that was there is changed.
-/
import Derived.Test.YtjifmfgfmciaeaaRef
namespace Go.Proofs.Ytjifmfgfmciaeaa
open Go.RowKit

theorem keys_take_snoc {L : List Sl} {i : Nat} {x : Sl} (h : L[i]? = some x) : keysL (L.take (i + 1)) = keysL (L.take i) ++ [(x.sum, x.len)] := by
  obtain ⟨hk, rfl⟩ := List.getElem?_eq_some_iff.1 h
  unfold keysL
  rw [List.take_succ_eq_append_getElem hk, P13.keys_append]
  rfl
theorem keys_length (L : List Sl) : (keysL L).length = L.length := by simp [keysL, P13.keys]
set_option maxHeartbeats 2000000 in
set_option maxRecDepth 100000 in
theorem same_true (A B : Option Addr) (L : List Sl) (n m c d : Nat) (w : World) (ha : SlotsAt w A L) (hb : SlotsAt w B L) (hn : L.length = n) (hm : L.length = m) (h1 : L.length ≤ 1000000) :
    Calls Try.prog 27 #[.slice A n c, .slice B m d] w fun e w' => e = .returned (.bool true) ∧ ∃ q, w' = w.drewN q := by
  subst hn hm
  have HA := Lib.hid ha
  have HB := Lib.hid hb
  clear ha hb
  go_enter Try.func27, Try.ntmps27
  go_wp2_with fail
  go_loopw [5] (fun i wr => ∃ k : Nat, k ≤ L.length ∧ i = .int .i64 k ∧ Drew w wr) (fun i _ => L.length - (intOf i).toNat)
  case atStart => exact ⟨0, Nat.zero_le _, rfl, Drew.refl w⟩
  case round =>
    obtain ⟨k, hk, rfl, q, rfl⟩ := hrel
    by_cases g1 : k < L.length
    · obtain ⟨x, hx⟩ : ∃ x, L[k]? = some x := ⟨_, List.getElem?_eq_getElem g1⟩
      obtain ⟨a, rfl, _, c0, c1, c2, c3, c4⟩ := slots_fields HA.out hx
      obtain ⟨b, rfl, _, d0, d1, d2, d3, d4⟩ := slots_fields HB.out hx
      clear hx
      go_wp2_with fail
      go_quiet (fail)
      go_wp2_with fail
      go_roundw
      case rel => exact ⟨k + 1, by omega, by go_num, q + nq, rfl⟩
      case measure => simp [intOf]; omega
    · go_wp2_with fail
      go_ret
      exact ⟨rfl, q, rfl⟩

end Go.Proofs.Ytjifmfgfmciaeaa
