/-
  collatorref13.Keys tells the keys of slots, in order; collatorref13.Same tells of two lists that are the same that they are. Nothing that was there is changed.
-/
import Derived.Test.YtndhaickelbkiaaRef
namespace Go.Proofs.Ytndhaickelbkiaa
open Go.RowKit

theorem keys_take_snoc {L : List Sl} {i : Nat} {x : Sl} (h : L[i]? = some x) : keysL (L.take (i + 1)) = keysL (L.take i) ++ [(x.sum, x.len)] := by
  obtain ⟨hk, rfl⟩ := List.getElem?_eq_some_iff.1 h
  unfold keysL
  rw [List.take_succ_eq_append_getElem hk, P13.keys_append]
  rfl
theorem keys_length (L : List Sl) : (keysL L).length = L.length := by simp [keysL, P13.keys]
def KeysTold (L : List Sl) (w : World) (e : Ending) (w' : World) : Prop := ∃ v, e = .returned v ∧ OwnK w w' v (keysL L)

set_option maxHeartbeats 2000000 in
set_option maxRecDepth 100000 in
theorem rkeys_any (A : Option Addr) (L : List Sl) (n c : Nat) (w : World) (ha : SlotsAt w A L) (hn : L.length = n) (h1 : L.length ≤ 1000000) :
    Calls Try.prog 12 #[.slice A n c] w (KeysTold L w) := by
  subst hn
  have HA := Lib.hid ha
  clear ha
  go_enter Try.func12, Try.ntmps12
  go_wp2_with fail
  go_loopw [3, 4] (fun v i wr => ∃ k : Nat, k ≤ L.length ∧ i = .int .i64 k ∧ OwnK w wr v (keysL (L.take k))) (fun _ i _ => L.length - (intOf i).toNat)
  case atStart => exact ⟨0, Nat.zero_le _, rfl, OwnR.nil w⟩
  case round =>
    obtain ⟨k, hk, rfl, hO⟩ := hrel
    have HO := Lib.hid hO
    clear hO
    by_cases g1 : k < L.length
    · obtain ⟨x, hx⟩ : ∃ x, L[k]? = some x := ⟨_, List.getElem?_eq_getElem g1⟩
      obtain ⟨a, rfl, hal, c0, c1, c2, c3, c4⟩ := slots_fields (HA.out.up HO.out.2) hx
      have HT := Lib.hid (keys_take_snoc hx)
      obtain ⟨N, hN⟩ : ∃ N, (keysL (L.take k)).length + 1 = N := ⟨_, rfl⟩
      have hNk : N ≤ 1048576 := by rw [← hN, keys_length]; have : (L.take k).length ≤ k := List.length_take_le _ _; omega
      obtain ⟨A7, c7, W7, hrun7, hO7, _⟩ := push_key HO.out (x.sum, x.len) N hN hNk
      have HR7 := Lib.hid hrun7
      have HO7 := Lib.hid hO7
      clear hx hrun7 hO7 hN
      go_wp2_with (at_builtin; refine wpList_append_run rfl rfl (by simp [Region.wanted]) rfl rfl HR7.out ?_)
      go_roundw
      case rel => exact ⟨k + 1, by omega, by go_num, by rw [HT.out]; exact HO7.out⟩
      case measure => simp [intOf]; omega
    · go_wp2_with fail
      go_ret
      exact ⟨_, rfl, by have := HO.out; rw [List.take_of_length_le (by omega)] at this; exact this⟩

set_option maxHeartbeats 2000000 in
set_option maxRecDepth 100000 in
theorem same_true (A B : Option Addr) (L : List Sl) (n m c d : Nat) (w : World) (ha : SlotsAt w A L) (hb : SlotsAt w B L) (hn : L.length = n) (hm : L.length = m) (h1 : L.length ≤ 1000000) :
    Calls Try.prog 18 #[.slice A n c, .slice B m d] w fun e w' => e = .returned (.bool true) ∧ ∃ q, w' = w.drewN q := by
  subst hn hm
  have HA := Lib.hid ha
  have HB := Lib.hid hb
  clear ha hb
  go_enter Try.func18, Try.ntmps18
  go_wp2_with fail
  go_loopw [5] (fun i wr => ∃ k : Nat, k ≤ L.length ∧ i = .int .i64 k ∧ Drew w wr) (fun i _ => L.length - (intOf i).toNat)
  case atStart => exact ⟨0, Nat.zero_le _, rfl, Drew.refl w⟩
  case round =>
    obtain ⟨k, hk, rfl, q, rfl⟩ := hrel
    by_cases g1 : k < L.length
    · obtain ⟨x, hx⟩ : ∃ x, L[k]? = some x := ⟨_, List.getElem?_eq_getElem g1⟩
      obtain ⟨a, rfl, _, c0, c1, c2, c3, c4⟩ := slots_fields HA.out hx
      obtain ⟨b, rfl, _, d0, d1, d2, d3, d4⟩ := slots_fields HB.out hx
      clear hx
      go_wp2_with fail
      go_quiet (fail)
      go_wp2_with fail
      go_roundw
      case rel => exact ⟨k + 1, by omega, by go_num, q + nq, rfl⟩
      case measure => simp [intOf]; omega
    · go_wp2_with fail
      go_ret
      exact ⟨rfl, q, rfl⟩

end Go.Proofs.Ytndhaickelbkiaa
