/-
  collatorref08.Same: of two lists of pairs that are the same it returns true. Nothing that was there is changed.
-/
import Derived.Test.YtdnckhagknlfhaaGreedy
namespace Go.Proofs.Ytdnckhagknlfhaa
open Go.RowKit

set_option maxHeartbeats 2000000 in
set_option maxRecDepth 100000 in
theorem same_true (A B : Option Addr) (L : List Pr) (n m c d : Nat) (w : World) (ha : PrsAt w A L) (hb : PrsAt w B L) (hn : L.length = n) (hm : L.length = m) (h1 : L.length ≤ 65536) :
    Calls Try.prog 12 #[.slice A n c, .slice B m d] w fun e w' => e = .returned (.bool true) ∧ ∃ q, w' = w.drewN q := by
  subst hn hm
  go_enter Try.func12, Try.ntmps12
  go_wp2_with fail
  go_loopw [5] (fun i wr => ∃ k : Nat, k ≤ L.length ∧ i = .int .i64 k ∧ Drew w wr) (fun i _ => L.length - (intOf i).toNat)
  case atStart => exact ⟨0, Nat.zero_le _, rfl, Drew.refl w⟩
  case round =>
    obtain ⟨k, hk, rfl, q, rfl⟩ := hrel
    by_cases g1 : k < L.length
    · obtain ⟨x, hx⟩ : ∃ x, L[k]? = some x := ⟨_, List.getElem?_eq_getElem g1⟩
      obtain ⟨a, rfl, _, hca⟩ := ha (by intro e; subst e; simp at hx)
      obtain ⟨b, rfl, _, hcb⟩ := hb (by intro e; subst e; simp at hx)
      obtain ⟨c0, c1, c2⟩ := hca k x hx
      obtain ⟨d0, d1, d2⟩ := hcb k x hx
      clear hx hca hcb ha hb
      go_wp2_with fail
      go_quiet (fail)
      go_wp2_with fail
      go_roundw
      case rel => exact ⟨k + 1, by omega, by go_num, q + nq, rfl⟩
      case measure => simp [intOf]; omega
    · go_wp2_with fail
      go_ret
      exact ⟨rfl, q, rfl⟩

end Go.Proofs.Ytdnckhagknlfhaa
