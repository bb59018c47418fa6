/-
  collatorref15.Same tells of two lists of the same fills that they are the same. Nothing that was there is changed.
-/
import Derived.Test.YtllkegonhghkcaaRri
namespace Go.Proofs.Ytllkegonhghkcaa
open Go.RowKit P15

set_option maxHeartbeats 4000000 in
set_option maxRecDepth 100000 in
theorem rsame_any (A B : Option Addr) (L : List Fl) (n m c d : Nat) (w : World) (ha : FillsAt w A L) (hb : FillsAt w B L) (hn : L.length = n) (hm : L.length = m) (hf : FitF L) :
    Calls Try.prog 16 #[.slice A n c, .slice B m d] w fun e w' => e = .returned (.bool true) ∧ ∃ q, w' = w.drewN q := by
  subst hn hm
  have HA := Lib.hid ha
  have HA' := Lib.hid hb
  have HF := Lib.hid hf
  have hl := hf.len
  clear ha hb hf
  go_enter Try.func16, Try.ntmps16
  go_wp2_with fail
  go_loopw [5] (fun i wr => ∃ k : Nat, k ≤ L.length ∧ i = .int .i64 k ∧ Hid (Drew w wr)) (fun i _ => L.length - (intOf i).toNat)
  case atStart => exact ⟨0, Nat.zero_le _, rfl, Lib.hid (Drew.refl _)⟩
  case round =>
    obtain ⟨k, hk, rfl, HD⟩ := hrel
    by_cases g1 : k < L.length
    · obtain ⟨x, hx⟩ : ∃ x, L[k]? = some x := ⟨_, List.getElem?_eq_getElem g1⟩
      obtain ⟨a, B1, c1, rfl, hal, p0, p1, p2, p3, hi, _⟩ := (HA.out.up HD.out.below).at_ hx
      obtain ⟨a', B2, c2, rfl, hal', q0, q1, q2, q3, hi', _⟩ := (HA'.out.up HD.out.below).at_ hx
      have hw := (HF.out.each x (List.mem_of_getElem? hx)).1
      have HI := Lib.hid hi
      have HI' := Lib.hid hi'
      obtain ⟨wn, hwn⟩ : ∃ wn, wn = x.wait.length := ⟨_, rfl⟩
      have HWN := Lib.hid hwn
      rw [← hwn] at p3 q3
      have HW : Hid (x.wait.length ≤ 140737488355328) := Lib.hid (by omega)
      clear hx hi hi' hwn hw
      go_wp2_with fail
      go_quiet ((go_at_call 21; exact Calls.quiet_of (rints_any B1 B2 x.wait x.wait wn wn c1 c2 true (decide_eq_true rfl) _ (HI.out.drewN _) (HI'.out.drewN _) HWN.out.symm HWN.out.symm HW.out HW.out)))
      go_wp2_with fail
      go_quiet (fail)
      go_wp2_with fail
      go_roundw
      case rel => exact ⟨k + 1, by omega, by go_num, Lib.hid (HD.out.more _)⟩
      case measure => simp [intOf]; omega
    · go_wp2_with fail
      go_ret
      exact ⟨rfl, HD.out⟩

end Go.Proofs.Ytllkegonhghkcaa
