/-
  collatorref15.in and Ints: is a number among others, and are two lists of numbers the same. Nothing that was there is changed.
-/
import Derived.Test.YtllkegonhghkcaaFil
namespace Go.Proofs.Ytllkegonhghkcaa
open Go.RowKit P15

set_option maxHeartbeats 1000000 in
theorem rin_any (A : Option Addr) (L : List Int) (n c : Nat) (m : Int) (b : Bool) (hb : decide (m ∈ L) = b) (w : World) (ha : IntsAt w A L) (hn : L.length = n) (h1 : L.length ≤ 140737488355328) :
    Calls Try.prog 24 #[.slice A n c, .int .i64 m] w fun e w' => e = .returned (.bool b) ∧ w = w' := by
  subst hn
  have HA := Lib.hid ha
  have HB := Lib.hid hb
  clear ha hb
  go_enter Try.func24, Try.ntmps24
  go_wp2_with fail
  go_loop [5] (fun i => ∃ k : Nat, k ≤ L.length ∧ i = .int .i64 k ∧ Hid (m ∉ L.take k)) (fun i => L.length - (intOf i).toNat)
  case atStart => exact ⟨0, Nat.zero_le _, rfl, Lib.hid (by simp)⟩
  case round =>
    obtain ⟨k, hk, rfl, HN⟩ := hrel
    by_cases g1 : k < L.length
    · obtain ⟨x, hx⟩ : ∃ x, L[k]? = some x := ⟨_, List.getElem?_eq_getElem g1⟩
      obtain ⟨a, rfl, hal, c0⟩ := ints_cell HA.out hx
      have HX := Lib.hid hx
      clear hx
      cases t1 : (x == m) with
      | true =>
        have HR : Hid (b = true) := Lib.hid (by rw [← HB.out]; exact decide_eq_true (by rw [← show x = m by simpa using t1]; exact List.mem_of_getElem? HX.out))
        go_wp2_with fail
        go_ret
        exact ⟨ret_bool HR.out.symm, rfl⟩
      | false =>
        have HR : Hid (m ∉ L.take (k + 1)) := Lib.hid (by
          rw [take_snoc HX.out]
          intro h
          rcases List.mem_append.1 h with h | h
          · exact HN.out h
          · rw [List.mem_singleton.1 h] at t1; simp at t1)
        go_wp2_with fail
        go_round
        case rel => exact ⟨k + 1, by omega, by go_num, HR⟩
        case measure => simp [intOf]; omega
    · have HR : Hid (b = false) := Lib.hid (by rw [← HB.out]; have := HN.out; rw [List.take_of_length_le (by omega)] at this; exact decide_eq_false this)
      go_wp2_with fail
      go_ret
      exact ⟨ret_bool HR.out.symm, rfl⟩

theorem rin_drew (A : Option Addr) (L : List Int) (n c : Nat) (m : Int) (b : Bool) (hb : decide (m ∈ L) = b) (w : World) (ha : IntsAt w A L) (hn : L.length = n) (h1 : L.length ≤ 140737488355328) :
    Calls Try.prog 24 #[.slice A n c, .int .i64 m] w fun e w' => e = .returned (.bool b) ∧ ∃ q, w' = w.drewN q :=
  (rin_any A L n c m b hb w ha hn h1).mono fun _ _ ⟨he, hw⟩ => ⟨he, 0, hw.symm⟩

set_option maxHeartbeats 1000000 in
theorem rints_any (A B : Option Addr) (L M : List Int) (n m c d : Nat) (b : Bool) (hb : decide (L = M) = b) (w : World) (ha : IntsAt w A L) (ha' : IntsAt w B M) (hn : L.length = n) (hm : M.length = m) (h1 : L.length ≤ 140737488355328) (h2 : M.length ≤ 140737488355328) :
    Calls Try.prog 21 #[.slice A n c, .slice B m d] w fun e w' => e = .returned (.bool b) ∧ ∃ q, w' = w.drewN q := by
  subst hn hm
  have HA := Lib.hid ha
  have HA' := Lib.hid ha'
  have HB := Lib.hid hb
  clear ha ha' hb
  by_cases hl : L.length = M.length
  · have t0 : (((L.length : Nat) : Int) != ((M.length : Nat) : Int)) = false := by simp [hl]
    have HL := Lib.hid hl
    obtain ⟨mm, hmm⟩ : ∃ mm, mm = M.length := ⟨_, rfl⟩
    have HMM := Lib.hid hmm
    rw [← hmm] at t0 h2 hl
    rw [show (M.length : Nat) = mm from hmm.symm]
    obtain rfl : L.length = mm := hl
    clear hmm t0
    go_enter Try.func21, Try.ntmps21
    go_wp2_with fail
    go_loopw [5] (fun i wr => ∃ k : Nat, k ≤ L.length ∧ i = .int .i64 k ∧ Hid (L.take k = M.take k) ∧ ∃ q, wr = w.drewN q) (fun i _ => L.length - (intOf i).toNat)
    case atStart => exact ⟨0, Nat.zero_le _, rfl, Lib.hid (by simp), 0, rfl⟩
    case round =>
      obtain ⟨k, hk, rfl, HN, q, rfl⟩ := hrel
      by_cases g1 : k < L.length
      · obtain ⟨x, hx⟩ : ∃ x, L[k]? = some x := ⟨_, List.getElem?_eq_getElem g1⟩
        obtain ⟨y, hy⟩ : ∃ y, M[k]? = some y := ⟨_, List.getElem?_eq_getElem (by have := HL.out; omega)⟩
        obtain ⟨a, rfl, hal, c0⟩ := ints_cell HA.out hx
        obtain ⟨a', rfl, hal', c0'⟩ := ints_cell HA'.out hy
        have HX := Lib.hid hx
        have HY := Lib.hid hy
        clear hx hy
        cases t1 : (x == y) with
        | true =>
          obtain rfl : x = y := by simpa using t1
          have HR : Hid (L.take (k + 1) = M.take (k + 1)) := Lib.hid (by rw [take_snoc HX.out, take_snoc HY.out, HN.out])
          clear t1
          go_wp2_with fail
          go_quiet (fail)
          go_wp2_with fail
          go_roundw
          case rel => exact ⟨k + 1, by omega, by go_num, HR, q + nq, rfl⟩
          case measure => simp [intOf]; omega
        | false =>
          have HR : Hid (b = false) := Lib.hid (by
            rw [← HB.out]
            refine decide_eq_false fun e => ?_
            have h1 := HX.out
            rw [e, HY.out] at h1
            injection h1 with h1
            rw [h1] at t1; simp at t1)
          have t2 : (x != y) = true := by simp [bne, t1]
          go_wp2_with fail
          go_quiet (fail)
          go_wp2_with fail
          go_ret
          exact ⟨ret_bool HR.out.symm, q + nq, by rw [World.drewN_drewN]⟩
      · have HR : Hid (b = true) := Lib.hid (by rw [← HB.out]; have := HN.out; rw [List.take_of_length_le (by omega), List.take_of_length_le (by have := HL.out; omega)] at this; exact decide_eq_true this)
        go_wp2_with fail
        go_ret
        exact ⟨ret_bool HR.out.symm, q, rfl⟩
  · have t0 : (((L.length : Nat) : Int) != ((M.length : Nat) : Int)) = true := by
      rw [bne_iff_ne]; omega
    have HR : Hid (b = false) := Lib.hid (by rw [← HB.out]; exact decide_eq_false fun e => hl (by rw [e]))
    obtain ⟨ln, hln⟩ : ∃ ln, ln = L.length := ⟨_, rfl⟩
    obtain ⟨mn, hmn⟩ : ∃ mn, mn = M.length := ⟨_, rfl⟩
    rw [← hln, ← hmn] at t0 hl ⊢
    have t3 : ¬ (ln : Int) = mn := by omega
    clear hl hln hmn h1 h2
    go_enter Try.func21, Try.ntmps21
    go_wp2_with fail
    go_ret
    exact ⟨ret_bool HR.out.symm, 0, rfl⟩

end Go.Proofs.Ytllkegonhghkcaa
