/-
  collatorref15.Right and Same: whether fills are right, and whether two lists of them are the same. Nothing that was there is changed.
-/
import Derived.Test.YtllkegonhghkcaaRal
namespace Go.Proofs.Ytllkegonhghkcaa
open Go.RowKit P15

theorem text_eq {a b : ByteArray} (h : (a.toList == b.toList) = true) : a = b := by
  have e := eq_of_beq h
  rw [Lib.toList_data, Lib.toList_data] at e
  exact ByteArray.ext (Array.toList_inj.1 e)
theorem text_ne {a b : ByteArray} (h : (a.toList == b.toList) = false) : a ≠ b := by
  rintro rfl; simp at h
theorem txts_take {L : List Fl} {k : Nat} {x : Fl} (h : L[k]? = some x) : txts (L.take (k + 1)) = txts (L.take k) ++ [x.txt] := by
  rw [take_snoc h, txts_append]; rfl
theorem nodup_snoc {α : Type} {l : List α} {x : α} (h : l.Nodup) (hx : x ∉ l) : (l ++ [x]).Nodup :=
  List.nodup_append.2 ⟨h, by simp, fun a ha b hb => by rw [List.mem_singleton.1 hb]; rintro rfl; exact hx ha⟩
theorem txt_not {L : List Fl} {k : Nat} {x y : Fl} (hy : L[k]? = some y) (hn : x.txt ∉ txts (L.take k)) (h : x.left ≠ y.left ∨ x.right ≠ y.right) : x.txt ∉ txts (L.take (k + 1)) := by
  rw [txts_take hy]
  intro hm
  rcases List.mem_append.1 hm with hm | hm
  · exact hn hm
  · have e := List.mem_singleton.1 hm
    have e1 : x.left = y.left := congrArg Prod.fst e
    have e2 : x.right = y.right := congrArg Prod.snd e
    rcases h with h | h
    · exact h e1
    · exact h e2
theorem not_right {L : List Fl} {i k : Nat} {x y : Fl} (hx : L[i]? = some x) (hy : L[k]? = some y) (hik : k < i) (h1 : x.left = y.left) (h2 : x.right = y.right) : rightB L = false := by
  refine rightB_not.2 fun h => ?_
  have := apart_txt h.1 hx (y := y) (List.mem_append_left _ (List.mem_of_getElem? (i := k) (by rw [List.getElem?_take, if_pos hik]; exact hy)))
  exact this (Prod.ext h1.symm h2.symm)
theorem right_of {L : List Fl} (h1 : (txts L).Nodup) (h2 : (nums L).Nodup) : rightB L = true := rightB_iff.2 ⟨h1, h2⟩
theorem not_right_num {L : List Fl} {k : Nat} {n : Int} (hn : (nums L)[k]? = some n) (hm : n ∈ (nums L).take k) : rightB L = false := by
  refine rightB_not.2 fun h => ?_
  have h2 := h.2
  rw [split_at hn] at h2
  exact (not_mem_append_nodup h2).1 hm

set_option maxHeartbeats 4000000 in
set_option maxRecDepth 100000 in
theorem rright_any (A : Option Addr) (L : List Fl) (n c : Nat) (b : Bool) (hb : rightB L = b) (w : World) (ha : FillsAt w A L) (hn : L.length = n) (hf : FitF L) :
    Calls Try.prog 11 #[.slice A n c] w fun e w' => e = .returned (.bool b) ∧ Below w.heap.size w w' := by
  subst hn
  have HA := Lib.hid ha
  have HF := Lib.hid hf
  have HB := Lib.hid hb
  have hl := hf.len
  clear ha hf hb
  go_enter Try.func11, Try.ntmps11
  go_wp2_with fail
  go_loopw [3] (fun i wr => ∃ k : Nat, k ≤ L.length ∧ i = .int .i64 k ∧ Hid ((txts (L.take k)).Nodup) ∧ ∃ q, wr = w.drewN q) (fun i _ => L.length - (intOf i).toNat)
  case atStart => exact ⟨0, Nat.zero_le _, rfl, Lib.hid (by simp [txts]), 0, rfl⟩
  case round =>
    obtain ⟨i, hi, rfl, HN, q, rfl⟩ := hrel
    by_cases g1 : i < L.length
    · obtain ⟨x, hx⟩ : ∃ x, L[i]? = some x := ⟨_, List.getElem?_eq_getElem g1⟩
      have HX := Lib.hid hx
      clear hx
      go_wp2_with fail
      go_loopw [4] (fun j wr => ∃ k : Nat, k ≤ i ∧ j = .int .i64 k ∧ Hid (x.txt ∉ txts (L.take k)) ∧ ∃ q, wr = w.drewN q) (fun j _ => i - (intOf j).toNat)
      case atStart => exact ⟨0, Nat.zero_le _, rfl, Lib.hid (by simp [txts]), q, rfl⟩
      case round =>
        obtain ⟨k, hk, rfl, HK, q', rfl⟩ := hrel
        by_cases g2 : k < i
        · obtain ⟨y, hy⟩ : ∃ y, L[k]? = some y := ⟨_, List.getElem?_eq_getElem (by omega)⟩
          obtain ⟨a, _, _, rfl, hal, c0, c1, _, _, _, _⟩ := HA.out.at_ HX.out
          obtain ⟨a', _, _, e', _, d0, d1, _, _, _, _⟩ := HA.out.at_ hy
          injection e' with e'
          subst e'
          have HY := Lib.hid hy
          clear hy
          have gk : k < L.length := by omega
          cases t1 : (x.left.toList == y.left.toList) with
          | false =>
            go_wp2_with fail
            go_quiet (fail)
            go_wp2_with fail
            go_roundw
            case rel => exact ⟨k + 1, by omega, by go_num, Lib.hid (txt_not HY.out HK.out (.inl (text_ne t1))), q' + nq, rfl⟩
            case measure => simp [intOf]; omega
          | true =>
            cases t2 : (x.right.toList == y.right.toList) with
            | false =>
              go_wp2_with fail
              go_quiet (fail)
              go_wp2_with fail
              go_roundw
              case rel => exact ⟨k + 1, by omega, by go_num, Lib.hid (txt_not HY.out HK.out (.inr (text_ne t2))), q' + nq, rfl⟩
              case measure => simp [intOf]; omega
            | true =>
              have HR : Hid (b = false) := Lib.hid (by rw [← HB.out]; exact not_right HX.out HY.out g2 (text_eq t1) (text_eq t2))
              go_wp2_with fail
              go_quiet (fail)
              go_wp2_with fail
              go_ret
              exact ⟨ret_bool HR.out.symm, by rw [World.drewN_drewN]; exact below_drewN (Below.refl _ _) _⟩
        · obtain rfl : k = i := by omega
          go_wp2_with fail
          go_roundw
          case rel => exact ⟨k + 1, by omega, by go_num, Lib.hid (by rw [txts_take HX.out]; exact nodup_snoc HN.out HK.out), q', rfl⟩
          case measure => simp [intOf]; omega
    · have HT : Hid ((txts L).Nodup) := Lib.hid (by have := HN.out; rwa [List.take_of_length_le (by omega)] at this)
      clear HN
      have HW : Hid (Below w.heap.size w (w.drewN q)) := Lib.hid (below_drewN (Below.refl _ _) _)
      obtain ⟨w1, hw1⟩ : ∃ w1, w1 = w.drewN q := ⟨_, rfl⟩
      rw [← hw1] at HW ⊢
      clear hw1
      go_wp2_with fail
      refine (rall_any A L L.length c _ (HA.out.up HW.out) rfl HF.out).mono ?_
      rintro e w2 ⟨A2, n2, c2, rfl, hn2, ho⟩
      obtain ⟨N, hN⟩ : ∃ N, N = nums L := ⟨_, rfl⟩
      rw [← hN] at hn2 ho
      have HNE := Lib.hid hN
      have hn3 : n2 ≤ 1001000 := by
        have := HF.out.nums_len L.length
        rw [List.take_length, ← hN] at this
        omega
      have HI : Hid (IntsAt w2 A2 N) := Lib.hid (OwnR.at_ i_len ho hn2)
      have HCP := (OwnR.cap ho).1
      have HW2 : Hid (Below w.heap.size w w2) := Lib.hid (HW.out.trans (ho.2.mono HW.out.size))
      clear ho hN
      subst hn2
      go_wp2_with fail
      go_loopw [6] (fun i wr => ∃ k : Nat, k ≤ N.length ∧ i = .int .i64 k ∧ Hid ((N.take k).Nodup) ∧ Hid (Drew w2 wr)) (fun i _ => N.length - (intOf i).toNat)
      case atStart => exact ⟨0, Nat.zero_le _, rfl, Lib.hid (by simp), Lib.hid (Drew.refl _)⟩
      case round =>
        obtain ⟨k, hk, rfl, HK, HD⟩ := hrel
        by_cases g3 : k < N.length
        · obtain ⟨m, hm⟩ : ∃ m, N[k]? = some m := ⟨_, List.getElem?_eq_getElem g3⟩
          have HI3 := Lib.hid (HI.out.up HD.out.below)
          obtain ⟨a, rfl, hal, c0⟩ := ints_cell HI3.out hm
          have HM := Lib.hid hm
          have htl : (N.take k).length = k := by rw [List.length_take]; omega
          have HTL := Lib.hid htl
          have gc : k ≤ c2 := by omega
          clear hm htl
          by_cases g4 : m ∈ N.take k
          · have HR : Hid (b = false) := Lib.hid (by rw [← HB.out]; exact not_right_num (by rw [← HNE.out]; exact HM.out) (by rw [← HNE.out]; exact g4))
            have HG : Hid (decide (m ∈ N.take k) = true) := Lib.hid (decide_eq_true g4)
            clear g4
            go_wp2_with fail
            go_quiet ((go_at_call 24; exact Calls.quiet_of (rin_drew (some a) (N.take k) k c2 m true HG.out _ ((HI3.out.take k).drewN _) HTL.out (by have := HTL.out; omega))))
            go_wp2_with fail
            go_ret
            exact ⟨ret_bool HR.out.symm, HW2.out.trans ((HD.out.more nq).below.mono HW2.out.size)⟩
          · have HG : Hid (decide (m ∈ N.take k) = false) := Lib.hid (decide_eq_false g4)
            have HK2 : Hid ((N.take (k + 1)).Nodup) := Lib.hid (by rw [take_snoc HM.out]; exact nodup_snoc HK.out g4)
            clear g4
            go_wp2_with fail
            go_quiet ((go_at_call 24; exact Calls.quiet_of (rin_drew (some a) (N.take k) k c2 m false HG.out _ ((HI3.out.take k).drewN _) HTL.out (by have := HTL.out; omega))))
            go_wp2_with fail
            go_roundw
            case rel => exact ⟨k + 1, by omega, by go_num, HK2, Lib.hid (HD.out.more nq)⟩
            case measure => simp [intOf]; omega
        · have HR : Hid (b = true) := Lib.hid (by
            rw [← HB.out]
            have := HK.out
            rw [List.take_of_length_le (by omega), HNE.out] at this
            exact right_of HT.out this)
          go_wp2_with fail
          go_ret
          exact ⟨ret_bool HR.out.symm, HW2.out.trans (HD.out.below.mono HW2.out.size)⟩

end Go.Proofs.Ytllkegonhghkcaa
