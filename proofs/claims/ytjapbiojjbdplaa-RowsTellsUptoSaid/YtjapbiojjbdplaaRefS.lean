/-
  The document's own answers for lines, as Go functions, once more: collatorref03.Shared and collatorref03.Split.
-/
import Derived.Test.YtjapbiojjbdplaaRef
namespace Go.Proofs.Ytjapbiojjbdplaa
open Go.RowKit
open Pl

theorem behind_drop {ss ts : List ByteArray} {n m : Nat} (h1 : n + m ≤ ss.length) (h2 : n + m ≤ ts.length) (hs : ∀ j, j < m → ss[ss.length - 1 - j]? = ts[ts.length - 1 - j]?)
    (hx : n + m = ss.length ∨ n + m = ts.length ∨ ss[ss.length - 1 - m]? ≠ ts[ts.length - 1 - m]?) : behindL (ss.drop n) (ts.drop n) = m := by
  have key : ∀ (l : List ByteArray) (j : Nat), n + j < l.length → (l.drop n)[(l.drop n).length - 1 - j]? = l[l.length - 1 - j]? := by
    intro l j hj
    rw [List.length_drop, List.getElem?_drop]
    congr 1
    omega
  refine behind_char _ _ m (by rw [List.length_drop]; omega) (by rw [List.length_drop]; omega) (fun j hj => ?_) ?_
  · rw [key ss j (by omega), key ts j (by omega)]; exact hs j hj
  · by_cases e1 : n + m = ss.length
    · left; rw [List.length_drop]; omega
    · by_cases e2 : n + m = ts.length
      · right; left; rw [List.length_drop]; omega
      · right; right
        rcases hx with hx | hx | hx
        · exact absurd hx e1
        · exact absurd hx e2
        · rw [key ss m (by omega), key ts m (by omega)]; exact hx

set_option maxHeartbeats 2000000 in
set_option maxRecDepth 100000 in
theorem refShared_any (A B : Option Addr) (ss ts : List ByteArray) (c d H : Nat) (w : World) (ha : Strs w H A ss) (hb : Strs w H B ts) (h1 : ss.length ≤ 140737488355328) (h2 : ts.length ≤ 140737488355328) :
    Calls Try.prog 17 #[.slice A ss.length c, .slice B ts.length d] w fun e w' => e = .returned (.tuple #[.int .i64 (aheadL ss ts), .int .i64 (behindL (ss.drop (aheadL ss ts)) (ts.drop (aheadL ss ts)))]) ∧ ∃ n, w' = w.drewN n := by
  go_enter Try.func17, Try.ntmps17
  go_wp2
  go_loopw [6] (fun i wr => ∃ k n : Nat, k ≤ ss.length ∧ k ≤ ts.length ∧ i = .int .i64 k ∧ wr = w.drewN n ∧ ∀ j, j < k → ss[j]? = ts[j]?) (fun i _ => ss.length - (intOf i).toNat)
  case atStart => exact ⟨0, 0, Nat.zero_le _, Nat.zero_le _, rfl, rfl, fun j hj => absurd hj (by omega)⟩
  case round =>
    obtain ⟨k, n, hk1, hk2, rfl, rfl, hs⟩ := hrel
    have HS := Lib.hid hs
    clear hs
    by_cases hon : ∃ (g1 : k < ss.length) (g2 : k < ts.length), ss[k] = ts[k]
    · obtain ⟨g1, g2, hxy⟩ := hon
      obtain ⟨a, rfl, hab, hca⟩ := ha.at_ g1
      obtain ⟨b, rfl, hbb, hcb⟩ := hb.at_ g2
      have HN := Lib.hid (ahead_on HS.out (List.getElem?_eq_getElem g1) (List.getElem?_eq_getElem g2) hxy)
      rw [← hxy] at hcb
      clear hxy
      generalize ss[k] = x at hca hcb
      have hxx : (x.toList == x.toList) = true := by simp
      go_wp2
      go_quiet (fail)
      go_wp2
      go_roundw
      case rel => exact ⟨k + 1, n + nq, by omega, by omega, by go_num, rfl, HN.out⟩
      case measure => simp [intOf]; omega
    · have hend : k = ss.length ∨ k = ts.length ∨ ss[k]? ≠ ts[k]? := by
        by_cases g1 : k < ss.length
        · by_cases g2 : k < ts.length
          · refine .inr (.inr fun e => hon ⟨g1, g2, ?_⟩)
            rw [List.getElem?_eq_getElem g1, List.getElem?_eq_getElem g2] at e
            injection e
          · exact .inr (.inl (by omega))
        · exact .inl (by omega)
      have HA := Lib.hid (ahead_end hk1 hk2 HS.out hend)
      go_upto_region 2 with (fail)
      go_cut [28] (fun s28 wx => s28 = .bool false ∧ ∃ q, wx = w.drewN q)
      case first =>
        by_cases g1 : k < ss.length
        · by_cases g2 : k < ts.length
          · obtain ⟨a, rfl, hab, hca⟩ := ha.at_ g1
            obtain ⟨b, rfl, hbb, hcb⟩ := hb.at_ g2
            have hxy : ss[k] ≠ ts[k] := fun e => hon ⟨g1, g2, e⟩
            generalize ss[k] = x at hca hxy
            generalize ts[k] = y at hcb hxy
            have hxx : (x.toList == y.toList) = false := by
              rw [beq_eq_false_iff_ne]; intro e; rw [toList_data, toList_data] at e; exact hxy (ByteArray.ext (Array.toList_inj.1 e))
            clear hxy hon hend
            go_quiet (fail)
            go_wp2_with fail
            go_meet
            exact ⟨rfl, n + nq, by first | rfl | rw [World.drewN_drewN]⟩
          · have g1' : decide (k < ss.length) = true := by simpa using g1
            have g2' : decide (k < ts.length) = false := by simpa using g2
            clear hon hend
            go_quiet (fail)
            go_wp2_with fail
            go_meet
            exact ⟨rfl, n + nq, by first | rfl | rw [World.drewN_drewN]⟩
        · have g1' : decide (k < ss.length) = false := by simpa using g1
          clear hon hend
          go_quiet (fail)
          go_wp2_with fail
          go_meet
          exact ⟨rfl, n + nq, by first | rfl | rw [World.drewN_drewN]⟩
      case rest =>
        obtain ⟨rfl, q, rfl⟩ := hcut
        clear hon hend
        obtain ⟨w6, hw6⟩ : ∃ w6, w6 = w.drewN q := ⟨_, rfl⟩
        have HW6 := Lib.hid hw6
        replace ha : Strs w6 H A ss := by rw [hw6]; exact ha.drewN q
        replace hb : Strs w6 H B ts := by rw [hw6]; exact hb.drewN q
        rw [← hw6]
        clear hw6
        go_wp2_with fail
        go_loopw [7] (fun i wr => ∃ m r : Nat, k + m ≤ ss.length ∧ k + m ≤ ts.length ∧ i = .int .i64 m ∧ wr = w6.drewN r ∧ ∀ j, j < m → ss[ss.length - 1 - j]? = ts[ts.length - 1 - j]?) (fun i _ => ss.length - (intOf i).toNat)
        case atStart => exact ⟨0, 0, by omega, by omega, rfl, rfl, fun j hj => absurd hj (by omega)⟩
        case round =>
          obtain ⟨m, r, hm1, hm2, rfl, rfl, hsm⟩ := hrel
          have HSM := Lib.hid hsm
          clear hsm
          have e5 : IntKind.i64.wrap ((k : Int) + m) = (k : Int) + m := IntWalk.i64_in _ (by omega)
          by_cases g1 : k + m < ss.length
          · by_cases g2 : k + m < ts.length
            · obtain ⟨P, hP⟩ : ∃ P, P = ss.length - 1 - m := ⟨_, rfl⟩
              obtain ⟨Q, hQ⟩ : ∃ Q, Q = ts.length - 1 - m := ⟨_, rfl⟩
              have gP : P < ss.length := by omega
              have gQ : Q < ts.length := by omega
              obtain ⟨a, rfl, hab, hca⟩ := ha.at_ gP
              obtain ⟨b, rfl, hbb, hcb⟩ := hb.at_ gQ
              obtain ⟨x, hx⟩ : ∃ x, x = ss[P] := ⟨_, rfl⟩
              obtain ⟨y, hy⟩ : ∃ y, y = ts[Q] := ⟨_, rfl⟩
              rw [← hx] at hca
              rw [← hy] at hcb
              have HX := Lib.hid (at_getD gP hx)
              have HY := Lib.hid (at_getD gQ hy)
              have HP := Lib.hid hP
              have HQ := Lib.hid hQ
              have e1 : IntKind.i64.wrap ((ss.length : Int) - 1) = (ss.length : Int) - 1 := IntWalk.i64_in _ (by omega)
              have e2 : IntKind.i64.wrap ((ss.length : Int) - 1 - m) = P := by rw [IntWalk.i64_in _ (by omega)]; omega
              have e3 : IntKind.i64.wrap ((ts.length : Int) - 1) = (ts.length : Int) - 1 := IntWalk.i64_in _ (by omega)
              have e4 : IntKind.i64.wrap ((ts.length : Int) - 1 - m) = Q := by rw [IntWalk.i64_in _ (by omega)]; omega
              have g1' : decide ((k : Int) + m < (ss.length : Int)) = true := by simp; omega
              have g2' : decide ((k : Int) + m < (ts.length : Int)) = true := by simp; omega
              clear hx hy hP hQ
              go_wp2
              go_quiet (fail)
              clear e1 e2 e3 e4 e5
              go_wp2
              · have he : (x.toList == y.toList) = true := by assumption
                go_roundw
                case rel => exact ⟨m + 1, r + nq, by omega, by omega, by go_num, rfl, behind_on HSM.out (by rw [← HP.out]; exact HX.out) (by rw [← HQ.out]; exact HY.out) (same_of he)⟩
                case measure => simp [intOf]; omega
              · have he : (x.toList == y.toList) = false := by assumption
                go_ret2
                rw [HA.out, behind_drop hm1 hm2 HSM.out (.inr (.inr (by rw [← HP.out, ← HQ.out, HX.out, HY.out]; simpa using unlike_of he))), HW6.out]
                exact ⟨rfl, q + (r + nq), by rw [World.drewN_drewN, World.drewN_drewN]⟩
            · have g1' : decide ((k : Int) + m < (ss.length : Int)) = true := by simp; omega
              have g2' : decide ((k : Int) + m < (ts.length : Int)) = false := by simp; omega
              go_wp2
              go_quiet (fail)
              clear e5
              go_wp2
              go_ret2
              rw [HA.out, behind_drop hm1 hm2 HSM.out (.inr (.inl (by omega))), HW6.out]
              exact ⟨rfl, q + (r + nq), by rw [World.drewN_drewN, World.drewN_drewN]⟩
          · have g1' : decide ((k : Int) + m < (ss.length : Int)) = false := by simp; omega
            go_wp2
            go_quiet (fail)
            clear e5
            go_wp2
            go_ret2
            rw [HA.out, behind_drop hm1 hm2 HSM.out (.inl (by omega)), HW6.out]
            exact ⟨rfl, q + (r + nq), by rw [World.drewN_drewN, World.drewN_drewN]⟩

end Go.Proofs.Ytjapbiojjbdplaa
