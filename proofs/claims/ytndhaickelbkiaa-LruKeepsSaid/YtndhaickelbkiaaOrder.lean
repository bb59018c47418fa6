/-
  LruOrder returns true, if package lru is as chapter 13 says: of keys that are put, in order, there are the last ones, as many as there is room for, the last one first. Nothing that was there is changed.
-/
import Derived.Test.YtndhaickelbkiaaStack
namespace Go.Proofs.Ytndhaickelbkiaa
open Go.RowKit

/-- what holds at the head of each round: the slots, and the keys that were touched, in order -/
structure OInv (w0 wr : World) (A5 : Option Addr) (L : List Sl) (v : Value) (R : List (Int × Int)) (N : Nat) : Prop where
  at_ : SlotsAt wr A5 L
  right : rightB L = true
  fit : FitS L
  own : OwnK w0 wr v R
  keys : keysL L = (P13.firsts R.reverse).take (N + 1)
theorem OInv.up {w0 wr w' : World} {A5 : Option Addr} {L : List Sl} {v : Value} {R : List (Int × Int)} {N : Nat} (h : OInv w0 wr A5 L v R N) (hb : Below wr.heap.size wr w') : OInv w0 w' A5 L v R N :=
  ⟨h.at_.up hb, h.right, h.fit, h.own.up hb, h.keys⟩
theorem few_keys {L : List Sl} {R : List (Int × Int)} {N : Nat} (h : keysL L = (P13.firsts R.reverse).take (N + 1)) : L.length ≤ N + 1 := by
  have := congrArg List.length h
  rw [keys_length, List.length_take] at this
  omega
theorem order_put {L : List Sl} {R : List (Int × Int)} {N : Nat} (h : keysL L = (P13.firsts R.reverse).take (N + 1)) (s : Sl) : keysL ((allS L s).take (N + 1)) = (P13.firsts (R ++ [(s.sum, s.len)]).reverse).take (N + 1) := by
  rw [List.reverse_append]
  exact P13.keys_put h s
theorem order_got {L : List Sl} {R : List (Int × Int)} {N : Nat} (hr : rightB L = true) (h : keysL L = (P13.firsts R.reverse).take (N + 1)) {y : Sl} (hy : y ∈ L) {k : Int × Int} (hk : y.key = k) : keysL (y :: withoutS L y.key) = (P13.firsts (R ++ [k]).reverse).take (N + 1) := by
  rw [List.reverse_append, ← hk]
  exact P13.keys_got (rightB_iff.1 hr) h hy
theorem take_rev {R : List (Int × Int)} {j : Nat} {kk : Int × Int} (h : R[j]? = some kk) : (R.take (j + 1)).reverse = kk :: (R.take j).reverse := by
  obtain ⟨hk, rfl⟩ := List.getElem?_eq_some_iff.1 h
  rw [List.take_succ_eq_append_getElem hk, List.reverse_append]
  rfl
theorem pick_full {n : Nat} {r w : List (Int × Int)} (h : ¬ w.length < n) : P13.pickUp n r w = w := by
  cases r with
  | nil => rfl
  | cons k r => rw [P13.pickUp, if_neg h]
theorem mem_take_succ {W : List (Int × Int)} {k : Nat} {x : Int × Int} (h : W[k]? = some x) (kk : Int × Int) : (kk ∈ W.take (k + 1)) ↔ (kk ∈ W.take k ∨ kk = x) := by
  obtain ⟨hk, rfl⟩ := List.getElem?_eq_some_iff.1 h
  rw [List.take_succ_eq_append_getElem hk, List.mem_append, List.mem_singleton]

set_option maxHeartbeats 16000000 in
set_option maxRecDepth 100000 in
theorem order_any (H : LruOk) (HNW : LruNew) (A B : Option Addr) (zs : List Int) (bs : List Bool) (n c m d : Nat) (room : Int) (w : World) (ha : IntsAt w A zs) (hn : zs.length = n) (h1 : n ≤ 9223372036854775807) (hz : InRange zs)
    (hb : BoolsAt w B bs) (hm : bs.length = m) (h2 : m ≤ 9223372036854775807) (r1 : -9223372036854775808 ≤ room) (r2 : room ≤ 9223372036854775807) :
    Calls Try.prog 5 #[.slice A n c, .slice B m d, .int .i64 room] w fun e w' => e = .returned (.bool true) ∧ Below w.heap.size w w' := by
  subst hn hm
  have HZ := Lib.hid ha
  have HI := Lib.hid hz
  have HBS0 := Lib.hid hb
  clear ha hz hb
  obtain ⟨p, hp⟩ : ∃ p, pickI room 7 = p := ⟨_, rfl⟩
  obtain ⟨p1, p2⟩ := pickI_range room 7 (by omega)
  rw [hp] at p1 p2
  have HP := Lib.hid hp
  obtain ⟨N0, hN0⟩ : ∃ N0 : Nat, p = (N0 : Int) := ⟨p.toNat, by omega⟩
  have HN0 := Lib.hid hN0
  have HN1 : Hid ((1 + p).toNat = N0 + 1) := Lib.hid (by omega)
  have hN6 : N0 ≤ 6 := by omega
  clear hp hN0
  go_enter Try.func5, Try.ntmps5
  go_wp2_with fail
  refine (awake_any H _).mono ?_
  rintro e wA ⟨rfl, hB⟩
  have HBA := Lib.hid hB
  clear hB
  go_wp2_with fail
  refine (pick_any room 7 _ r1 r2 (by omega) (by omega)).mono ?_
  rintro e wp ⟨rfl, rfl⟩
  rw [HP.out]
  go_wp2_with fail
  go_loopw [9, 10, 11] (fun l o i wr => ∃ (k : Nat) (A5 : Option Addr) (L : List Sl) (c5 : Nat) (R : List (Int × Int)), k ≤ 30 ∧ k ≤ zs.length ∧ i = .int .i64 k ∧ l = .slice A5 L.length c5 ∧ L.length ≤ 7 ∧ R.length = k ∧ Hid (OInv wA wr A5 L o R N0)) (fun _ _ i _ => 30 - (intOf i).toNat)
  case atStart => exact ⟨0, none, [], 0, [], by omega, Nat.zero_le _, rfl, rfl, by simp, rfl, Lib.hid ⟨RowAt.nil, by rfl, FitS.nil, OwnR.nil wA, by simp [keysL, P13.keys, P13.firsts]⟩⟩
  case round =>
    obtain ⟨k, A5, L, c5, R, hk, hkz, rfl, rfl, hL7, hRk, HV⟩ := hrel
    by_cases gk : k < zs.length ∧ k < 30
    case neg =>
      have hRl : R.length ≤ 30 := by omega
      clear hRk
      obtain ⟨Ao, co, rfl⟩ := HV.out.own.slice
      have HKO := Lib.hid (OwnR.at_ k_len HV.out.own rfl)
      by_cases g1 : k < zs.length
      · have g2 : ¬ k < 30 := fun h => gk ⟨g1, h⟩
        clear gk
        go_wp2_with fail
        obtain ⟨wm, rfl⟩ : ∃ wm, wm = wr := ⟨_, rfl⟩
        go_loopw [19, 20] (fun v i wy => ∃ (z : Int) (W : List (Int × Int)), -1 ≤ z ∧ z < R.length ∧ i = .int .i64 z ∧ W.length ≤ N0 + 1 ∧ Hid (OwnK wm wy v W ∧ P13.pickUp (N0 + 1) (R.take (z + 1).toNat).reverse W = P13.pickUp (N0 + 1) R.reverse [])) (fun _ i _ => (intOf i + 1).toNat)
        case atStart => exact ⟨(R.length : Int) - 1, [], by omega, by omega, rfl, by simp, Lib.hid ⟨OwnR.nil wm, by rw [show ((R.length : Int) - 1 + 1).toNat = R.length by omega, List.take_of_length_le (Nat.le_refl _)]⟩⟩
        case round =>
          obtain ⟨z, W, z1, z2, rfl, hW, HW⟩ := hrel
          obtain ⟨wy, rfl⟩ : ∃ wy, wy = wr := ⟨_, rfl⟩
          by_cases gz : 0 ≤ z ∧ W.length < N0 + 1
          case neg =>
            have HKW : Hid (keysL L = W) := Lib.hid (by
              rw [HV.out.keys, ← P13.pickUp_firsts, ← HW.out.2]
              by_cases g : W.length < N0 + 1
              · have : (z + 1).toNat = 0 := by omega
                rw [this]
                rfl
              · exact pick_full g)
            obtain ⟨Aw, cw, rfl⟩ := HW.out.1.slice
            have HKWA := Lib.hid (OwnR.at_ k_len HW.out.1 rfl)
            have hlw : L.length = W.length := by rw [← HKW.out, keys_length]
            have HLW := Lib.hid hlw
            have HLY := Lib.hid (HV.out.at_.up HW.out.1.2)
            have HBY := Lib.hid (below_step (below_step HBA.out HV.out.own.2) HW.out.1.2)
            clear hlw
            have fin : Hid (∀ (wy' : World), Below wy.heap.size wy wy' → Calls Try.prog 11 #[.slice A5 L.length c5] wy' (KeysGot L wy')) := Lib.hid fun W' hB' => H.keys A5 L L.length c5 W' (HLY.out.up hB') rfl (by omega)
            by_cases g6 : 0 ≤ z
            · have g7 : ¬ W.length < N0 + 1 := fun h => gz ⟨g6, h⟩
              have g8 : decide ((W.length : Int) < 1 + p) = false := by rw [decide_eq_false_iff_not]; have := HN0.out; omega
              clear gz
              go_wp2_with fail
              refine (fin.out _ (Below.refl _ _)).mono ?_
              rintro e wk ⟨Ak, nk, ck, rfl, hnk, hK, hB⟩
              obtain rfl : W.length = nk := by rw [← hnk, HLW.out]
              clear hnk
              have HKA := Lib.hid (show KeysAt wk Ak W by rw [← HKW.out]; exact hK)
              have HKB := Lib.hid (HKWA.out.up hB)
              have HBK := Lib.hid (below_step HBY.out hB)
              clear hK hB
              go_wp2_with fail
              go_loopw [24] (fun i wv => ∃ k3 : Nat, k3 ≤ W.length ∧ i = .int .i64 k3 ∧ ∃ qd, wv = wk.drewN qd) (fun i _ => W.length - (intOf i).toNat)
              case atStart => exact ⟨0, Nat.zero_le _, rfl, 0, rfl⟩
              case round =>
                obtain ⟨k3, hk3', rfl, qd, rfl⟩ := hrel
                by_cases g5 : k3 < W.length
                · obtain ⟨kk, hkk⟩ : ∃ kk, W[k3]? = some kk := ⟨_, List.getElem?_eq_getElem g5⟩
                  obtain ⟨b1, eb1, _, d0, d1⟩ := keys_fields HKA.out hkk
                  subst eb1
                  obtain ⟨b2, eb2, _, d2, d3⟩ := keys_fields HKB.out hkk
                  subst eb2
                  clear hkk
                  go_wp2_with fail
                  go_quiet (fail)
                  go_wp2_with fail
                  go_roundw
                  case rel => exact ⟨k3 + 1, by omega, by go_num, qd + nq, rfl⟩
                  case measure => simp [intOf]; omega
                · go_wp2_with fail
                  go_ret
                  exact ⟨rfl, below_drewN HBK.out _⟩
            · clear gz
              go_wp2_with fail
              refine (fin.out _ (Below.refl _ _)).mono ?_
              rintro e wk ⟨Ak, nk, ck, rfl, hnk, hK, hB⟩
              obtain rfl : W.length = nk := by rw [← hnk, HLW.out]
              clear hnk
              have HKA := Lib.hid (show KeysAt wk Ak W by rw [← HKW.out]; exact hK)
              have HKB := Lib.hid (HKWA.out.up hB)
              have HBK := Lib.hid (below_step HBY.out hB)
              clear hK hB
              go_wp2_with fail
              go_loopw [24] (fun i wv => ∃ k3 : Nat, k3 ≤ W.length ∧ i = .int .i64 k3 ∧ ∃ qd, wv = wk.drewN qd) (fun i _ => W.length - (intOf i).toNat)
              case atStart => exact ⟨0, Nat.zero_le _, rfl, 0, rfl⟩
              case round =>
                obtain ⟨k3, hk3', rfl, qd, rfl⟩ := hrel
                by_cases g5 : k3 < W.length
                · obtain ⟨kk, hkk⟩ : ∃ kk, W[k3]? = some kk := ⟨_, List.getElem?_eq_getElem g5⟩
                  obtain ⟨b1, eb1, _, d0, d1⟩ := keys_fields HKA.out hkk
                  subst eb1
                  obtain ⟨b2, eb2, _, d2, d3⟩ := keys_fields HKB.out hkk
                  subst eb2
                  clear hkk
                  go_wp2_with fail
                  go_quiet (fail)
                  go_wp2_with fail
                  go_roundw
                  case rel => exact ⟨k3 + 1, by omega, by go_num, qd + nq, rfl⟩
                  case measure => simp [intOf]; omega
                · go_wp2_with fail
                  go_ret
                  exact ⟨rfl, below_drewN HBK.out _⟩
          obtain ⟨g6, g7⟩ := gz
          obtain ⟨j, rfl⟩ := Int.eq_ofNat_of_zero_le g6
          have g8 : decide ((W.length : Int) < 1 + p) = true := by rw [decide_eq_true_iff]; have := HN0.out; omega
          have gj : j < R.length := by omega
          obtain ⟨kk, hkk⟩ : ∃ kk, R[j]? = some kk := ⟨_, List.getElem?_eq_getElem gj⟩
          have HKK := Lib.hid hkk
          have HPK : Hid ((kk ∈ W → P13.pickUp (N0 + 1) (R.take j).reverse W = P13.pickUp (N0 + 1) R.reverse []) ∧ (kk ∉ W → P13.pickUp (N0 + 1) (R.take j).reverse (W ++ [kk]) = P13.pickUp (N0 + 1) R.reverse [])) := Lib.hid (by have h := HW.out.2; rw [show ((j : Int) + 1).toNat = j + 1 by omega, take_rev hkk, P13.pickUp, if_pos g7] at h; exact ⟨fun hm => by rw [if_pos hm] at h; exact h, fun hm => by rw [if_neg hm] at h; exact h⟩)
          clear hkk
          obtain ⟨Aw, cw, rfl⟩ := HW.out.1.slice
          have HKWA := Lib.hid (OwnR.at_ k_len HW.out.1 rfl)
          have HKOY := Lib.hid (HKO.out.up HW.out.1.2)
          go_wp2_with fail
          go_loopw [21, 22] (fun h i wv => ∃ (k3 : Nat) (hb : Bool), k3 ≤ W.length ∧ i = .int .i64 k3 ∧ h = .bool hb ∧ Hid (hb = decide (kk ∈ W.take k3)) ∧ ∃ qd, wv = wy.drewN qd) (fun _ i _ => W.length - (intOf i).toNat)
          case atStart => exact ⟨0, false, Nat.zero_le _, rfl, rfl, Lib.hid (by simp), 0, rfl⟩
          case round =>
            obtain ⟨k3, hb, hk3', rfl, rfl, HD, qd, rfl⟩ := hrel
            by_cases g5 : k3 < W.length
            · obtain ⟨ww, hww⟩ : ∃ ww, W[k3]? = some ww := ⟨_, List.getElem?_eq_getElem g5⟩
              obtain ⟨b1, eb1, _, d0, d1⟩ := keys_fields HKWA.out hww
              subst eb1
              obtain ⟨b2, eb2, _, d2, d3⟩ := keys_fields HKOY.out HKK.out
              subst eb2
              have HMT := Lib.hid (mem_take_succ hww kk)
              clear hww
              cases hb with
              | true =>
                go_wp2_with fail
                go_quiet (fail)
                go_wp2_with fail
                go_roundw
                case rel => exact ⟨k3 + 1, true, by omega, by go_num, rfl, Lib.hid (by symm; rw [decide_eq_true_iff, HMT.out]; exact .inl (of_decide_eq_true HD.out.symm)), qd + nq, rfl⟩
                case measure => simp [intOf]; omega
              | false =>
                cases t0 : (ww.1 == kk.1) with
                | false =>
                  go_wp2_with fail
                  go_quiet (fail)
                  go_wp2_with fail
                  go_roundw
                  case rel => exact ⟨k3 + 1, false, by omega, by go_num, rfl, Lib.hid (by symm; rw [decide_eq_false_iff_not, HMT.out]; exact fun h => h.elim (fun h => of_decide_eq_false HD.out.symm h) (fun h => by rw [h] at t0; simp at t0)), qd + nq, rfl⟩
                  case measure => simp [intOf]; omega
                | true =>
                  cases t1 : (ww.2 == kk.2) with
                  | false =>
                    go_wp2_with fail
                    go_quiet (fail)
                    go_wp2_with fail
                    go_roundw
                    case rel => exact ⟨k3 + 1, false, by omega, by go_num, rfl, Lib.hid (by symm; rw [decide_eq_false_iff_not, HMT.out]; exact fun h => h.elim (fun h => of_decide_eq_false HD.out.symm h) (fun h => by rw [h] at t1; simp at t1)), qd + nq, rfl⟩
                    case measure => simp [intOf]; omega
                  | true =>
                    have HEQ : Hid (kk = ww) := Lib.hid (Prod.ext (by simpa using (by simpa using t0 : ww.1 = kk.1).symm) (by simpa using (by simpa using t1 : ww.2 = kk.2).symm))
                    go_wp2_with fail
                    go_quiet (fail)
                    go_wp2_with fail
                    go_roundw
                    case rel => exact ⟨k3 + 1, true, by omega, by go_num, rfl, Lib.hid (by symm; rw [decide_eq_true_iff, HMT.out]; exact .inr HEQ.out), qd + nq, rfl⟩
                    case measure => simp [intOf]; omega
            · have HD2 : Hid (hb = decide (kk ∈ W)) := Lib.hid (by have := HD.out; rwa [List.take_of_length_le (by omega)] at this)
              obtain ⟨wd, hwd⟩ : ∃ wd, wd = wy.drewN qd := ⟨_, rfl⟩
              have hd : Below wy.heap.size wy wd := by rw [hwd]; exact below_drewN (Below.refl _ _) _
              have HOD := Lib.hid (HW.out.1.up hd)
              have HKD := Lib.hid (HKOY.out.up hd)
              rw [← hwd]
              clear hwd hd
              cases hb with
              | true =>
                go_wp2_with fail
                go_roundw
                case rel => exact ⟨(j : Int) - 1, W, by omega, by omega, by go_num, hW, Lib.hid ⟨HOD.out, by rw [show ((j : Int) - 1 + 1).toNat = j by omega]; exact HPK.out.1 (of_decide_eq_true HD2.out.symm)⟩⟩
                case measure => simp [intOf]
              | false =>
                obtain ⟨b2, eb2, _, d2, d3⟩ := keys_fields HKD.out HKK.out
                subst eb2
                obtain ⟨NN, hNN⟩ : ∃ NN, W.length + 1 = NN := ⟨_, rfl⟩
                obtain ⟨A7, c7, W7, hrun7, hO7, _⟩ := push_key HOD.out kk NN hNN (by omega)
                have HR7 := Lib.hid hrun7
                have HO7 := Lib.hid hO7
                clear hrun7 hO7 hNN
                go_wp2_with (at_builtin; refine wpList_append_run rfl rfl (by simp [Region.wanted]) rfl rfl HR7.out ?_)
                go_roundw
                case rel => exact ⟨(j : Int) - 1, W ++ [kk], by omega, by omega, by go_num, by rw [List.length_append, List.length_singleton]; omega, Lib.hid ⟨HO7.out, by rw [show ((j : Int) - 1 + 1).toNat = j by omega]; exact HPK.out.2 (of_decide_eq_false HD2.out.symm)⟩⟩
                case measure => simp [intOf]
      · clear gk
        go_wp2_with fail
        obtain ⟨wm, rfl⟩ : ∃ wm, wm = wr := ⟨_, rfl⟩
        go_loopw [19, 20] (fun v i wy => ∃ (z : Int) (W : List (Int × Int)), -1 ≤ z ∧ z < R.length ∧ i = .int .i64 z ∧ W.length ≤ N0 + 1 ∧ Hid (OwnK wm wy v W ∧ P13.pickUp (N0 + 1) (R.take (z + 1).toNat).reverse W = P13.pickUp (N0 + 1) R.reverse [])) (fun _ i _ => (intOf i + 1).toNat)
        case atStart => exact ⟨(R.length : Int) - 1, [], by omega, by omega, rfl, by simp, Lib.hid ⟨OwnR.nil wm, by rw [show ((R.length : Int) - 1 + 1).toNat = R.length by omega, List.take_of_length_le (Nat.le_refl _)]⟩⟩
        case round =>
          obtain ⟨z, W, z1, z2, rfl, hW, HW⟩ := hrel
          obtain ⟨wy, rfl⟩ : ∃ wy, wy = wr := ⟨_, rfl⟩
          by_cases gz : 0 ≤ z ∧ W.length < N0 + 1
          case neg =>
            have HKW : Hid (keysL L = W) := Lib.hid (by
              rw [HV.out.keys, ← P13.pickUp_firsts, ← HW.out.2]
              by_cases g : W.length < N0 + 1
              · have : (z + 1).toNat = 0 := by omega
                rw [this]
                rfl
              · exact pick_full g)
            obtain ⟨Aw, cw, rfl⟩ := HW.out.1.slice
            have HKWA := Lib.hid (OwnR.at_ k_len HW.out.1 rfl)
            have hlw : L.length = W.length := by rw [← HKW.out, keys_length]
            have HLW := Lib.hid hlw
            have HLY := Lib.hid (HV.out.at_.up HW.out.1.2)
            have HBY := Lib.hid (below_step (below_step HBA.out HV.out.own.2) HW.out.1.2)
            clear hlw
            have fin : Hid (∀ (wy' : World), Below wy.heap.size wy wy' → Calls Try.prog 11 #[.slice A5 L.length c5] wy' (KeysGot L wy')) := Lib.hid fun W' hB' => H.keys A5 L L.length c5 W' (HLY.out.up hB') rfl (by omega)
            by_cases g6 : 0 ≤ z
            · have g7 : ¬ W.length < N0 + 1 := fun h => gz ⟨g6, h⟩
              have g8 : decide ((W.length : Int) < 1 + p) = false := by rw [decide_eq_false_iff_not]; have := HN0.out; omega
              clear gz
              go_wp2_with fail
              refine (fin.out _ (Below.refl _ _)).mono ?_
              rintro e wk ⟨Ak, nk, ck, rfl, hnk, hK, hB⟩
              obtain rfl : W.length = nk := by rw [← hnk, HLW.out]
              clear hnk
              have HKA := Lib.hid (show KeysAt wk Ak W by rw [← HKW.out]; exact hK)
              have HKB := Lib.hid (HKWA.out.up hB)
              have HBK := Lib.hid (below_step HBY.out hB)
              clear hK hB
              go_wp2_with fail
              go_loopw [24] (fun i wv => ∃ k3 : Nat, k3 ≤ W.length ∧ i = .int .i64 k3 ∧ ∃ qd, wv = wk.drewN qd) (fun i _ => W.length - (intOf i).toNat)
              case atStart => exact ⟨0, Nat.zero_le _, rfl, 0, rfl⟩
              case round =>
                obtain ⟨k3, hk3', rfl, qd, rfl⟩ := hrel
                by_cases g5 : k3 < W.length
                · obtain ⟨kk, hkk⟩ : ∃ kk, W[k3]? = some kk := ⟨_, List.getElem?_eq_getElem g5⟩
                  obtain ⟨b1, eb1, _, d0, d1⟩ := keys_fields HKA.out hkk
                  subst eb1
                  obtain ⟨b2, eb2, _, d2, d3⟩ := keys_fields HKB.out hkk
                  subst eb2
                  clear hkk
                  go_wp2_with fail
                  go_quiet (fail)
                  go_wp2_with fail
                  go_roundw
                  case rel => exact ⟨k3 + 1, by omega, by go_num, qd + nq, rfl⟩
                  case measure => simp [intOf]; omega
                · go_wp2_with fail
                  go_ret
                  exact ⟨rfl, below_drewN HBK.out _⟩
            · clear gz
              go_wp2_with fail
              refine (fin.out _ (Below.refl _ _)).mono ?_
              rintro e wk ⟨Ak, nk, ck, rfl, hnk, hK, hB⟩
              obtain rfl : W.length = nk := by rw [← hnk, HLW.out]
              clear hnk
              have HKA := Lib.hid (show KeysAt wk Ak W by rw [← HKW.out]; exact hK)
              have HKB := Lib.hid (HKWA.out.up hB)
              have HBK := Lib.hid (below_step HBY.out hB)
              clear hK hB
              go_wp2_with fail
              go_loopw [24] (fun i wv => ∃ k3 : Nat, k3 ≤ W.length ∧ i = .int .i64 k3 ∧ ∃ qd, wv = wk.drewN qd) (fun i _ => W.length - (intOf i).toNat)
              case atStart => exact ⟨0, Nat.zero_le _, rfl, 0, rfl⟩
              case round =>
                obtain ⟨k3, hk3', rfl, qd, rfl⟩ := hrel
                by_cases g5 : k3 < W.length
                · obtain ⟨kk, hkk⟩ : ∃ kk, W[k3]? = some kk := ⟨_, List.getElem?_eq_getElem g5⟩
                  obtain ⟨b1, eb1, _, d0, d1⟩ := keys_fields HKA.out hkk
                  subst eb1
                  obtain ⟨b2, eb2, _, d2, d3⟩ := keys_fields HKB.out hkk
                  subst eb2
                  clear hkk
                  go_wp2_with fail
                  go_quiet (fail)
                  go_wp2_with fail
                  go_roundw
                  case rel => exact ⟨k3 + 1, by omega, by go_num, qd + nq, rfl⟩
                  case measure => simp [intOf]; omega
                · go_wp2_with fail
                  go_ret
                  exact ⟨rfl, below_drewN HBK.out _⟩
          obtain ⟨g6, g7⟩ := gz
          obtain ⟨j, rfl⟩ := Int.eq_ofNat_of_zero_le g6
          have g8 : decide ((W.length : Int) < 1 + p) = true := by rw [decide_eq_true_iff]; have := HN0.out; omega
          have gj : j < R.length := by omega
          obtain ⟨kk, hkk⟩ : ∃ kk, R[j]? = some kk := ⟨_, List.getElem?_eq_getElem gj⟩
          have HKK := Lib.hid hkk
          have HPK : Hid ((kk ∈ W → P13.pickUp (N0 + 1) (R.take j).reverse W = P13.pickUp (N0 + 1) R.reverse []) ∧ (kk ∉ W → P13.pickUp (N0 + 1) (R.take j).reverse (W ++ [kk]) = P13.pickUp (N0 + 1) R.reverse [])) := Lib.hid (by have h := HW.out.2; rw [show ((j : Int) + 1).toNat = j + 1 by omega, take_rev hkk, P13.pickUp, if_pos g7] at h; exact ⟨fun hm => by rw [if_pos hm] at h; exact h, fun hm => by rw [if_neg hm] at h; exact h⟩)
          clear hkk
          obtain ⟨Aw, cw, rfl⟩ := HW.out.1.slice
          have HKWA := Lib.hid (OwnR.at_ k_len HW.out.1 rfl)
          have HKOY := Lib.hid (HKO.out.up HW.out.1.2)
          go_wp2_with fail
          go_loopw [21, 22] (fun h i wv => ∃ (k3 : Nat) (hb : Bool), k3 ≤ W.length ∧ i = .int .i64 k3 ∧ h = .bool hb ∧ Hid (hb = decide (kk ∈ W.take k3)) ∧ ∃ qd, wv = wy.drewN qd) (fun _ i _ => W.length - (intOf i).toNat)
          case atStart => exact ⟨0, false, Nat.zero_le _, rfl, rfl, Lib.hid (by simp), 0, rfl⟩
          case round =>
            obtain ⟨k3, hb, hk3', rfl, rfl, HD, qd, rfl⟩ := hrel
            by_cases g5 : k3 < W.length
            · obtain ⟨ww, hww⟩ : ∃ ww, W[k3]? = some ww := ⟨_, List.getElem?_eq_getElem g5⟩
              obtain ⟨b1, eb1, _, d0, d1⟩ := keys_fields HKWA.out hww
              subst eb1
              obtain ⟨b2, eb2, _, d2, d3⟩ := keys_fields HKOY.out HKK.out
              subst eb2
              have HMT := Lib.hid (mem_take_succ hww kk)
              clear hww
              cases hb with
              | true =>
                go_wp2_with fail
                go_quiet (fail)
                go_wp2_with fail
                go_roundw
                case rel => exact ⟨k3 + 1, true, by omega, by go_num, rfl, Lib.hid (by symm; rw [decide_eq_true_iff, HMT.out]; exact .inl (of_decide_eq_true HD.out.symm)), qd + nq, rfl⟩
                case measure => simp [intOf]; omega
              | false =>
                cases t0 : (ww.1 == kk.1) with
                | false =>
                  go_wp2_with fail
                  go_quiet (fail)
                  go_wp2_with fail
                  go_roundw
                  case rel => exact ⟨k3 + 1, false, by omega, by go_num, rfl, Lib.hid (by symm; rw [decide_eq_false_iff_not, HMT.out]; exact fun h => h.elim (fun h => of_decide_eq_false HD.out.symm h) (fun h => by rw [h] at t0; simp at t0)), qd + nq, rfl⟩
                  case measure => simp [intOf]; omega
                | true =>
                  cases t1 : (ww.2 == kk.2) with
                  | false =>
                    go_wp2_with fail
                    go_quiet (fail)
                    go_wp2_with fail
                    go_roundw
                    case rel => exact ⟨k3 + 1, false, by omega, by go_num, rfl, Lib.hid (by symm; rw [decide_eq_false_iff_not, HMT.out]; exact fun h => h.elim (fun h => of_decide_eq_false HD.out.symm h) (fun h => by rw [h] at t1; simp at t1)), qd + nq, rfl⟩
                    case measure => simp [intOf]; omega
                  | true =>
                    have HEQ : Hid (kk = ww) := Lib.hid (Prod.ext (by simpa using (by simpa using t0 : ww.1 = kk.1).symm) (by simpa using (by simpa using t1 : ww.2 = kk.2).symm))
                    go_wp2_with fail
                    go_quiet (fail)
                    go_wp2_with fail
                    go_roundw
                    case rel => exact ⟨k3 + 1, true, by omega, by go_num, rfl, Lib.hid (by symm; rw [decide_eq_true_iff, HMT.out]; exact .inr HEQ.out), qd + nq, rfl⟩
                    case measure => simp [intOf]; omega
            · have HD2 : Hid (hb = decide (kk ∈ W)) := Lib.hid (by have := HD.out; rwa [List.take_of_length_le (by omega)] at this)
              obtain ⟨wd, hwd⟩ : ∃ wd, wd = wy.drewN qd := ⟨_, rfl⟩
              have hd : Below wy.heap.size wy wd := by rw [hwd]; exact below_drewN (Below.refl _ _) _
              have HOD := Lib.hid (HW.out.1.up hd)
              have HKD := Lib.hid (HKOY.out.up hd)
              rw [← hwd]
              clear hwd hd
              cases hb with
              | true =>
                go_wp2_with fail
                go_roundw
                case rel => exact ⟨(j : Int) - 1, W, by omega, by omega, by go_num, hW, Lib.hid ⟨HOD.out, by rw [show ((j : Int) - 1 + 1).toNat = j by omega]; exact HPK.out.1 (of_decide_eq_true HD2.out.symm)⟩⟩
                case measure => simp [intOf]
              | false =>
                obtain ⟨b2, eb2, _, d2, d3⟩ := keys_fields HKD.out HKK.out
                subst eb2
                obtain ⟨NN, hNN⟩ : ∃ NN, W.length + 1 = NN := ⟨_, rfl⟩
                obtain ⟨A7, c7, W7, hrun7, hO7, _⟩ := push_key HOD.out kk NN hNN (by omega)
                have HR7 := Lib.hid hrun7
                have HO7 := Lib.hid hO7
                clear hrun7 hO7 hNN
                go_wp2_with (at_builtin; refine wpList_append_run rfl rfl (by simp [Region.wanted]) rfl rfl HR7.out ?_)
                go_roundw
                case rel => exact ⟨(j : Int) - 1, W ++ [kk], by omega, by omega, by go_num, by rw [List.length_append, List.length_singleton]; omega, Lib.hid ⟨HO7.out, by rw [show ((j : Int) - 1 + 1).toNat = j by omega]; exact HPK.out.2 (of_decide_eq_false HD2.out.symm)⟩⟩
                case measure => simp [intOf]
    obtain ⟨g1, g2⟩ := gk
    have HRK := Lib.hid hRk
    have hRl : R.length ≤ 30 := by omega
    clear hRk
    obtain ⟨z, hzk⟩ : ∃ z, zs[k]? = some z := ⟨_, List.getElem?_eq_getElem g1⟩
    obtain ⟨hz1, hz2⟩ := HI.out z (List.mem_of_getElem? hzk)
    have HBW := Lib.hid (below_step HBA.out HV.out.own.2)
    obtain ⟨a, rfl, _, y0⟩ := ints_cell (HZ.out.up HBW.out) hzk
    obtain ⟨x, hx⟩ : ∃ x, x = slotOf z ⟨#[118]⟩ := ⟨_, rfl⟩
    have Hx := Lib.hid hx
    have HFX := Lib.hid (show FitS [x] by rw [hx]; exact fit_slotOf _ _ (by show 1 ≤ _; omega))
    have HL := Lib.hid HV.out.at_
    have HOW := Lib.hid HV.out.own
    have HZ2 := Lib.hid (HBS0.out.up HBW.out)
    clear hzk hx
    go_wp2_with fail
    refine (slot_any z ⟨#[118]⟩ _ hz1 hz2).mono ?_
    rintro e wS ⟨rfl, hB⟩
    rw [← Hx.out]
    have HBS := Lib.hid hB
    clear hB
    go_upto_region 9 with (fail)
    have hbk := Blk.new wS 28 #[.int .u64 x.sum, .int .i64 x.len, .string x.left, .string x.right, .string x.val]
    have hal : Below wS.heap.size wS (wS.alloc (.cells #[.int .u64 x.sum, .int .i64 x.len, .string x.left, .string x.right, .string x.val] 28)) := (Below.refl _ _).alloc (Nat.le_refl _) _
    obtain ⟨wb, hW⟩ : ∃ W, W = wS.alloc (.cells #[.int .u64 x.sum, .int .i64 x.len, .string x.left, .string x.right, .string x.val] 28) := ⟨_, rfl⟩
    obtain ⟨g, hg⟩ : ∃ g, g = wS.heap.size := ⟨_, rfl⟩
    rw [← hW] at hbk hal ⊢
    rw [← hg] at hbk ⊢
    have HG := Lib.hid hbk
    have HBwb := Lib.hid hal
    clear hbk hal hW hg
    clear y0
    obtain ⟨⟨y, M, hc⟩, hg⟩ : ∃ r, getM L (x.sum, x.len) = r := ⟨_, rfl⟩
    have HGM := Lib.hid hg
    clear hg
    have u0 := Blk.cell HG.out 0
    have u1 := Blk.cell HG.out 1
    have u2 := Blk.cell HG.out 2
    have u3 := Blk.cell HG.out 3
    have u4 := Blk.cell HG.out 4
    simp only [List.getElem?_toArray, List.getElem?_cons_zero, List.getElem?_cons_succ] at u0 u1 u2 u3 u4
    have ul := Blk.lt HG.out
    go_wp2_with fail
    clear u0 u1 u2 u3 u4 ul
    refine (HNW.get A5 L L.length c5 x.sum x.len _ y M hc HGM.out (HL.out.up (below_step HBS.out HBwb.out)) rfl (by omega) HV.out.fit).mono ?_
    rintro e wa ⟨Aa, na, ca, rfl, hna, hM, hB, hf⟩
    have HNa := Lib.hid hM
    have HBa := Lib.hid hB
    clear hM hB
    have HFa : Hid (∀ a, Aa = some a → wr.heap.size ≤ a.block) := Lib.hid fun a ha => Nat.le_trans (below_step HBS.out HBwb.out).size (hf a ha)
    clear hf
    go_upto_region 10 with (fail)
    have hbk := Blk.new wa 28 #[.int .u64 y.sum, .int .i64 y.len, .string y.left, .string y.right, .string y.val]
    have hal : Below wa.heap.size wa (wa.alloc (.cells #[.int .u64 y.sum, .int .i64 y.len, .string y.left, .string y.right, .string y.val] 28)) := (Below.refl _ _).alloc (Nat.le_refl _) _
    obtain ⟨wy, hW⟩ : ∃ W, W = wa.alloc (.cells #[.int .u64 y.sum, .int .i64 y.len, .string y.left, .string y.right, .string y.val] 28) := ⟨_, rfl⟩
    obtain ⟨g20, hg⟩ : ∃ g, g = wa.heap.size := ⟨_, rfl⟩
    rw [← hW] at hbk hal ⊢
    rw [← hg] at hbk ⊢
    have K20 := Lib.hid hbk
    have HBy := Lib.hid hal
    clear hbk hal hW hg
    subst hna
    rcases getM_cases HGM.out HV.out.right with ⟨rfl, hM, hy, hyk⟩ | ⟨rfl, hM, -, -⟩
    case inr =>
      clear hM
      obtain ⟨N, hN⟩ : ∃ N, N = (allS L x).take (1 + p).toNat := ⟨_, rfl⟩
      obtain ⟨O, hO⟩ : ∃ O, O = (allS L x).drop (1 + p).toNat := ⟨_, rfl⟩
      have q1 : Hid (putM L (1 + p) x = (N, O, 0)) := Lib.hid (by rw [putM_right HV.out.right, hN, hO])
      have q2 : N.length ≤ 7 := by rw [hN, List.length_take, HN1.out]; omega
      have HEN : Hid (N = (allS L x).take (N0 + 1)) := Lib.hid (by rw [hN, HN1.out])
      clear hN hO
      have u0 := Blk.cell (Blk.below HG.out (below_step HBa.out HBy.out) HG.out.lt) 0
      have u1 := Blk.cell (Blk.below HG.out (below_step HBa.out HBy.out) HG.out.lt) 1
      have u2 := Blk.cell (Blk.below HG.out (below_step HBa.out HBy.out) HG.out.lt) 2
      have u3 := Blk.cell (Blk.below HG.out (below_step HBa.out HBy.out) HG.out.lt) 3
      have u4 := Blk.cell (Blk.below HG.out (below_step HBa.out HBy.out) HG.out.lt) 4
      simp only [List.getElem?_toArray, List.getElem?_cons_zero, List.getElem?_cons_succ] at u0 u1 u2 u3 u4
      have ul := Blk.lt (Blk.below HG.out (below_step HBa.out HBy.out) HG.out.lt)
      go_wp2_with fail
      clear u0 u1 u2 u3 u4 ul
      refine (HNW.put A5 L L.length c5 (1 + p) x _ N O 0 q1.out (HL.out.up (below_step (below_step (below_step HBS.out HBwb.out) HBa.out) HBy.out)) rfl (by omega) HV.out.fit HFX.out (by omega) (by omega)).mono ?_
      rintro e wc ⟨Ac, Bc, nc, mc, cc, dc, rfl, hnc, hmc, hN, _, hB, hf⟩
      subst hnc
      have HNc := Lib.hid hN
      have HBc := Lib.hid hB
      clear hN hB
      have HFc : Hid (∀ a, Ac = some a → wr.heap.size ≤ a.block) := Lib.hid fun a ha => Nat.le_trans (below_step (below_step (below_step HBS.out HBwb.out) HBa.out) HBy.out).size (hf a ha)
      clear hf
      have u0 := Blk.cell (Blk.below HG.out (below_step (below_step HBa.out HBy.out) HBc.out) HG.out.lt) 0
      have u1 := Blk.cell (Blk.below HG.out (below_step (below_step HBa.out HBy.out) HBc.out) HG.out.lt) 1
      have u2 := Blk.cell (Blk.below HG.out (below_step (below_step HBa.out HBy.out) HBc.out) HG.out.lt) 2
      have u3 := Blk.cell (Blk.below HG.out (below_step (below_step HBa.out HBy.out) HBc.out) HG.out.lt) 3
      have u4 := Blk.cell (Blk.below HG.out (below_step (below_step HBa.out HBy.out) HBc.out) HG.out.lt) 4
      simp only [List.getElem?_toArray, List.getElem?_cons_zero, List.getElem?_cons_succ] at u0 u1 u2 u3 u4
      have ul := Blk.lt (Blk.below HG.out (below_step (below_step HBa.out HBy.out) HBc.out) HG.out.lt)
      obtain ⟨NN, hNN⟩ : ∃ NN, R.length + 1 = NN := ⟨_, rfl⟩
      obtain ⟨A7, c7, W7, hrun7, hO7, hg7⟩ := push_key (HOW.out.up (below_step (below_step (below_step (below_step HBS.out HBwb.out) HBa.out) HBy.out) HBc.out)) (x.sum, x.len) NN hNN (by omega)
      have HR7 := Lib.hid hrun7
      have HO7 := Lib.hid hO7
      have HG7 := Lib.hid hg7
      clear hrun7 hO7 hg7 hNN
      go_wp2_with (at_builtin; refine wpList_append_run rfl rfl (by simp [Region.wanted]) rfl rfl HR7.out ?_)
      go_roundw
      case rel => exact ⟨k + 1, Ac, N, cc, R ++ [(x.sum, x.len)], by omega, by omega, by go_num, rfl, q2, by rw [List.length_append, List.length_singleton, HRK.out], Lib.hid ⟨RowAt.kept_grown HNc.out HG7.out (fun a ha e => by have h1 := HFc.out a ha; have h2 := (HOW.out.1.lt a.block e).2; omega), (by rw [HEN.out]; exact right_put HV.out.right x _), (by rw [HEN.out]; exact (HV.out.fit.all HFX.out).take _), HO7.out, (by rw [HEN.out]; exact order_put HV.out.keys x)⟩⟩
      case measure => simp [intOf]; omega
    case inl =>
      have HMI : Hid (rightB M = true ∧ FitS M ∧ keysL M = (P13.firsts (R ++ [(x.sum, x.len)]).reverse).take (N0 + 1)) := Lib.hid (by rw [hM]; exact ⟨right_got HV.out.right y, fit_got HV.out.fit hy _, order_got HV.out.right HV.out.keys hy hyk⟩)
      have lm : M.length ≤ 7 := by have := few_keys HMI.out.2.2; omega
      clear hM hy hyk
      by_cases g3 : k < bs.length
      case pos =>
        obtain ⟨bv, hbv⟩ : ∃ bv, bs[k]? = some bv := ⟨_, List.getElem?_eq_getElem g3⟩
        obtain ⟨ab, rfl, _, cb⟩ := bools_cell (HZ2.out.up (below_step (below_step (below_step HBS.out HBwb.out) HBa.out) HBy.out)) hbv
        clear hbv
        cases bv with
        | true =>
          have u0 := Blk.cell (Blk.below HG.out (below_step HBa.out HBy.out) HG.out.lt) 0
          have u1 := Blk.cell (Blk.below HG.out (below_step HBa.out HBy.out) HG.out.lt) 1
          have u2 := Blk.cell (Blk.below HG.out (below_step HBa.out HBy.out) HG.out.lt) 2
          have u3 := Blk.cell (Blk.below HG.out (below_step HBa.out HBy.out) HG.out.lt) 3
          have u4 := Blk.cell (Blk.below HG.out (below_step HBa.out HBy.out) HG.out.lt) 4
          simp only [List.getElem?_toArray, List.getElem?_cons_zero, List.getElem?_cons_succ] at u0 u1 u2 u3 u4
          have ul := Blk.lt (Blk.below HG.out (below_step HBa.out HBy.out) HG.out.lt)
          obtain ⟨NN, hNN⟩ : ∃ NN, R.length + 1 = NN := ⟨_, rfl⟩
          obtain ⟨A7, c7, W7, hrun7, hO7, hg7⟩ := push_key (HOW.out.up (below_step (below_step (below_step HBS.out HBwb.out) HBa.out) HBy.out)) (x.sum, x.len) NN hNN (by omega)
          have HR7 := Lib.hid hrun7
          have HO7 := Lib.hid hO7
          have HG7 := Lib.hid hg7
          clear hrun7 hO7 hg7 hNN
          go_wp2_with (at_builtin; refine wpList_append_run rfl rfl (by simp [Region.wanted]) rfl rfl HR7.out ?_)
          go_roundw
          case rel => exact ⟨k + 1, Aa, M, ca, R ++ [(x.sum, x.len)], by omega, by omega, by go_num, rfl, lm, by rw [List.length_append, List.length_singleton, HRK.out], Lib.hid ⟨RowAt.kept_grown (HNa.out.up HBy.out) HG7.out (fun a ha e => by have h1 := HFa.out a ha; have h2 := (HOW.out.1.lt a.block e).2; omega), HMI.out.1, HMI.out.2.1, HO7.out, HMI.out.2.2⟩⟩
          case measure => simp [intOf]; omega
        | false =>
          obtain ⟨N, hN⟩ : ∃ N, N = (allS L x).take (1 + p).toNat := ⟨_, rfl⟩
          obtain ⟨O, hO⟩ : ∃ O, O = (allS L x).drop (1 + p).toNat := ⟨_, rfl⟩
          have q1 : Hid (putM L (1 + p) x = (N, O, 0)) := Lib.hid (by rw [putM_right HV.out.right, hN, hO])
          have q2 : N.length ≤ 7 := by rw [hN, List.length_take, HN1.out]; omega
          have HEN : Hid (N = (allS L x).take (N0 + 1)) := Lib.hid (by rw [hN, HN1.out])
          clear hN hO
          have u0 := Blk.cell (Blk.below HG.out (below_step HBa.out HBy.out) HG.out.lt) 0
          have u1 := Blk.cell (Blk.below HG.out (below_step HBa.out HBy.out) HG.out.lt) 1
          have u2 := Blk.cell (Blk.below HG.out (below_step HBa.out HBy.out) HG.out.lt) 2
          have u3 := Blk.cell (Blk.below HG.out (below_step HBa.out HBy.out) HG.out.lt) 3
          have u4 := Blk.cell (Blk.below HG.out (below_step HBa.out HBy.out) HG.out.lt) 4
          simp only [List.getElem?_toArray, List.getElem?_cons_zero, List.getElem?_cons_succ] at u0 u1 u2 u3 u4
          have ul := Blk.lt (Blk.below HG.out (below_step HBa.out HBy.out) HG.out.lt)
          go_wp2_with fail
          clear u0 u1 u2 u3 u4 ul
          refine (HNW.put A5 L L.length c5 (1 + p) x _ N O 0 q1.out (HL.out.up (below_step (below_step (below_step HBS.out HBwb.out) HBa.out) HBy.out)) rfl (by omega) HV.out.fit HFX.out (by omega) (by omega)).mono ?_
          rintro e wc ⟨Ac, Bc, nc, mc, cc, dc, rfl, hnc, hmc, hN, _, hB, hf⟩
          subst hnc
          have HNc := Lib.hid hN
          have HBc := Lib.hid hB
          clear hN hB
          have HFc : Hid (∀ a, Ac = some a → wr.heap.size ≤ a.block) := Lib.hid fun a ha => Nat.le_trans (below_step (below_step (below_step HBS.out HBwb.out) HBa.out) HBy.out).size (hf a ha)
          clear hf
          have u0 := Blk.cell (Blk.below HG.out (below_step (below_step HBa.out HBy.out) HBc.out) HG.out.lt) 0
          have u1 := Blk.cell (Blk.below HG.out (below_step (below_step HBa.out HBy.out) HBc.out) HG.out.lt) 1
          have u2 := Blk.cell (Blk.below HG.out (below_step (below_step HBa.out HBy.out) HBc.out) HG.out.lt) 2
          have u3 := Blk.cell (Blk.below HG.out (below_step (below_step HBa.out HBy.out) HBc.out) HG.out.lt) 3
          have u4 := Blk.cell (Blk.below HG.out (below_step (below_step HBa.out HBy.out) HBc.out) HG.out.lt) 4
          simp only [List.getElem?_toArray, List.getElem?_cons_zero, List.getElem?_cons_succ] at u0 u1 u2 u3 u4
          have ul := Blk.lt (Blk.below HG.out (below_step (below_step HBa.out HBy.out) HBc.out) HG.out.lt)
          obtain ⟨NN, hNN⟩ : ∃ NN, R.length + 1 = NN := ⟨_, rfl⟩
          obtain ⟨A7, c7, W7, hrun7, hO7, hg7⟩ := push_key (HOW.out.up (below_step (below_step (below_step (below_step HBS.out HBwb.out) HBa.out) HBy.out) HBc.out)) (x.sum, x.len) NN hNN (by omega)
          have HR7 := Lib.hid hrun7
          have HO7 := Lib.hid hO7
          have HG7 := Lib.hid hg7
          clear hrun7 hO7 hg7 hNN
          go_wp2_with (at_builtin; refine wpList_append_run rfl rfl (by simp [Region.wanted]) rfl rfl HR7.out ?_)
          go_roundw
          case rel => exact ⟨k + 1, Ac, N, cc, R ++ [(x.sum, x.len)], by omega, by omega, by go_num, rfl, q2, by rw [List.length_append, List.length_singleton, HRK.out], Lib.hid ⟨RowAt.kept_grown HNc.out HG7.out (fun a ha e => by have h1 := HFc.out a ha; have h2 := (HOW.out.1.lt a.block e).2; omega), (by rw [HEN.out]; exact right_put HV.out.right x _), (by rw [HEN.out]; exact (HV.out.fit.all HFX.out).take _), HO7.out, (by rw [HEN.out]; exact order_put HV.out.keys x)⟩⟩
          case measure => simp [intOf]; omega
      case neg =>
        obtain ⟨N, hN⟩ : ∃ N, N = (allS L x).take (1 + p).toNat := ⟨_, rfl⟩
        obtain ⟨O, hO⟩ : ∃ O, O = (allS L x).drop (1 + p).toNat := ⟨_, rfl⟩
        have q1 : Hid (putM L (1 + p) x = (N, O, 0)) := Lib.hid (by rw [putM_right HV.out.right, hN, hO])
        have q2 : N.length ≤ 7 := by rw [hN, List.length_take, HN1.out]; omega
        have HEN : Hid (N = (allS L x).take (N0 + 1)) := Lib.hid (by rw [hN, HN1.out])
        clear hN hO
        have u0 := Blk.cell (Blk.below HG.out (below_step HBa.out HBy.out) HG.out.lt) 0
        have u1 := Blk.cell (Blk.below HG.out (below_step HBa.out HBy.out) HG.out.lt) 1
        have u2 := Blk.cell (Blk.below HG.out (below_step HBa.out HBy.out) HG.out.lt) 2
        have u3 := Blk.cell (Blk.below HG.out (below_step HBa.out HBy.out) HG.out.lt) 3
        have u4 := Blk.cell (Blk.below HG.out (below_step HBa.out HBy.out) HG.out.lt) 4
        simp only [List.getElem?_toArray, List.getElem?_cons_zero, List.getElem?_cons_succ] at u0 u1 u2 u3 u4
        have ul := Blk.lt (Blk.below HG.out (below_step HBa.out HBy.out) HG.out.lt)
        go_wp2_with fail
        clear u0 u1 u2 u3 u4 ul
        refine (HNW.put A5 L L.length c5 (1 + p) x _ N O 0 q1.out (HL.out.up (below_step (below_step (below_step HBS.out HBwb.out) HBa.out) HBy.out)) rfl (by omega) HV.out.fit HFX.out (by omega) (by omega)).mono ?_
        rintro e wc ⟨Ac, Bc, nc, mc, cc, dc, rfl, hnc, hmc, hN, _, hB, hf⟩
        subst hnc
        have HNc := Lib.hid hN
        have HBc := Lib.hid hB
        clear hN hB
        have HFc : Hid (∀ a, Ac = some a → wr.heap.size ≤ a.block) := Lib.hid fun a ha => Nat.le_trans (below_step (below_step (below_step HBS.out HBwb.out) HBa.out) HBy.out).size (hf a ha)
        clear hf
        have u0 := Blk.cell (Blk.below HG.out (below_step (below_step HBa.out HBy.out) HBc.out) HG.out.lt) 0
        have u1 := Blk.cell (Blk.below HG.out (below_step (below_step HBa.out HBy.out) HBc.out) HG.out.lt) 1
        have u2 := Blk.cell (Blk.below HG.out (below_step (below_step HBa.out HBy.out) HBc.out) HG.out.lt) 2
        have u3 := Blk.cell (Blk.below HG.out (below_step (below_step HBa.out HBy.out) HBc.out) HG.out.lt) 3
        have u4 := Blk.cell (Blk.below HG.out (below_step (below_step HBa.out HBy.out) HBc.out) HG.out.lt) 4
        simp only [List.getElem?_toArray, List.getElem?_cons_zero, List.getElem?_cons_succ] at u0 u1 u2 u3 u4
        have ul := Blk.lt (Blk.below HG.out (below_step (below_step HBa.out HBy.out) HBc.out) HG.out.lt)
        obtain ⟨NN, hNN⟩ : ∃ NN, R.length + 1 = NN := ⟨_, rfl⟩
        obtain ⟨A7, c7, W7, hrun7, hO7, hg7⟩ := push_key (HOW.out.up (below_step (below_step (below_step (below_step HBS.out HBwb.out) HBa.out) HBy.out) HBc.out)) (x.sum, x.len) NN hNN (by omega)
        have HR7 := Lib.hid hrun7
        have HO7 := Lib.hid hO7
        have HG7 := Lib.hid hg7
        clear hrun7 hO7 hg7 hNN
        go_wp2_with (at_builtin; refine wpList_append_run rfl rfl (by simp [Region.wanted]) rfl rfl HR7.out ?_)
        go_roundw
        case rel => exact ⟨k + 1, Ac, N, cc, R ++ [(x.sum, x.len)], by omega, by omega, by go_num, rfl, q2, by rw [List.length_append, List.length_singleton, HRK.out], Lib.hid ⟨RowAt.kept_grown HNc.out HG7.out (fun a ha e => by have h1 := HFc.out a ha; have h2 := (HOW.out.1.lt a.block e).2; omega), (by rw [HEN.out]; exact right_put HV.out.right x _), (by rw [HEN.out]; exact (HV.out.fit.all HFX.out).take _), HO7.out, (by rw [HEN.out]; exact order_put HV.out.keys x)⟩⟩
        case measure => simp [intOf]; omega

end Go.Proofs.Ytndhaickelbkiaa
