/-
  LruAgain returns true, if package lru is as chapter 13 says: what is got again, or put again as it is, changes nothing more. Nothing that was there is changed.
-/
import Derived.Test.YtndhaickelbkiaaAwk
namespace Go.Proofs.Ytndhaickelbkiaa
open Go.RowKit

theorem sl_eq {z y : Sl} (t0 : (z.sum == y.sum) = true) (t1 : (z.len == y.len) = true) (t2 : (z.left.toList == y.left.toList) = true) (t3 : (z.right.toList == y.right.toList) = true) (t4 : (z.val.toList == y.val.toList) = true) : z = y := by
  have h : ∀ {a b : ByteArray}, (a.toList == b.toList) = true → a = b := fun {a b} h => by
    have e := eq_of_beq h
    rw [Lib.toList_data, Lib.toList_data] at e
    exact ByteArray.ext (Array.toList_inj.1 e)
  cases z
  cases y
  simp only [beq_iff_eq] at t0 t1
  have e2 := h t2
  have e3 := h t3
  have e4 := h t4
  simp only at t0 t1 e2 e3 e4
  subst t0 t1 e2 e3 e4
  rfl
theorem getM_cases {L : List Sl} {k : Int × Int} {x : Sl} {M : List Sl} {b : Int} (h : getM L k = (x, M, b)) (hr : rightB L = true) : (b = 0 ∧ M = x :: withoutS L x.key ∧ x ∈ L ∧ x.key = k) ∨ (b = 10 ∧ M = [] ∧ x = zeroS ∧ k ∉ keysL L) := by
  unfold getM at h
  rw [hr] at h
  cases hf : findS L k with
  | none =>
    rw [hf] at h
    simp only [if_true, Prod.mk.injEq] at h
    exact .inr ⟨h.2.2.symm, h.2.1.symm, h.1.symm, P13.find_none hf⟩
  | some y =>
    rw [hf] at h
    simp only [if_true, Prod.mk.injEq] at h
    obtain ⟨h1, h2⟩ := P13.find_some hf
    obtain ⟨rfl, h3, h4⟩ := h
    exact .inl ⟨h4.symm, by rw [← h3, h2], h1, h2⟩
theorem count_take_succ {M : List Sl} {k : Nat} {z : Sl} (h : M[k]? = some z) (y : Sl) : (M.take (k + 1)).count y = (M.take k).count y + if z = y then 1 else 0 := by
  obtain ⟨hk, rfl⟩ := List.getElem?_eq_some_iff.1 h
  rw [List.take_succ_eq_append_getElem hk, List.count_append, List.count_singleton]
  by_cases e : M[k] = y <;> simp [e]
theorem count_take_le (M : List Sl) (k : Nat) (y : Sl) : (M.take k).count y ≤ k := Nat.le_trans List.count_le_length (List.length_take_le _ _)

set_option maxHeartbeats 8000000 in
set_option maxRecDepth 100000 in
theorem again_any (H : LruOk) (A : Option Addr) (zs : List Int) (n c : Nat) (key room : Int) (w : World) (ha : IntsAt w A zs) (hn : zs.length = n) (h1 : n ≤ 9223372036854775807) (hz : InRange zs)
    (k1 : -9223372036854775808 ≤ key) (k2 : key ≤ 9223372036854775807) (r1 : -9223372036854775808 ≤ room) (r2 : room ≤ 9223372036854775807) :
    Calls Try.prog 7 #[.slice A n c, .int .i64 key, .int .i64 room] w fun e w' => e = .returned (.bool true) ∧ Below w.heap.size w w' := by
  subst hn
  have HZ := Lib.hid ha
  have HI := Lib.hid hz
  clear ha hz
  obtain ⟨p, hp⟩ : ∃ p, pickI room 10 = p := ⟨_, rfl⟩
  obtain ⟨p1, p2⟩ := pickI_range room 10 (by omega)
  rw [hp] at p1 p2
  have HP := Lib.hid hp
  obtain ⟨s, hs⟩ : ∃ s, s = slotOf key ⟨#[97, 103, 97, 105, 110]⟩ := ⟨_, rfl⟩
  have Hs := Lib.hid hs
  clear hp hs
  go_enter Try.func7, Try.ntmps7
  go_wp2_with fail
  refine (awake_any H _).mono ?_
  rintro e wA ⟨rfl, hB⟩
  have HBA := Lib.hid hB
  clear hB
  go_wp2_with fail
  refine (list_any A zs zs.length c _ (HZ.out.up HBA.out) rfl (by omega) HI.out).mono ?_
  rintro e wL ⟨Al, L, cl, rfl, hL, hLr, hL9, hLf, hB⟩
  have HL := Lib.hid hL
  have HR := Lib.hid hLr
  have HF := Lib.hid hLf
  have HBL := Lib.hid hB
  clear hL hLr hLf hB
  go_wp2_with fail
  refine (slot_any key ⟨#[97, 103, 97, 105, 110]⟩ _ k1 k2).mono ?_
  rintro e wS ⟨rfl, hB⟩
  rw [← Hs.out]
  have HBS := Lib.hid hB
  clear hB
  go_upto_region 4 with (fail)
  have hbk := Blk.new wS 28 #[.int .u64 s.sum, .int .i64 s.len, .string s.left, .string s.right, .string s.val]
  have hal : Below wS.heap.size wS (wS.alloc (.cells #[.int .u64 s.sum, .int .i64 s.len, .string s.left, .string s.right, .string s.val] 28)) := (Below.refl _ _).alloc (Nat.le_refl _) _
  obtain ⟨wb, hW⟩ : ∃ W, W = wS.alloc (.cells #[.int .u64 s.sum, .int .i64 s.len, .string s.left, .string s.right, .string s.val] 28) := ⟨_, rfl⟩
  obtain ⟨g9, hg⟩ : ∃ g, g = wS.heap.size := ⟨_, rfl⟩
  rw [← hW] at hbk hal ⊢
  rw [← hg] at hbk ⊢
  have K9 := Lib.hid hbk
  have HBwb := Lib.hid hal
  clear hbk hal hW hg
  go_wp2_with fail
  refine (pick_any room 10 _ r1 r2 (by omega) (by omega)).mono ?_
  rintro e wp ⟨rfl, rfl⟩
  rw [HP.out]
  have x0 := Blk.cell K9.out 0
  have x1 := Blk.cell K9.out 1
  have x2 := Blk.cell K9.out 2
  have x3 := Blk.cell K9.out 3
  have x4 := Blk.cell K9.out 4
  simp only [List.getElem?_toArray, List.getElem?_cons_zero, List.getElem?_cons_succ] at x0 x1 x2 x3 x4
  have xl := Blk.lt K9.out
  go_wp2_with fail
  clear x0 x1 x2 x3 x4 xl
  obtain ⟨Na, hNa⟩ : ∃ Na, Na = (allS L s).take (1 + p).toNat := ⟨_, rfl⟩
  obtain ⟨Oa, hOa⟩ : ∃ Oa, Oa = (allS L s).drop (1 + p).toNat := ⟨_, rfl⟩
  have HFS := Lib.hid (show FitS [s] by rw [Hs.out]; exact fit_slotOf _ _ (by show 5 ≤ _; omega))
  have q1 : Hid (putM L (1 + p) s = (Na, Oa, 0)) := Lib.hid (by rw [putM_right HR.out, hNa, hOa])
  have q2 : Hid (putM Na (1 + p) s = (Na, [], 0)) := Lib.hid (by rw [hNa, putM_right (right_put HR.out s _)]; exact Prod.ext (P13.take_all_again (by omega)) (Prod.ext (P13.drop_all_again (by omega)) rfl))
  have q3 : Hid (getM Na (s.sum, s.len) = (s, Na, 0)) := Lib.hid (by rw [hNa]; unfold getM findS; rw [right_put HR.out s _, show ((s.sum, s.len) : Int × Int) = s.key from rfl, P13.find_put (by omega)]; exact Prod.ext rfl (Prod.ext (P13.got_put (by omega)) rfl))
  have q4 : Na.length ≤ 10 := by rw [hNa, List.length_take]; omega
  have q5 := Lib.hid (show FitS Na by rw [hNa]; exact (HF.out.all HFS.out).take _)
  clear hNa hOa
  refine (H.put Al L L.length cl (1 + p) s _ Na Oa 0 q1.out (HL.out.up (below_step HBS.out HBwb.out)) rfl (by omega) HF.out HFS.out (by omega) (by omega)).mono ?_
  rintro e wa ⟨Aa, Ba, na, ma, ca, da, rfl, hna, hma, hN, hO, hB⟩
  have HNa := Lib.hid hN
  have HOa := Lib.hid hO
  have HBa := Lib.hid hB
  clear hN hO hB
  subst hna
  have x0 := Blk.cell (Blk.below K9.out HBa.out K9.out.lt) 0
  have x1 := Blk.cell (Blk.below K9.out HBa.out K9.out.lt) 1
  have x2 := Blk.cell (Blk.below K9.out HBa.out K9.out.lt) 2
  have x3 := Blk.cell (Blk.below K9.out HBa.out K9.out.lt) 3
  have x4 := Blk.cell (Blk.below K9.out HBa.out K9.out.lt) 4
  simp only [List.getElem?_toArray, List.getElem?_cons_zero, List.getElem?_cons_succ] at x0 x1 x2 x3 x4
  have xl := Blk.lt (Blk.below K9.out HBa.out K9.out.lt)
  go_wp2_with fail
  clear x0 x1 x2 x3 x4 xl
  refine (H.put Aa Na Na.length ca (1 + p) s _ Na [] 0 q2.out HNa.out rfl (by omega) q5.out HFS.out (by omega) (by omega)).mono ?_
  rintro e wb ⟨Ab, Bb, nb, mb, cb, db, rfl, hnb, hmb, hN, hO, hB⟩
  have HNb := Lib.hid hN
  have HOb := Lib.hid hO
  have HBb := Lib.hid hB
  clear hN hO hB
  subst hnb
  obtain rfl : 0 = mb := hmb
  have x0 := Blk.cell (Blk.below K9.out (below_step HBa.out HBb.out) K9.out.lt) 0
  have x1 := Blk.cell (Blk.below K9.out (below_step HBa.out HBb.out) K9.out.lt) 1
  have x2 := Blk.cell (Blk.below K9.out (below_step HBa.out HBb.out) K9.out.lt) 2
  have x3 := Blk.cell (Blk.below K9.out (below_step HBa.out HBb.out) K9.out.lt) 3
  have x4 := Blk.cell (Blk.below K9.out (below_step HBa.out HBb.out) K9.out.lt) 4
  simp only [List.getElem?_toArray, List.getElem?_cons_zero, List.getElem?_cons_succ] at x0 x1 x2 x3 x4
  have xl := Blk.lt (Blk.below K9.out (below_step HBa.out HBb.out) K9.out.lt)
  go_wp2_with fail
  clear x0 x1 x2 x3 x4 xl
  refine (H.get Ab Na Na.length cb s.sum s.len _ s Na 0 q3.out HNb.out rfl (by omega) q5.out).mono ?_
  rintro e wg ⟨Ag, ng, cg, rfl, hng, hM, hB⟩
  have HNg := Lib.hid hM
  have HBg := Lib.hid hB
  clear hM hB
  subst hng
  go_upto_region 8 with (fail)
  have hbk := Blk.new wg 28 #[.int .u64 s.sum, .int .i64 s.len, .string s.left, .string s.right, .string s.val]
  have hal : Below wg.heap.size wg (wg.alloc (.cells #[.int .u64 s.sum, .int .i64 s.len, .string s.left, .string s.right, .string s.val] 28)) := (Below.refl _ _).alloc (Nat.le_refl _) _
  obtain ⟨wm, hW⟩ : ∃ W, W = wg.alloc (.cells #[.int .u64 s.sum, .int .i64 s.len, .string s.left, .string s.right, .string s.val] 28) := ⟨_, rfl⟩
  obtain ⟨g17, hg⟩ : ∃ g, g = wg.heap.size := ⟨_, rfl⟩
  rw [← hW] at hbk hal ⊢
  rw [← hg] at hbk ⊢
  have K17 := Lib.hid hbk
  have HBm := Lib.hid hal
  clear hbk hal hW hg
  have x0 := Blk.cell (Blk.below K9.out (below_step (below_step (below_step HBa.out HBb.out) HBg.out) HBm.out) K9.out.lt) 0
  have x1 := Blk.cell (Blk.below K9.out (below_step (below_step (below_step HBa.out HBb.out) HBg.out) HBm.out) K9.out.lt) 1
  have x2 := Blk.cell (Blk.below K9.out (below_step (below_step (below_step HBa.out HBb.out) HBg.out) HBm.out) K9.out.lt) 2
  have x3 := Blk.cell (Blk.below K9.out (below_step (below_step (below_step HBa.out HBb.out) HBg.out) HBm.out) K9.out.lt) 3
  have x4 := Blk.cell (Blk.below K9.out (below_step (below_step (below_step HBa.out HBb.out) HBg.out) HBm.out) K9.out.lt) 4
  simp only [List.getElem?_toArray, List.getElem?_cons_zero, List.getElem?_cons_succ] at x0 x1 x2 x3 x4
  have xl := Blk.lt (Blk.below K9.out (below_step (below_step (below_step HBa.out HBb.out) HBg.out) HBm.out) K9.out.lt)
  go_wp2_with fail
  clear x0 x1 x2 x3 x4 xl
  obtain ⟨⟨x, M, hc⟩, hg⟩ : ∃ r, getM L (s.sum, s.len) = r := ⟨_, rfl⟩
  have HG := Lib.hid hg
  clear hg
  refine (H.get Al L L.length cl s.sum s.len _ x M hc HG.out (HL.out.up (below_step (below_step (below_step (below_step (below_step HBS.out HBwb.out) HBa.out) HBb.out) HBg.out) HBm.out)) rfl (by omega) HF.out).mono ?_
  rintro e wh ⟨Ah, nh, ch, rfl, hnh, hM, hB⟩
  have HNh := Lib.hid hM
  have HBh := Lib.hid hB
  clear hM hB
  rcases getM_cases HG.out HR.out with ⟨rfl, hM, hx, hxk⟩ | ⟨rfl, hM, hx, _⟩
  case inl =>
    have HMC : Hid (∀ y ∈ L, M.count y = 1) := Lib.hid (fun y hy => by rw [hM]; exact P13.count_got (rightB_iff.1 HR.out) hx hy)
    obtain rfl : L.length = nh := by rw [← hnh, hM]; exact (P13.length_got (rightB_iff.1 HR.out) hx).symm
    have HML := Lib.hid hnh
    clear hM hx hxk hnh
    go_upto_region 9 with (fail)
    have hbk := Blk.new wh 28 #[.int .u64 x.sum, .int .i64 x.len, .string x.left, .string x.right, .string x.val]
    have hal : Below wh.heap.size wh (wh.alloc (.cells #[.int .u64 x.sum, .int .i64 x.len, .string x.left, .string x.right, .string x.val] 28)) := (Below.refl _ _).alloc (Nat.le_refl _) _
    obtain ⟨wk, hW⟩ : ∃ W, W = wh.alloc (.cells #[.int .u64 x.sum, .int .i64 x.len, .string x.left, .string x.right, .string x.val] 28) := ⟨_, rfl⟩
    obtain ⟨g20, hg⟩ : ∃ g, g = wh.heap.size := ⟨_, rfl⟩
    rw [← hW] at hbk hal ⊢
    rw [← hg] at hbk ⊢
    have K20 := Lib.hid hbk
    have HBk := Lib.hid hal
    clear hbk hal hW hg
    have JL := Lib.hid (HL.out.up (below_step (below_step (below_step (below_step (below_step (below_step (below_step HBS.out HBwb.out) HBa.out) HBb.out) HBg.out) HBm.out) HBh.out) HBk.out))
    have JM := Lib.hid (HNh.out.up HBk.out)
    go_wp2_with fail
    go_loopw [23] (fun i wr => ∃ k : Nat, k ≤ L.length ∧ i = .int .i64 k ∧ ∃ q, wr = wk.drewN q) (fun i _ => L.length - (intOf i).toNat)
    case atStart => exact ⟨0, Nat.zero_le _, rfl, 0, rfl⟩
    case round =>
      obtain ⟨k, hk, rfl, q, rfl⟩ := hrel
      by_cases g1 : k < L.length
      · obtain ⟨y, hy⟩ : ∃ y, L[k]? = some y := ⟨_, List.getElem?_eq_getElem g1⟩
        have HY := Lib.hid hy
        clear hy
        go_wp2_with fail
        go_loopw [24, 25] (fun m j wr => ∃ k2 ct : Nat, k2 ≤ L.length ∧ ct ≤ k2 ∧ j = .int .i64 k2 ∧ m = .int .i64 ct ∧ Hid ((M.take k2).count y = ct) ∧ ∃ q, wr = wk.drewN q) (fun _ j _ => L.length - (intOf j).toNat)
        case atStart => exact ⟨0, 0, Nat.zero_le _, Nat.le_refl _, rfl, rfl, Lib.hid (by simp), q, rfl⟩
        case round =>
          obtain ⟨k2, ct, hk2, hct, rfl, rfl, HC, q', rfl⟩ := hrel
          by_cases g2 : k2 < L.length
          · obtain ⟨z, hz⟩ : ∃ z, M[k2]? = some z := ⟨_, List.getElem?_eq_getElem (by rw [HML.out]; exact g2)⟩
            obtain ⟨a1, ea1, _, c0, c1, c2, c3, c4⟩ := slots_fields JM.out hz
            subst ea1
            obtain ⟨a2, ea2, _, d0, d1, d2, d3, d4⟩ := slots_fields JL.out HY.out
            subst ea2
            have HCS := Lib.hid (count_take_succ hz y)
            clear hz
            cases t0 : (z.sum == y.sum) with
            | false =>
              have HE : Hid (z ≠ y) := Lib.hid (by rintro rfl; simp at t0)
              go_wp2_with fail
              go_quiet (fail)
              go_wp2_with fail
              go_roundw
              case rel => exact ⟨k2 + 1, ct, by omega, by omega, by go_num, rfl, Lib.hid (by rw [HCS.out, if_neg HE.out, HC.out]; rfl), q' + nq, rfl⟩
              case measure => simp [intOf]; omega
            | true =>
              cases t1 : (z.len == y.len) with
              | false =>
                have HE : Hid (z ≠ y) := Lib.hid (by rintro rfl; simp at t1)
                go_wp2_with fail
                go_quiet (fail)
                go_wp2_with fail
                go_roundw
                case rel => exact ⟨k2 + 1, ct, by omega, by omega, by go_num, rfl, Lib.hid (by rw [HCS.out, if_neg HE.out, HC.out]; rfl), q' + nq, rfl⟩
                case measure => simp [intOf]; omega
              | true =>
                cases t2 : (z.left.toList == y.left.toList) with
                | false =>
                  have HE : Hid (z ≠ y) := Lib.hid (by rintro rfl; simp at t2)
                  go_wp2_with fail
                  go_quiet (fail)
                  go_wp2_with fail
                  go_roundw
                  case rel => exact ⟨k2 + 1, ct, by omega, by omega, by go_num, rfl, Lib.hid (by rw [HCS.out, if_neg HE.out, HC.out]; rfl), q' + nq, rfl⟩
                  case measure => simp [intOf]; omega
                | true =>
                  cases t3 : (z.right.toList == y.right.toList) with
                  | false =>
                    have HE : Hid (z ≠ y) := Lib.hid (by rintro rfl; simp at t3)
                    go_wp2_with fail
                    go_quiet (fail)
                    go_wp2_with fail
                    go_roundw
                    case rel => exact ⟨k2 + 1, ct, by omega, by omega, by go_num, rfl, Lib.hid (by rw [HCS.out, if_neg HE.out, HC.out]; rfl), q' + nq, rfl⟩
                    case measure => simp [intOf]; omega
                  | true =>
                    cases t4 : (z.val.toList == y.val.toList) with
                    | false =>
                      have HE : Hid (z ≠ y) := Lib.hid (by rintro rfl; simp at t4)
                      go_wp2_with fail
                      go_quiet (fail)
                      go_wp2_with fail
                      go_roundw
                      case rel => exact ⟨k2 + 1, ct, by omega, by omega, by go_num, rfl, Lib.hid (by rw [HCS.out, if_neg HE.out, HC.out]; rfl), q' + nq, rfl⟩
                      case measure => simp [intOf]; omega
                    | true =>
                      have HE : Hid (z = y) := Lib.hid (sl_eq t0 t1 t2 t3 t4)
                      go_wp2_with fail
                      go_quiet (fail)
                      go_wp2_with fail
                      go_roundw
                      case rel => exact ⟨k2 + 1, ct + 1, by omega, by omega, by go_num, by go_num, Lib.hid (by rw [HCS.out, if_pos HE.out, HC.out]), q' + nq, rfl⟩
                      case measure => simp [intOf]; omega
          · obtain rfl : ct = 1 := by rw [← HC.out, List.take_of_length_le (by rw [HML.out]; omega)]; exact HMC.out y (List.mem_of_getElem? HY.out)
            go_wp2_with fail
            go_roundw
            case rel => exact ⟨k + 1, by omega, by go_num, q', rfl⟩
            case measure => simp [intOf]; omega
      · obtain ⟨wz, hwz⟩ : ∃ wz, wz = wk.drewN q := ⟨_, rfl⟩
        have HBz : Hid (Below wk.heap.size wk wz) := Lib.hid (by rw [hwz]; exact below_drewN (Below.refl _ _) _)
        rw [← hwz]
        clear hwz
        go_wp2_with fail
        refine (same_true Aa Ab Na Na.length Na.length ca cb _ (HNa.out.up (below_step (below_step (below_step (below_step (below_step HBb.out HBg.out) HBm.out) HBh.out) HBk.out) HBz.out)) (HNb.out.up (below_step (below_step (below_step (below_step HBg.out HBm.out) HBh.out) HBk.out) HBz.out)) rfl rfl (by omega)).mono ?_
        rintro e wu ⟨rfl, qu, hwu⟩
        have HBu : Hid (Below wz.heap.size wz wu) := Lib.hid (by rw [hwu]; exact below_drewN (Below.refl _ _) _)
        clear hwu
        go_wp2_with fail
        refine (same_true Ab Ag Na Na.length Na.length cb cg _ (HNb.out.up (below_step (below_step (below_step (below_step (below_step HBg.out HBm.out) HBh.out) HBk.out) HBz.out) HBu.out)) (HNg.out.up (below_step (below_step (below_step (below_step HBm.out HBh.out) HBk.out) HBz.out) HBu.out)) rfl rfl (by omega)).mono ?_
        rintro e wv ⟨rfl, qv, hwv⟩
        have HBv : Hid (Below wu.heap.size wu wv) := Lib.hid (by rw [hwv]; exact below_drewN (Below.refl _ _) _)
        clear hwv
        have u0 := Blk.cell (Blk.below K17.out (below_step (below_step (below_step (below_step HBh.out HBk.out) HBz.out) HBu.out) HBv.out) K17.out.lt) 0
        have u1 := Blk.cell (Blk.below K17.out (below_step (below_step (below_step (below_step HBh.out HBk.out) HBz.out) HBu.out) HBv.out) K17.out.lt) 1
        have u2 := Blk.cell (Blk.below K17.out (below_step (below_step (below_step (below_step HBh.out HBk.out) HBz.out) HBu.out) HBv.out) K17.out.lt) 2
        have u3 := Blk.cell (Blk.below K17.out (below_step (below_step (below_step (below_step HBh.out HBk.out) HBz.out) HBu.out) HBv.out) K17.out.lt) 3
        have u4 := Blk.cell (Blk.below K17.out (below_step (below_step (below_step (below_step HBh.out HBk.out) HBz.out) HBu.out) HBv.out) K17.out.lt) 4
        simp only [List.getElem?_toArray, List.getElem?_cons_zero, List.getElem?_cons_succ] at u0 u1 u2 u3 u4
        have ul := Blk.lt (Blk.below K17.out (below_step (below_step (below_step (below_step HBh.out HBk.out) HBz.out) HBu.out) HBv.out) K17.out.lt)
        have v0 := Blk.cell (Blk.below K9.out (below_step (below_step (below_step (below_step (below_step (below_step (below_step (below_step HBa.out HBb.out) HBg.out) HBm.out) HBh.out) HBk.out) HBz.out) HBu.out) HBv.out) K9.out.lt) 0
        have v1 := Blk.cell (Blk.below K9.out (below_step (below_step (below_step (below_step (below_step (below_step (below_step (below_step HBa.out HBb.out) HBg.out) HBm.out) HBh.out) HBk.out) HBz.out) HBu.out) HBv.out) K9.out.lt) 1
        have v2 := Blk.cell (Blk.below K9.out (below_step (below_step (below_step (below_step (below_step (below_step (below_step (below_step HBa.out HBb.out) HBg.out) HBm.out) HBh.out) HBk.out) HBz.out) HBu.out) HBv.out) K9.out.lt) 2
        have v3 := Blk.cell (Blk.below K9.out (below_step (below_step (below_step (below_step (below_step (below_step (below_step (below_step HBa.out HBb.out) HBg.out) HBm.out) HBh.out) HBk.out) HBz.out) HBu.out) HBv.out) K9.out.lt) 3
        have v4 := Blk.cell (Blk.below K9.out (below_step (below_step (below_step (below_step (below_step (below_step (below_step (below_step HBa.out HBb.out) HBg.out) HBm.out) HBh.out) HBk.out) HBz.out) HBu.out) HBv.out) K9.out.lt) 4
        simp only [List.getElem?_toArray, List.getElem?_cons_zero, List.getElem?_cons_succ] at v0 v1 v2 v3 v4
        have vl := Blk.lt (Blk.below K9.out (below_step (below_step (below_step (below_step (below_step (below_step (below_step (below_step HBa.out HBb.out) HBg.out) HBm.out) HBh.out) HBk.out) HBz.out) HBu.out) HBv.out) K9.out.lt)
        go_wp2_with fail
        go_ret
        exact ⟨rfl, (below_step (below_step (below_step (below_step (below_step (below_step (below_step (below_step (below_step (below_step (below_step (below_step HBA.out HBL.out) HBS.out) HBwb.out) HBa.out) HBb.out) HBg.out) HBm.out) HBh.out) HBk.out) HBz.out) HBu.out) HBv.out)⟩
  case inr =>
    obtain rfl : 0 = nh := by rw [← hnh, hM]; rfl
    clear hM hx
    go_upto_region 9 with (fail)
    have hbk := Blk.new wh 28 #[.int .u64 x.sum, .int .i64 x.len, .string x.left, .string x.right, .string x.val]
    have hal : Below wh.heap.size wh (wh.alloc (.cells #[.int .u64 x.sum, .int .i64 x.len, .string x.left, .string x.right, .string x.val] 28)) := (Below.refl _ _).alloc (Nat.le_refl _) _
    obtain ⟨wk, hW⟩ : ∃ W, W = wh.alloc (.cells #[.int .u64 x.sum, .int .i64 x.len, .string x.left, .string x.right, .string x.val] 28) := ⟨_, rfl⟩
    obtain ⟨g20, hg⟩ : ∃ g, g = wh.heap.size := ⟨_, rfl⟩
    rw [← hW] at hbk hal ⊢
    rw [← hg] at hbk ⊢
    have K20 := Lib.hid hbk
    have HBk := Lib.hid hal
    clear hbk hal hW hg
    go_wp2_with fail
    refine (same_true Aa Ab Na Na.length Na.length ca cb _ (HNa.out.up (below_step (below_step (below_step (below_step HBb.out HBg.out) HBm.out) HBh.out) HBk.out)) (HNb.out.up (below_step (below_step (below_step HBg.out HBm.out) HBh.out) HBk.out)) rfl rfl (by omega)).mono ?_
    rintro e wu ⟨rfl, qu, hwu⟩
    have HBu : Hid (Below wk.heap.size wk wu) := Lib.hid (by rw [hwu]; exact below_drewN (Below.refl _ _) _)
    clear hwu
    go_wp2_with fail
    refine (same_true Ab Ag Na Na.length Na.length cb cg _ (HNb.out.up (below_step (below_step (below_step (below_step HBg.out HBm.out) HBh.out) HBk.out) HBu.out)) (HNg.out.up (below_step (below_step (below_step HBm.out HBh.out) HBk.out) HBu.out)) rfl rfl (by omega)).mono ?_
    rintro e wv ⟨rfl, qv, hwv⟩
    have HBv : Hid (Below wu.heap.size wu wv) := Lib.hid (by rw [hwv]; exact below_drewN (Below.refl _ _) _)
    clear hwv
    have u0 := Blk.cell (Blk.below K17.out (below_step (below_step (below_step HBh.out HBk.out) HBu.out) HBv.out) K17.out.lt) 0
    have u1 := Blk.cell (Blk.below K17.out (below_step (below_step (below_step HBh.out HBk.out) HBu.out) HBv.out) K17.out.lt) 1
    have u2 := Blk.cell (Blk.below K17.out (below_step (below_step (below_step HBh.out HBk.out) HBu.out) HBv.out) K17.out.lt) 2
    have u3 := Blk.cell (Blk.below K17.out (below_step (below_step (below_step HBh.out HBk.out) HBu.out) HBv.out) K17.out.lt) 3
    have u4 := Blk.cell (Blk.below K17.out (below_step (below_step (below_step HBh.out HBk.out) HBu.out) HBv.out) K17.out.lt) 4
    simp only [List.getElem?_toArray, List.getElem?_cons_zero, List.getElem?_cons_succ] at u0 u1 u2 u3 u4
    have ul := Blk.lt (Blk.below K17.out (below_step (below_step (below_step HBh.out HBk.out) HBu.out) HBv.out) K17.out.lt)
    have v0 := Blk.cell (Blk.below K9.out (below_step (below_step (below_step (below_step (below_step (below_step (below_step HBa.out HBb.out) HBg.out) HBm.out) HBh.out) HBk.out) HBu.out) HBv.out) K9.out.lt) 0
    have v1 := Blk.cell (Blk.below K9.out (below_step (below_step (below_step (below_step (below_step (below_step (below_step HBa.out HBb.out) HBg.out) HBm.out) HBh.out) HBk.out) HBu.out) HBv.out) K9.out.lt) 1
    have v2 := Blk.cell (Blk.below K9.out (below_step (below_step (below_step (below_step (below_step (below_step (below_step HBa.out HBb.out) HBg.out) HBm.out) HBh.out) HBk.out) HBu.out) HBv.out) K9.out.lt) 2
    have v3 := Blk.cell (Blk.below K9.out (below_step (below_step (below_step (below_step (below_step (below_step (below_step HBa.out HBb.out) HBg.out) HBm.out) HBh.out) HBk.out) HBu.out) HBv.out) K9.out.lt) 3
    have v4 := Blk.cell (Blk.below K9.out (below_step (below_step (below_step (below_step (below_step (below_step (below_step HBa.out HBb.out) HBg.out) HBm.out) HBh.out) HBk.out) HBu.out) HBv.out) K9.out.lt) 4
    simp only [List.getElem?_toArray, List.getElem?_cons_zero, List.getElem?_cons_succ] at v0 v1 v2 v3 v4
    have vl := Blk.lt (Blk.below K9.out (below_step (below_step (below_step (below_step (below_step (below_step (below_step HBa.out HBb.out) HBg.out) HBm.out) HBh.out) HBk.out) HBu.out) HBv.out) K9.out.lt)
    go_wp2_with fail
    go_ret
    exact ⟨rfl, (below_step (below_step (below_step (below_step (below_step (below_step (below_step (below_step (below_step (below_step (below_step HBA.out HBL.out) HBS.out) HBwb.out) HBa.out) HBb.out) HBg.out) HBm.out) HBh.out) HBk.out) HBu.out) HBv.out)⟩

end Go.Proofs.Ytndhaickelbkiaa
