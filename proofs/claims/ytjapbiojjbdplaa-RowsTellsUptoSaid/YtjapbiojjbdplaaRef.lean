/-
  The document's own answers for lines, as Go functions: collatorref03.Split, Join, line, Right and Shared: each answers what the program's function answers, in the same plain words.
-/
import Derived.Test.YtjapbiojjbdplaaRightLaw
import Derived.Test.YtjapbiojjbdplaaMany
namespace Go.Proofs.Ytjapbiojjbdplaa
open Go.RowKit
open Pl

set_option maxHeartbeats 1000000 in
set_option maxRecDepth 100000 in
theorem refJoin_any (A : Option Addr) (ss : List ByteArray) (c H : Nat) (w : World) (ha : Strs w H A ss) (h1 : ss.length ≤ 140737488355328) (ht : total ss ≤ 140737488355328) :
    Calls Try.prog 13 #[.slice A ss.length c] w fun e w' => e = .returned (.string (ba (txts ss).flatten)) ∧ w = w' := by
  go_enter Try.func13, Try.ntmps13
  go_wp2
  go_loop [3, 4] (fun o i => ∃ k : Nat, k ≤ ss.length ∧ i = .int .i64 k ∧ o = .string (ba (txts (ss.take k)).flatten)) (fun _ i => ss.length - (intOf i).toNat)
  case atStart => exact ⟨0, Nat.zero_le _, rfl, rfl⟩
  case round =>
    obtain ⟨k, hk, rfl, rfl⟩ := hrel
    by_cases g1 : k < ss.length
    · obtain ⟨a, rfl, hab, hca⟩ := ha.at_ g1
      obtain ⟨x, hx⟩ : ∃ x, x = ss[k] := ⟨_, rfl⟩
      rw [← hx] at hca
      have HX := Lib.hid (at_getD g1 hx)
      have h2 := total_take ss (k + 1)
      have h3 := total_one HX.out
      have hs1 : (ba (txts (ss.take k)).flatten).size = total (ss.take k) := by rw [Lib.size_eq]; rfl
      have hb : (ba (txts (ss.take k)).flatten).size + x.size ≤ 140737488355328 := by omega
      have HE := Lib.hid (show ba (txts (ss.take k)).flatten ++ x = ba (txts (ss.take (k + 1))).flatten from by
        refine ByteArray.ext (Array.toList_inj.1 ?_)
        show txt (_ ++ x) = txt _
        rw [txt_app, txt_ba, txt_ba, flat_snoc HX.out])
      clear hx h2 h3 hs1
      generalize ba (txts (ss.take k)).flatten = o at *
      go_wp2
      go_round
      case rel => exact ⟨k + 1, by omega, by go_num, by rw [HE.out]⟩
      case measure => simp [intOf]; omega
    · go_wp2
      go_ret
      rw [List.take_of_length_le (by omega)]
      exact ⟨rfl, rfl⟩

/-! one line, or not -/
theorem line_not {l : List UInt8} {k : Nat} (hk : k + 1 < l.length) (h : l[k]? = some 10) : isLineB l = false := by
  have h2 : ∀ (l : List UInt8) (k : Nat), l[k]? = some 10 → endL l ≤ k + 1 := by
    intro l
    induction l with
    | nil => intro k h; simp at h
    | cons c cs ih =>
      intro k h
      unfold endL
      by_cases hc : c = 10
      · rw [if_pos hc]; omega
      · rw [if_neg hc]
        cases k with
        | zero => simp at h; exact absurd h hc
        | succ k => have := ih k (by simpa using h); omega
  have := h2 l k h
  unfold isLineB
  have hne : (endL l == l.length) = false := by rw [beq_eq_false_iff_ne]; omega
  rw [hne, Bool.and_false]
theorem line_yes {l : List UInt8} (h : ∀ j, j + 1 < l.length → l[j]? ≠ some 10) (hn : l ≠ []) : isLineB l = true := by
  have h2 : ∀ (l : List UInt8), (∀ j, j + 1 < l.length → l[j]? ≠ some 10) → endL l = l.length := by
    intro l
    induction l with
    | nil => intro _; rfl
    | cons c cs ih =>
      intro h
      cases cs with
      | nil => unfold endL; split <;> simp [endL]
      | cons d ds =>
        have hc : c ≠ 10 := by have := h 0 (by simp); simpa using this
        unfold endL
        rw [if_neg hc, ih (fun j hj => by have := h (j + 1) (by simpa using hj); simpa using this)]
        simp
  unfold isLineB
  rw [h2 l h]
  cases l with
  | nil => exact absurd rfl hn
  | cons c cs => simp
theorem feed_last (t : ByteArray) (h : 0 < t.size) (hi : t.size - 1 < t.size) : feedB (txt t) = decide (t[t.size - 1] = 10) := by
  unfold feedB
  rw [last_of t h]
  by_cases e : t[t.size - 1]'hi = 10
  · rw [decide_eq_true e, e]; rfl
  · rw [decide_eq_false e]; simpa using e

set_option maxHeartbeats 1000000 in
set_option maxRecDepth 100000 in
theorem refLine_any (s : ByteArray) (w : World) (hs : s.size ≤ 140737488355328) :
    Calls Try.prog 25 #[.string s] w fun e w' => (e = .returned (.tuple #[.bool (isLineB (txt s)), .bool (isLineB (txt s) && feedB (txt s))])) ∧ ∃ n, w' = w.drewN n := by
  have hlen : (txt s).length = s.size := (Lib.size_eq s).symm
  have HLEN := Lib.hid hlen
  clear hlen
  go_enter Try.func25, Try.ntmps25
  go_wp2
  go_loop [4] (fun i => ∃ k : Nat, k ≤ s.size ∧ i = .int .i64 k ∧ ∀ j, j < k → (txt s)[j]? ≠ some 10) (fun i => s.size - (intOf i).toNat)
  case atStart => exact ⟨0, Nat.zero_le _, rfl, fun j hj => absurd hj (by omega)⟩
  case round =>
    obtain ⟨k, hk, rfl, hj⟩ := hrel
    have HJ := Lib.hid hj
    clear hj
    by_cases g : k + 1 < s.size
    · have gk : k < s.size := by omega
      have hten := byte_ten (s[k]'gk)
      have hget : (txt s)[k]? = some (s[k]'gk) := by rw [List.getElem?_eq_getElem (by rw [HLEN.out]; exact gk)]; rfl
      have HG := Lib.hid hget
      clear hget
      by_cases h10 : s[k]'gk = 10
      · rw [decide_eq_true h10] at hten
        have HL := Lib.hid (line_not (l := txt s) (k := k) (by rw [HLEN.out]; exact g) (by rw [HG.out, h10]))
        clear h10
        go_wp2
        go_ret2
        rw [HL.out]
        exact ⟨rfl, 0, rfl⟩
      · rw [decide_eq_false h10] at hten
        have HN := Lib.hid h10
        clear h10
        go_wp2
        go_round
        case rel =>
          refine ⟨k + 1, by omega, by go_num, fun j hj => ?_⟩
          rcases Nat.lt_or_ge j k with h | h
          · exact HJ.out j h
          · obtain rfl : j = k := by omega
            rw [HG.out]; simpa using HN.out
        case measure => simp [intOf]; omega
    · by_cases he : s.toList = []
      · have ht : txt s = [] := by rw [txt, ← toList_data]; exact he
        have he1 : s.toList.isEmpty = true := by simpa using he
        have HT := Lib.hid ht
        clear ht
        go_wp2
        go_quiet (fail)
        go_wp2
        go_ret2
        rw [HT.out]
        exact ⟨rfl, _, rfl⟩
      · have ht : txt s ≠ [] := by rw [txt, ← toList_data]; exact he
        have hpos : 0 < s.size := by rw [Lib.size_eq]; exact List.length_pos_iff.2 ht
        have hidx : s.size - 1 < s.size := Nat.sub_lt hpos (Nat.succ_pos 0)
        have he1 : (!s.toList.isEmpty) = true := by simpa using he
        have he2 : s.toList.isEmpty = false := by simpa using he
        have HL := Lib.hid (line_yes (l := txt s) (fun j hj => HJ.out j (by rw [HLEN.out] at hj; omega)) ht)
        have HF := Lib.hid (feed_last s hpos hidx)
        have hi1 : (1 : Int) ≤ (s.size : Int) := by omega
        have hi2 : (s.size : Int) - 1 < (s.size : Int) := by omega
        have hten := byte_ten (s[s.size - 1]'hidx)
        have ew : IntKind.i64.wrap ((s.size : Int) - 1) = (s.size : Int) - 1 := IntWalk.i64_in _ (by omega)
        clear ht
        go_wp2
        go_quiet (fail)
        go_wp2
        go_ret2
        rw [HL.out, HF.out]
        exact ⟨by simp, _, rfl⟩

theorem refLine_at (s : ByteArray) (w : World) (hs : s.size ≤ 140737488355328) (b1 b2 : Bool) (h1 : isLineB (txt s) = b1) (h2 : (isLineB (txt s) && feedB (txt s)) = b2) :
    Calls Try.prog 25 #[.string s] w fun e w' => e = .returned (.tuple #[.bool b1, .bool b2]) ∧ ∃ n, w' = w.drewN n := by
  subst h1 h2
  exact refLine_any s w hs

set_option maxHeartbeats 1000000 in
set_option maxRecDepth 100000 in
theorem refRight_any (A : Option Addr) (ss : List ByteArray) (c H : Nat) (w : World) (ha : Strs w H A ss) (h1 : ss.length ≤ 140737488355328) (hsz : ∀ s ∈ ss, s.size ≤ 140737488355328) :
    Calls Try.prog 15 #[.slice A ss.length c] w fun e w' => e = .returned (.bool (rightL (txts ss))) ∧ ∃ n, w' = w.drewN n := by
  have HSZ := Lib.hid hsz
  clear hsz
  go_enter Try.func15, Try.ntmps15
  go_wp2
  go_loopw [3, 4, 5] (fun i _ _ wr => ∃ k n : Nat, k ≤ ss.length ∧ i = .int .i64 k ∧ wr = w.drewN n ∧ ∀ j, j < k → okAt (txts ss) j = true) (fun i _ _ _ => ss.length - (intOf i).toNat)
  case atStart => exact ⟨0, 0, Nat.zero_le _, rfl, rfl, fun j hj => absurd hj (by omega)⟩
  case round =>
    obtain ⟨k, n, hk1, rfl, rfl, hs⟩ := hrel
    have HS := Lib.hid hs
    clear hs
    by_cases g1 : k < ss.length
    · obtain ⟨a, rfl, hab, hca⟩ := ha.at_ g1
      obtain ⟨x, hx⟩ : ∃ x, x = ss[k] := ⟨_, rfl⟩
      rw [← hx] at hca
      have hxs : x.size ≤ 140737488355328 := HSZ.out x (by rw [hx]; exact List.getElem_mem _)
      have HX := Lib.hid (okAt_eq (at_getD g1 hx))
      clear hx
      obtain ⟨b1, hb1⟩ : ∃ b1, isLineB (txt x) = b1 := ⟨_, rfl⟩
      obtain ⟨b2, hb2⟩ : ∃ b2, feedB (txt x) = b2 := ⟨_, rfl⟩
      have HB1 := Lib.hid hb1
      have HB2 := Lib.hid hb2
      clear hb1 hb2
      by_cases gl : k + 1 < ss.length
      · have gl' : (k : Int) + 1 < (ss.length : Int) := by omega
        cases b1 <;> cases b2
        · go_wp2_with (go_at_call 25; refine (refLine_at _ _ hxs _ _ HB1.out (by rw [HB1.out, HB2.out])).mono ?_; rintro e w' ⟨rfl, n', rfl⟩)
          have hok : okAt (txts ss) k = false := by rw [HX.out, HB1.out, Bool.false_and]
          go_ret
          rw [rightL_not _ k (by rw [txts_length]; exact g1) hok]
          exact ⟨rfl, n + n', rfl⟩
        · go_wp2_with (go_at_call 25; refine (refLine_at _ _ hxs _ _ HB1.out (by rw [HB1.out, HB2.out])).mono ?_; rintro e w' ⟨rfl, n', rfl⟩)
          have hok : okAt (txts ss) k = false := by rw [HX.out, HB1.out, Bool.false_and]
          go_ret
          rw [rightL_not _ k (by rw [txts_length]; exact g1) hok]
          exact ⟨rfl, n + n', rfl⟩
        · go_wp2_with (go_at_call 25; refine (refLine_at _ _ hxs _ _ HB1.out (by rw [HB1.out, HB2.out])).mono ?_; rintro e w' ⟨rfl, n', rfl⟩)
          have hok : okAt (txts ss) k = false := by rw [HX.out, HB1.out, HB2.out, show (k + 1 == ss.length) = false from by rw [beq_eq_false_iff_ne]; omega]; rfl
          go_ret
          rw [rightL_not _ k (by rw [txts_length]; exact g1) hok]
          exact ⟨rfl, n + n', rfl⟩
        · go_wp2_with (go_at_call 25; refine (refLine_at _ _ hxs _ _ HB1.out (by rw [HB1.out, HB2.out])).mono ?_; rintro e w' ⟨rfl, n', rfl⟩)
          have hok : okAt (txts ss) k = true := by rw [HX.out, HB1.out, HB2.out, Bool.or_true]; rfl
          go_roundw
          case rel => exact ⟨k + 1, n + n', by omega, by go_num, by first | rfl | rw [World.drewN_drewN], ok_on HS.out hok⟩
          case measure => simp [intOf]; omega
      · have gl' : ¬ (k : Int) + 1 < (ss.length : Int) := by omega
        cases b1 <;> cases b2
        · go_wp2_with (go_at_call 25; refine (refLine_at _ _ hxs _ _ HB1.out (by rw [HB1.out, HB2.out])).mono ?_; rintro e w' ⟨rfl, n', rfl⟩)
          have hok : okAt (txts ss) k = false := by rw [HX.out, HB1.out, Bool.false_and]
          go_ret
          rw [rightL_not _ k (by rw [txts_length]; exact g1) hok]
          exact ⟨rfl, n + n', rfl⟩
        · go_wp2_with (go_at_call 25; refine (refLine_at _ _ hxs _ _ HB1.out (by rw [HB1.out, HB2.out])).mono ?_; rintro e w' ⟨rfl, n', rfl⟩)
          have hok : okAt (txts ss) k = false := by rw [HX.out, HB1.out, Bool.false_and]
          go_ret
          rw [rightL_not _ k (by rw [txts_length]; exact g1) hok]
          exact ⟨rfl, n + n', rfl⟩
        · go_wp2_with (go_at_call 25; refine (refLine_at _ _ hxs _ _ HB1.out (by rw [HB1.out, HB2.out])).mono ?_; rintro e w' ⟨rfl, n', rfl⟩)
          have hok : okAt (txts ss) k = true := by rw [HX.out, HB1.out, show (k + 1 == ss.length) = true from by rw [beq_iff_eq]; omega]; rfl
          go_roundw
          case rel => exact ⟨k + 1, n + n', by omega, by go_num, by first | rfl | rw [World.drewN_drewN], ok_on HS.out hok⟩
          case measure => simp [intOf]; omega
        · go_wp2_with (go_at_call 25; refine (refLine_at _ _ hxs _ _ HB1.out (by rw [HB1.out, HB2.out])).mono ?_; rintro e w' ⟨rfl, n', rfl⟩)
          have hok : okAt (txts ss) k = true := by rw [HX.out, HB1.out, show (k + 1 == ss.length) = true from by rw [beq_iff_eq]; omega]; rfl
          go_roundw
          case rel => exact ⟨k + 1, n + n', by omega, by go_num, by first | rfl | rw [World.drewN_drewN], ok_on HS.out hok⟩
          case measure => simp [intOf]; omega
    · go_wp2
      go_ret
      rw [rightL_of _ (fun i hi => HS.out i (by rw [txts_length] at hi; omega))]
      exact ⟨rfl, n, rfl⟩

end Go.Proofs.Ytjapbiojjbdplaa
