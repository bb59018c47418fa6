/-
  collatorlaw03.RowsMany: whatever the text, it returns true.
-/
import Derived.Test.YtjapbiojjbdplaaAwake
namespace Go.Proofs.Ytjapbiojjbdplaa
open Go.RowKit
open Pl

theorem cut_size (s : ByteArray) : (s.extract 0 (min (s.size : Int) 200).toNat).size ≤ 200 := by
  rw [Lib.size_eq, ← txt, txt_take, List.length_take]
  omega

theorem feeds_snoc (l : List UInt8) (c : UInt8) : feeds (l ++ [c]) = feeds l + if c = 10 then 1 else 0 := by
  unfold feeds
  by_cases h : c = 10 <;> simp [List.filter_append, h]
theorem feeds_le (l : List UInt8) : feeds l ≤ l.length := List.length_filter_le _ _
theorem take_snoc (t : ByteArray) (k : Nat) (h : k < t.size) : (txt t).take (k + 1) = (txt t).take k ++ [t[k]] := by
  rw [List.take_succ_eq_append_getElem (by rw [txt, ← Lib.size_eq]; exact h)]; rfl
theorem byte_ten (c : UInt8) : ((c.toNat : Int) == 10) = decide (c = 10) := by
  rw [Bool.eq_iff_iff]
  simp only [beq_iff_eq, decide_eq_true_eq]
  constructor
  · intro h; exact UInt8.toNat_inj.1 (by simp; omega)
  · intro h; subst h; rfl
/-- the bytes of some texts -/
theorem total_one {ys : List ByteArray} {k : Nat} {x : ByteArray} (hx : ys[k]? = some x) : total (ys.take (k + 1)) = total (ys.take k) + x.size := by
  unfold total
  rw [flat_snoc hx, List.length_append, txt, ← Lib.size_eq]

theorem last_of (t : ByteArray) (h : 0 < t.size) : (txt t).getLast? = some (t[t.size - 1]'(by omega)) := by
  have hl : (txt t).length = t.size := (Lib.size_eq t).symm
  rw [List.getLast?_eq_getElem?, hl, List.getElem?_eq_getElem (by omega)]
  rfl
theorem count_of {ys : List ByteArray} {t : ByteArray} (h : txts ys = splitL (txt t)) : (ys.length : Int) = (feeds (txt t) : Int) + if txt t ≠ [] ∧ (txt t).getLast? ≠ some 10 then 1 else 0 := by
  have h1 := congrArg List.length h
  rw [txts_length, split_count] at h1
  rw [h1]
  split <;> simp
theorem total_of {ys : List ByteArray} {t : ByteArray} (h : txts ys = splitL (txt t)) : total ys = t.size := by
  unfold total
  rw [h, join_split, txt, ← Lib.size_eq]
theorem line_of {ys : List ByteArray} {t x : ByteArray} {j : Nat} (h : txts ys = splitL (txt t)) (hx : ys[j]? = some x) : txt x ≠ [] := by
  refine split_mem (txt t) (txt x) ?_
  rw [← h]
  exact List.mem_map_of_mem (List.mem_of_getElem? hx)

set_option maxHeartbeats 2000000 in
set_option maxRecDepth 100000 in
theorem many_walk (s : ByteArray) (w : World) (hs : s.size ≤ 140737488355328) :
    Calls Try.prog 7 #[.string s] w fun e w' => e = .returned (.bool true) ∧ Below w.heap.size w w' := by
  have ht := cut_size s
  go_enter Try.func7, Try.ntmps7
  go_wp2_with fail
  refine (awake_any _).mono ?_
  rintro e w1 ⟨rfl, hb1⟩
  go_wp2_with fail
  generalize s.extract 0 (min (s.size : Int) 200).toNat = t at *
  refine (split_at t ((splitL (txt t)).map ba) (by omega) (txts_ba _) _).mono ?_
  rintro e w2 ⟨A, c, rfl, hA, hc, hb2⟩
  replace hb1 := hb1.trans (hb2.mono hb1.size)
  have HY := Lib.hid (txts_ba (splitL (txt t)))
  generalize (splitL (txt t)).map ba = ys at *
  clear hb2
  have hyl : ys.length ≤ 200 := by
    have h1 := split_length (txt t)
    have h2 := congrArg List.length HY.out
    rw [txts_length] at h2
    rw [txt, ← Lib.size_eq] at h1
    unfold txt at h2
    omega
  go_wp2_with fail
  go_loop [6, 7] (fun f i => ∃ k : Nat, k ≤ t.size ∧ i = .int .i64 k ∧ f = .int .i64 (feeds ((txt t).take k))) (fun _ i => t.size - (intOf i).toNat)
  case atStart => exact ⟨0, Nat.zero_le _, rfl, rfl⟩
  case round =>
    obtain ⟨k, hk, rfl, rfl⟩ := hrel
    have hfl := feeds_le ((txt t).take k)
    have hfk : ((txt t).take k).length ≤ k := List.length_take_le _ _
    by_cases hlt : k < t.size
    · have HS := Lib.hid ((congrArg feeds (take_snoc t k hlt)).trans (feeds_snoc _ _))
      have hten := byte_ten t[k]
      by_cases h10 : t[k] = 10
      · rw [decide_eq_true h10] at hten
        rw [if_pos h10] at HS
        clear h10
        go_wp2
        go_round
        case rel => exact ⟨k + 1, by omega, by go_num, by rw [HS.out]; go_num⟩
        case measure => simp [intOf]; omega
      · rw [decide_eq_false h10] at hten
        rw [if_neg h10] at HS
        clear h10
        go_wp2
        go_round
        case rel => exact ⟨k + 1, by omega, by go_num, by rw [HS.out]; go_num⟩
        case measure => simp [intOf]; omega
    · have hkt : (txt t).take k = txt t := List.take_of_length_le (by rw [txt, ← Lib.size_eq]; omega)
      rw [hkt] at hfl ⊢
      have hfb : feeds (txt t) ≤ 200 := by rw [txt, ← Lib.size_eq] at hfl; unfold txt; omega
      clear hkt hfk hfl
      have hcount := count_of HY.out
      have htot := total_of HY.out
      by_cases hte : t.toList = []
      · have e1 : (((ys.length : Int) == (feeds (txt t) : Int)) : Bool) = true := by rw [hcount, if_neg (by intro h; exact h.1 (by rw [txt, ← toList_data]; exact hte))]; simp
        have HTOT := Lib.hid htot
        clear hcount htot
        go_wp2
        go_loop [8, 9] (fun b i => ∃ j : Nat, j ≤ ys.length ∧ i = .int .i64 j ∧ b = .int .i64 (total (ys.take j))) (fun _ i => ys.length - (intOf i).toNat)
        case atStart => exact ⟨0, Nat.zero_le _, rfl, rfl⟩
        case round =>
          obtain ⟨j, hj, rfl, rfl⟩ := hrel
          have htj := total_take ys j
          by_cases hlt2 : j < ys.length
          · obtain ⟨a, rfl, hab, hca⟩ := hA.at_ hlt2
            obtain ⟨x, hx⟩ : ∃ x, x = ys[j] := ⟨_, rfl⟩
            rw [← hx] at hca
            have hxj := at_getD hlt2 hx
            have HX := Lib.hid (total_one hxj)
            have hxne := line_of HY.out hxj
            have hx1 : ¬ x.toList = [] := by rw [toList_data]; exact hxne
            have hx2 : x.toList.isEmpty = false := by simpa using hx1
            have hxt : x.size ≤ 200 := by
              have h1 := total_take ys (j + 1)
              rw [HX.out, HTOT.out] at h1
              omega
            have htj2 : total (ys.take j) ≤ 200 := by rw [HTOT.out] at htj; omega
            clear hx hxj hxne htj
            go_wp2
            go_round
            case rel => exact ⟨j + 1, by omega, by go_num, by rw [HX.out]; go_num⟩
            case measure => simp [intOf]; omega
          · have e2 : (((total (ys.take j) : Int) == (t.size : Int)) : Bool) = true := by rw [List.take_of_length_le (by omega), HTOT.out]; simp
            clear htj
            go_wp2
            go_ret
            exact ⟨rfl, hb1⟩
      · have hte' : txt t ≠ [] := by rw [txt, ← toList_data]; exact hte
        have hpos : 0 < t.size := by rw [Lib.size_eq]; exact List.length_pos_iff.2 hte'
        have hlast := last_of t hpos
        have hne1 : (!t.toList.isEmpty) = true := by simpa using hte
        have hi1 : (1 : Int) ≤ (t.size : Int) := by omega
        have hi2 : (t.size : Int) - 1 < (t.size : Int) := by omega
        have HTOT := Lib.hid htot
        clear htot
        have hidx : t.size - 1 < t.size := Nat.sub_lt hpos (Nat.succ_pos 0)
        by_cases h10 : (t[t.size - 1]'hidx) = 10
        · have e1 : (((ys.length : Int) == (feeds (txt t) : Int)) : Bool) = true := by rw [hcount, if_neg (by rw [hlast, h10]; intro h; exact h.2 rfl)]; simp
          have hten : ((((t[t.size - 1]'hidx).toNat : Int) != 10) : Bool) = false := by rw [h10]; rfl
          clear hcount hlast h10 hte'
          go_wp2
          go_loop [8, 9] (fun b i => ∃ j : Nat, j ≤ ys.length ∧ i = .int .i64 j ∧ b = .int .i64 (total (ys.take j))) (fun _ i => ys.length - (intOf i).toNat)
          case atStart => exact ⟨0, Nat.zero_le _, rfl, rfl⟩
          case round =>
            obtain ⟨j, hj, rfl, rfl⟩ := hrel
            have htj := total_take ys j
            by_cases hlt2 : j < ys.length
            · obtain ⟨a, rfl, hab, hca⟩ := hA.at_ hlt2
              obtain ⟨x, hx⟩ : ∃ x, x = ys[j] := ⟨_, rfl⟩
              rw [← hx] at hca
              have hxj := at_getD hlt2 hx
              have HX := Lib.hid (total_one hxj)
              have hxne := line_of HY.out hxj
              have hx1 : ¬ x.toList = [] := by rw [toList_data]; exact hxne
              have hx2 : x.toList.isEmpty = false := by simpa using hx1
              have hxt : x.size ≤ 200 := by
                have h1 := total_take ys (j + 1)
                rw [HX.out, HTOT.out] at h1
                omega
              have htj2 : total (ys.take j) ≤ 200 := by rw [HTOT.out] at htj; omega
              clear hx hxj hxne htj
              go_wp2
              go_round
              case rel => exact ⟨j + 1, by omega, by go_num, by rw [HX.out]; go_num⟩
              case measure => simp [intOf]; omega
            · have e2 : (((total (ys.take j) : Int) == (t.size : Int)) : Bool) = true := by rw [List.take_of_length_le (by omega), HTOT.out]; simp
              clear htj
              go_wp2
              go_ret
              exact ⟨rfl, hb1⟩
        · have e1 : (((ys.length : Int) == (feeds (txt t) : Int) + 1) : Bool) = true := by rw [hcount, if_pos ⟨hte', by rw [hlast]; simpa using h10⟩]; simp
          have hten : ((((t[t.size - 1]'hidx).toNat : Int) != 10) : Bool) = true := by
            have := byte_ten (t[t.size - 1]'hidx)
            rw [decide_eq_false h10] at this
            simp only [bne, this, Bool.not_false]
          clear hcount hlast h10 hte'
          go_wp2
          go_loop [8, 9] (fun b i => ∃ j : Nat, j ≤ ys.length ∧ i = .int .i64 j ∧ b = .int .i64 (total (ys.take j))) (fun _ i => ys.length - (intOf i).toNat)
          case atStart => exact ⟨0, Nat.zero_le _, rfl, rfl⟩
          case round =>
            obtain ⟨j, hj, rfl, rfl⟩ := hrel
            have htj := total_take ys j
            by_cases hlt2 : j < ys.length
            · obtain ⟨a, rfl, hab, hca⟩ := hA.at_ hlt2
              obtain ⟨x, hx⟩ : ∃ x, x = ys[j] := ⟨_, rfl⟩
              rw [← hx] at hca
              have hxj := at_getD hlt2 hx
              have HX := Lib.hid (total_one hxj)
              have hxne := line_of HY.out hxj
              have hx1 : ¬ x.toList = [] := by rw [toList_data]; exact hxne
              have hx2 : x.toList.isEmpty = false := by simpa using hx1
              have hxt : x.size ≤ 200 := by
                have h1 := total_take ys (j + 1)
                rw [HX.out, HTOT.out] at h1
                omega
              have htj2 : total (ys.take j) ≤ 200 := by rw [HTOT.out] at htj; omega
              clear hx hxj hxne htj
              go_wp2
              go_round
              case rel => exact ⟨j + 1, by omega, by go_num, by rw [HX.out]; go_num⟩
              case measure => simp [intOf]; omega
            · have e2 : (((total (ys.take j) : Int) == (t.size : Int)) : Bool) = true := by rw [List.take_of_length_le (by omega), HTOT.out]; simp
              clear htj
              go_wp2
              go_ret
              exact ⟨rfl, hb1⟩

end Go.Proofs.Ytjapbiojjbdplaa
