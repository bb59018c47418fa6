/-
  collatorlaw05.MyersReplace: whatever the raw numbers, it returns true; nothing that was there is changed.
-/
import Derived.Test.YtmonemgjgcfhlaaSwap
namespace Go.Proofs.Ytmonemgjgcfhlaa
open Go.RowKit

set_option maxHeartbeats 400000 in
theorem pick5_any (c n : Int) (w : World) (hc1 : -9223372036854775808 ≤ c) (hc2 : c ≤ 9223372036854775807) (hn : 0 < n) (hn2 : n ≤ 140737488355328) :
    Calls Try.prog 22 #[.int .i64 c, .int .i64 n] w fun e w' => e = .returned (.int .i64 (pickI c n)) ∧ w = w' := by
  have h0 : ((n == 0) : Bool) = false := by rw [beq_eq_false_iff_ne]; omega
  by_cases hc : c < 0
  · have hp : 0 ≤ -(c + 1) := by omega
    go_enter Try.func22, Try.ntmps22
    go_wp2
    go_ret
    refine ⟨ret_int ?_, rfl⟩
    unfold pickI pos
    rw [if_pos hc, ← Int.tmod_eq_emod_of_nonneg (by omega), Int.neg_tmod]
  · go_enter Try.func22, Try.ntmps22
    go_wp2
    go_ret
    refine ⟨ret_int ?_, rfl⟩
    unfold pickI pos
    rw [if_neg (by omega)]
theorem pick5_at (c n : Int) (w : World) (hc1 : -9223372036854775808 ≤ c) (hc2 : c ≤ 9223372036854775807) (hn : 0 < n) (hn2 : n ≤ 140737488355328) (r : Nat) (hr : pickI c n = (r : Int)) :
    Calls Try.prog 22 #[.int .i64 c, .int .i64 n] w fun e w' => e = .returned (.int .i64 (r : Int)) ∧ w = w' := by
  rw [← hr]
  exact pick5_any c n w hc1 hc2 hn hn2
/-- a line that is nowhere else -/
def nw : ByteArray := ⟨#[110, 111, 119, 104, 101, 114, 101, 32, 101, 108, 115, 101, 10]⟩
theorem nw_not {m : Nat} {zs : List Int} : nw ∉ linesL m zs := fun h => absurd (lines_size h) (by decide)
theorem nw_small : nw.size ≤ maxLen ∧ nw.size ≤ 140737488355328 := by decide
theorem set_small {a : List ByteArray} {k : Nat} {n : ByteArray} {B : Nat} (ha : ∀ s ∈ a, s.size ≤ B) (hn : n.size ≤ B) : ∀ s ∈ a.set k n, s.size ≤ B := fun s hs => by
  rcases List.mem_or_eq_of_mem_set hs with h | h
  · exact ha s h
  · rw [h]; exact hn
theorem strs_one {w : World} {g k B : Nat} {b : List ByteArray} {s : ByteArray} (h : Strs w B (some ⟨g, 0, none⟩) b) (hk : b[k]? = some s) : Strs w B (some ⟨g, k, none⟩) [s] := fun _ => by
  obtain ⟨a, e, hb, hc⟩ := h (by intro e; subst e; simp at hk)
  injection e with e
  subst e
  refine ⟨_, rfl, hb, fun j u hj => ?_⟩
  match j with
  | 0 =>
    injection hj with hj
    subst hj
    have := hc k _ hk
    rw [add_zero_block] at this
    simpa [Addr.add] using this
  | j + 1 => simp at hj

set_option maxHeartbeats 2000000 in
set_option maxRecDepth 100000 in
theorem replace_walk (A : Option Addr) (xs : List Int) (pa : Nat) (at_ : Int) (w : World) (ha : Ints w w.heap.size A xs) (h1 : xs.length ≤ 140737488355328)
    (hx : ∀ z ∈ xs, -9223372036854775808 ≤ z ∧ z ≤ 9223372036854775807) (hy1 : -9223372036854775808 ≤ at_) (hy2 : at_ ≤ 9223372036854775807) :
    Calls Try.prog 7 #[.slice A xs.length pa, .int .i64 at_] w fun e w' => e = .returned (.bool true) ∧ Below w.heap.size w w' := by
  have HX := Lib.hid hx
  clear hx
  go_enter Try.func7, Try.ntmps7
  go_wp2_with fail
  refine (awake_any _).mono ?_
  rintro e w1 ⟨rfl, hb1⟩
  go_wp2_with fail
  refine (lines_at 30 30 rfl (by omega) (by omega) _ xs _ _ (up_of' ha hb1) h1 HX.out).mono ?_
  rintro e wa ⟨Aa, ca, rfl, hoa, hca, hbn⟩
  replace hb1 := hb1.trans (hbn.mono hb1.size)
  clear hbn
  have hla := lines_len 30 xs
  have HFa := Lib.hid (lines_fit (m := 30) xs)
  have HGa := Lib.hid (lines_fit' (m := 30) xs)
  have HNW := Lib.hid (@nw_not 30 xs)
  generalize linesL 30 xs = a at *
  clear ha HX
  by_cases h0 : a.length = 0
  · have e0 : (((a.length : Int) == 0) : Bool) = true := by rw [h0]; rfl
    clear h0
    go_wp2_with fail
    go_ret
    exact ⟨rfl, hb1⟩
  · have e0 : (((a.length : Int) == 0) : Bool) = false := by rw [beq_eq_false_iff_ne]; omega
    have hpos : 0 < a.length := by omega
    obtain ⟨k, hk⟩ : ∃ k : Nat, pickI at_ (a.length : Int) = (k : Int) := ⟨(pickI at_ (a.length : Int)).toNat, by have := pickI_range at_ (a.length : Int) (by omega); omega⟩
    have hkl : k < a.length := by have := pickI_range at_ (a.length : Int) (by omega); omega
    have HK := Lib.hid hk
    clear hk h0
    go_wp2_with fail
    refine (pick5_at _ _ _ hy1 hy2 (by omega) (by omega) k HK.out).mono ?_
    rintro e w' ⟨rfl, rfl⟩
    clear HK
    obtain ⟨A1, c1, w2, hr1, hq1⟩ := append_own (Own.nil wa) a.length ca hoa rfl a rfl (by omega)
    have HR1 := Lib.hid hr1
    obtain ⟨g, cap, hv, hgl, hgt⟩ := hq1.1.form hpos
    injection hv with hv1 hv2 hv3
    subst hv1 hv3
    have hst := hq1.1.stored k (.string nw)
    have hfz := hq1.1.frozenAt k
    have hcp := hq1.1.cellAt k (by omega)
    have hc1 := row_cap hq1.1
    obtain ⟨u, hu⟩ : ∃ u, w2.cell? ⟨g, k, none⟩ = some u := by
      rw [hcp, List.getElem?_eq_getElem (by rw [List.length_map]; exact hkl)]; exact ⟨_, rfl⟩
    obtain ⟨b, hb⟩ : ∃ b, b = a.set k nw := ⟨_, rfl⟩
    have hbl : b.length = a.length := by rw [hb, List.length_set]
    have hOb : Own wa (w2.setCell ⟨g, k, none⟩ (.string nw)) (.slice (some ⟨g, 0, none⟩) b.length c1) b := by
      refine ⟨?_, hq1.2.grown hst.2 hq1.2.size (fun j hj => by injection hj with hj; subst hj; exact hgl)⟩
      rw [hbl, hb, List.map_set]
      exact hst.1
    have HB := Lib.hid hb
    have HBL := Lib.hid hbl
    have hob := hOb.strs
    have hbn := hOb.2
    replace hoa := hoa.up2 hbn
    replace hb1 := hb1.trans (hbn.mono hb1.size)
    have hline : Strs (w2.setCell ⟨g, k, none⟩ (.string nw)) (w2.setCell ⟨g, k, none⟩ (.string nw)).heap.size (some ⟨g, k, none⟩) [nw] := strs_one hob (by rw [hb]; simp [hkl])
    have HW : Hid (grp [] (Pm.way a b) = swapE k (a.length - k - 1) nw) := Lib.hid (by rw [hb]; exact grp_set hkl nw HNW.out)
    have HED : Hid (Pm.ed a b = 2) := Lib.hid (by rw [hb]; exact ed_set hkl nw HNW.out)
    have HFb : Hid (∀ s ∈ b, s.size ≤ maxLen) := Lib.hid (by rw [hb]; exact set_small HFa.out nw_small.1)
    have HGb : Hid (∀ s ∈ b, s.size ≤ 140737488355328) := Lib.hid (by rw [hb]; exact set_small HGa.out nw_small.2)
    have hck : ¬ c1 = k := by omega
    have hkc : k + 1 ≤ c1 := by omega
    have hkc' : (k : Int) + 1 ≤ (c1 : Int) := by omega
    have hkk : (k : Int) ≤ (k : Int) + 1 := by omega
    clear hr1 hst hcp hb hbl hOb hq1 hbn hv2
    by_cases gk : k = 0
    · have ik : ¬ (0 : Int) < (k : Int) := by omega
      have dk : decide (0 < k) = false := decide_eq_false (by omega)
      by_cases gr : a.length - k - 1 = 0
      · have HW' : Hid (grp [] (Pm.way a b) = [⟨2, 1, []⟩, ⟨3, 1, [nw]⟩]) := Lib.hid (by rw [HW.out]; unfold swapE; rw [if_pos gk, if_pos gr]; rfl)
        replace HW := HW'
        clear HW' gk
        have ir : ¬ (k : Int) + 1 < (a.length : Int) := by omega
        clear gr
        have hT0 := TwoE.nil (w2.setCell ⟨g, k, none⟩ (.string nw))
        obtain ⟨Pe2, qe2, we2, hr, hTe2⟩ := hT0.pushes [⟨2, 1, none, 0, []⟩, ⟨3, 1, some ⟨g, k, none⟩, c1 - k, [nw]⟩] (by intro m hm; simp at hm; rcases hm with rfl | rfl; exact Strs.nil; exact hline) 2 2 rfl rfl (by omega) (by omega)
        simp only [meCells, MEd.cells, MEd.val, List.flatMap_cons, List.flatMap_nil, List.append_nil, List.cons_append, List.nil_append, List.length_nil, List.length_cons, Nat.zero_add] at hr
        rw [show ((1 : Nat) : Int) = 1 from rfl] at hr
        rw [show ((w2.setCell ⟨g, k, none⟩ (.string nw))).heap.size = w2.heap.size from by simp] at hr
        unfold nw at hr
        have HRe2 := Lib.hid hr
        clear hr
        have heA : Eds _ _ _ [⟨2, 1, []⟩, ⟨3, 1, [nw]⟩] := hTe2.eds
        have hbn := hTe2.below
        replace hoa := hoa.up2 hbn
        replace hob := hob.up2 hbn
        replace hb1 := hb1.trans (hbn.mono hb1.size)
        clear hbn hline hT0 hTe2
        have HS1 : Hid (∀ e ∈ ([⟨2, 1, []⟩, ⟨3, 1, [nw]⟩] : List Edt), e.lines.length ≤ 65536) := Lib.hid (by intro e he; simp at he; rcases he with rfl | rfl <;> simp)
        go_wp2_with (first
          | (at_builtin; refine wpList_append_run (o := ⟨some 22, _, _, _, _, _⟩) rfl rfl (by simp [Region.wanted]) rfl rfl HR1.out ?_)
          | (at_builtin; refine wpList_append_run (o := ⟨some 42, _, _, _, _, _⟩) rfl rfl (by simp [Region.wanted]) rfl rfl HRe2.out ?_))
        refine (diff_at Aa (some ⟨g, 0, none⟩) a b a.length a.length ca c1 2 [⟨2, 1, []⟩, ⟨3, 1, [nw]⟩] _ hoa hob rfl HBL.out (by omega) HFa.out HGb.out HW.out rfl).mono ?_
        rintro e v1 ⟨D1, k1, rfl, hE1, hbn⟩
        replace hoa := hoa.up2 hbn
        replace hob := hob.up2 hbn
        replace heA := heA.up hbn
        replace hb1 := hb1.trans (hbn.mono hb1.size)
        clear hbn
        go_wp2_with fail
        refine (same_at D1 _ [⟨2, 1, []⟩, ⟨3, 1, [nw]⟩] 2 _ _ _ hE1 heA rfl (by omega) HS1.out).mono ?_
        rintro e v2 ⟨rfl, hbn⟩
        replace hoa := hoa.up2 hbn
        replace hob := hob.up2 hbn
        replace hb1 := hb1.trans (hbn.mono hb1.size)
        clear hbn hE1 heA
        go_wp2_with fail
        refine (cost_at' Aa (some ⟨g, 0, none⟩) a b a.length a.length ca c1 2 _ hoa hob rfl HBL.out (by omega) HFa.out HFb.out (by rw [HED.out]; rfl)).mono ?_
        rintro e v3 ⟨rfl, hbn⟩
        replace hoa := hoa.up2 hbn
        replace hob := hob.up2 hbn
        replace hb1 := hb1.trans (hbn.mono hb1.size)
        clear hbn
        go_wp2_with fail
        refine (common_at' Aa (some ⟨g, 0, none⟩) a b a.length a.length ca c1 ((a.length : Int) - 1) _ hoa hob rfl HBL.out (by omega) HFa.out HFb.out (by rw [HED.out, HBL.out]; omega)).mono ?_
        rintro e v4 ⟨rfl, hbn⟩
        replace hb1 := hb1.trans (hbn.mono hb1.size)
        clear hbn
        go_wp2_with fail
        go_ret
        exact ⟨rfl, hb1⟩
      · have HW' : Hid (grp [] (Pm.way a b) = [⟨2, 1, []⟩, ⟨3, 1, [nw]⟩, ⟨1, a.length - k - 1, []⟩]) := Lib.hid (by rw [HW.out]; unfold swapE; rw [if_pos gk, if_neg gr]; rfl)
        replace HW := HW'
        clear HW' gk
        have ir : (k : Int) + 1 < (a.length : Int) := by omega
        clear gr
        have hT0 := TwoE.nil (w2.setCell ⟨g, k, none⟩ (.string nw))
        obtain ⟨Pe2, qe2, we2, hr, hTe2⟩ := hT0.pushes [⟨2, 1, none, 0, []⟩, ⟨3, 1, some ⟨g, k, none⟩, c1 - k, [nw]⟩] (by intro m hm; simp at hm; rcases hm with rfl | rfl; exact Strs.nil; exact hline) 2 2 rfl rfl (by omega) (by omega)
        simp only [meCells, MEd.cells, MEd.val, List.flatMap_cons, List.flatMap_nil, List.append_nil, List.cons_append, List.nil_append, List.length_nil, List.length_cons, Nat.zero_add] at hr
        rw [show ((1 : Nat) : Int) = 1 from rfl] at hr
        rw [show ((w2.setCell ⟨g, k, none⟩ (.string nw))).heap.size = w2.heap.size from by simp] at hr
        unfold nw at hr
        have HRe2 := Lib.hid hr
        clear hr
        have ern : ((a.length - k - 1 : Nat) : Int) = (a.length : Int) - (k : Int) - 1 := by omega
        obtain ⟨Pe3, qe3, we3, hr, hTe3⟩ := hTe2.push ⟨1, a.length - k - 1, none, 0, []⟩ (by exact Strs.nil) 3 rfl (by omega)
        simp only [MEd.val, List.length_nil] at hr
        rw [ern] at hr
        have HRe3 := Lib.hid hr
        clear hr
        clear ern
        have heA : Eds _ _ _ [⟨2, 1, []⟩, ⟨3, 1, [nw]⟩, ⟨1, a.length - k - 1, []⟩] := hTe3.eds
        have hbn := hTe3.below
        replace hoa := hoa.up2 hbn
        replace hob := hob.up2 hbn
        replace hb1 := hb1.trans (hbn.mono hb1.size)
        clear hbn hline hT0 hTe2 hTe3
        have HS1 : Hid (∀ e ∈ ([⟨2, 1, []⟩, ⟨3, 1, [nw]⟩, ⟨1, a.length - k - 1, []⟩] : List Edt), e.lines.length ≤ 65536) := Lib.hid (by intro e he; simp at he; rcases he with rfl | rfl | rfl <;> simp)
        go_wp2_with (first
          | (at_builtin; refine wpList_append_run (o := ⟨some 22, _, _, _, _, _⟩) rfl rfl (by simp [Region.wanted]) rfl rfl HR1.out ?_)
          | (at_builtin; refine wpList_append_run (o := ⟨some 42, _, _, _, _, _⟩) rfl rfl (by simp [Region.wanted]) rfl rfl HRe2.out ?_)
          | (at_builtin; refine wpList_append_run (o := ⟨some 56, _, _, _, _, _⟩) rfl rfl (by simp [Region.wanted]) rfl rfl HRe3.out ?_))
        refine (diff_at Aa (some ⟨g, 0, none⟩) a b a.length a.length ca c1 3 [⟨2, 1, []⟩, ⟨3, 1, [nw]⟩, ⟨1, a.length - k - 1, []⟩] _ hoa hob rfl HBL.out (by omega) HFa.out HGb.out HW.out rfl).mono ?_
        rintro e v1 ⟨D1, k1, rfl, hE1, hbn⟩
        replace hoa := hoa.up2 hbn
        replace hob := hob.up2 hbn
        replace heA := heA.up hbn
        replace hb1 := hb1.trans (hbn.mono hb1.size)
        clear hbn
        go_wp2_with fail
        refine (same_at D1 _ [⟨2, 1, []⟩, ⟨3, 1, [nw]⟩, ⟨1, a.length - k - 1, []⟩] 3 _ _ _ hE1 heA rfl (by omega) HS1.out).mono ?_
        rintro e v2 ⟨rfl, hbn⟩
        replace hoa := hoa.up2 hbn
        replace hob := hob.up2 hbn
        replace hb1 := hb1.trans (hbn.mono hb1.size)
        clear hbn hE1 heA
        go_wp2_with fail
        refine (cost_at' Aa (some ⟨g, 0, none⟩) a b a.length a.length ca c1 2 _ hoa hob rfl HBL.out (by omega) HFa.out HFb.out (by rw [HED.out]; rfl)).mono ?_
        rintro e v3 ⟨rfl, hbn⟩
        replace hoa := hoa.up2 hbn
        replace hob := hob.up2 hbn
        replace hb1 := hb1.trans (hbn.mono hb1.size)
        clear hbn
        go_wp2_with fail
        refine (common_at' Aa (some ⟨g, 0, none⟩) a b a.length a.length ca c1 ((a.length : Int) - 1) _ hoa hob rfl HBL.out (by omega) HFa.out HFb.out (by rw [HED.out, HBL.out]; omega)).mono ?_
        rintro e v4 ⟨rfl, hbn⟩
        replace hb1 := hb1.trans (hbn.mono hb1.size)
        clear hbn
        go_wp2_with fail
        go_ret
        exact ⟨rfl, hb1⟩
    · have ik : (0 : Int) < (k : Int) := by omega
      have dk : decide (0 < k) = true := decide_eq_true (by omega)
      by_cases gr : a.length - k - 1 = 0
      · have HW' : Hid (grp [] (Pm.way a b) = [⟨1, k, []⟩, ⟨2, 1, []⟩, ⟨3, 1, [nw]⟩]) := Lib.hid (by rw [HW.out]; unfold swapE; rw [if_neg gk, if_pos gr]; rfl)
        replace HW := HW'
        clear HW' gk
        have ir : ¬ (k : Int) + 1 < (a.length : Int) := by omega
        clear gr
        have hT0 := TwoE.nil (w2.setCell ⟨g, k, none⟩ (.string nw))
        obtain ⟨Pe1, qe1, we1, hr, hTe1⟩ := hT0.push ⟨1, k, none, 0, []⟩ (by exact Strs.nil) 1 rfl (by omega)
        simp only [MEd.val, List.length_nil] at hr
        rw [show ((w2.setCell ⟨g, k, none⟩ (.string nw))).heap.size = w2.heap.size from by simp] at hr
        unfold nw at hr
        have HRe1 := Lib.hid hr
        clear hr
        obtain ⟨Pe2, qe2, we2, hr, hTe2⟩ := hTe1.pushes [⟨2, 1, none, 0, []⟩, ⟨3, 1, some ⟨g, k, none⟩, c1 - k, [nw]⟩] (by intro m hm; simp at hm; rcases hm with rfl | rfl; exact Strs.nil; exact hline) 2 3 rfl rfl (by omega) (by omega)
        simp only [meCells, MEd.cells, MEd.val, List.flatMap_cons, List.flatMap_nil, List.append_nil, List.cons_append, List.nil_append, List.length_nil, List.length_cons, Nat.zero_add] at hr
        rw [show ((1 : Nat) : Int) = 1 from rfl] at hr
        have HRe2 := Lib.hid hr
        clear hr
        have heA : Eds _ _ _ [⟨1, k, []⟩, ⟨2, 1, []⟩, ⟨3, 1, [nw]⟩] := hTe2.eds
        have hbn := hTe2.below
        replace hoa := hoa.up2 hbn
        replace hob := hob.up2 hbn
        replace hb1 := hb1.trans (hbn.mono hb1.size)
        clear hbn hline hT0 hTe1 hTe2
        have HS1 : Hid (∀ e ∈ ([⟨1, k, []⟩, ⟨2, 1, []⟩, ⟨3, 1, [nw]⟩] : List Edt), e.lines.length ≤ 65536) := Lib.hid (by intro e he; simp at he; rcases he with rfl | rfl | rfl <;> simp)
        go_wp2_with (first
          | (at_builtin; refine wpList_append_run (o := ⟨some 22, _, _, _, _, _⟩) rfl rfl (by simp [Region.wanted]) rfl rfl HR1.out ?_)
          | (at_builtin; refine wpList_append_run (o := ⟨some 32, _, _, _, _, _⟩) rfl rfl (by simp [Region.wanted]) rfl rfl HRe1.out ?_)
          | (at_builtin; refine wpList_append_run (o := ⟨some 42, _, _, _, _, _⟩) rfl rfl (by simp [Region.wanted]) rfl rfl HRe2.out ?_))
        refine (diff_at Aa (some ⟨g, 0, none⟩) a b a.length a.length ca c1 3 [⟨1, k, []⟩, ⟨2, 1, []⟩, ⟨3, 1, [nw]⟩] _ hoa hob rfl HBL.out (by omega) HFa.out HGb.out HW.out rfl).mono ?_
        rintro e v1 ⟨D1, k1, rfl, hE1, hbn⟩
        replace hoa := hoa.up2 hbn
        replace hob := hob.up2 hbn
        replace heA := heA.up hbn
        replace hb1 := hb1.trans (hbn.mono hb1.size)
        clear hbn
        go_wp2_with fail
        refine (same_at D1 _ [⟨1, k, []⟩, ⟨2, 1, []⟩, ⟨3, 1, [nw]⟩] 3 _ _ _ hE1 heA rfl (by omega) HS1.out).mono ?_
        rintro e v2 ⟨rfl, hbn⟩
        replace hoa := hoa.up2 hbn
        replace hob := hob.up2 hbn
        replace hb1 := hb1.trans (hbn.mono hb1.size)
        clear hbn hE1 heA
        go_wp2_with fail
        refine (cost_at' Aa (some ⟨g, 0, none⟩) a b a.length a.length ca c1 2 _ hoa hob rfl HBL.out (by omega) HFa.out HFb.out (by rw [HED.out]; rfl)).mono ?_
        rintro e v3 ⟨rfl, hbn⟩
        replace hoa := hoa.up2 hbn
        replace hob := hob.up2 hbn
        replace hb1 := hb1.trans (hbn.mono hb1.size)
        clear hbn
        go_wp2_with fail
        refine (common_at' Aa (some ⟨g, 0, none⟩) a b a.length a.length ca c1 ((a.length : Int) - 1) _ hoa hob rfl HBL.out (by omega) HFa.out HFb.out (by rw [HED.out, HBL.out]; omega)).mono ?_
        rintro e v4 ⟨rfl, hbn⟩
        replace hb1 := hb1.trans (hbn.mono hb1.size)
        clear hbn
        go_wp2_with fail
        go_ret
        exact ⟨rfl, hb1⟩
      · have HW' : Hid (grp [] (Pm.way a b) = [⟨1, k, []⟩, ⟨2, 1, []⟩, ⟨3, 1, [nw]⟩, ⟨1, a.length - k - 1, []⟩]) := Lib.hid (by rw [HW.out]; unfold swapE; rw [if_neg gk, if_neg gr]; rfl)
        replace HW := HW'
        clear HW' gk
        have ir : (k : Int) + 1 < (a.length : Int) := by omega
        clear gr
        have hT0 := TwoE.nil (w2.setCell ⟨g, k, none⟩ (.string nw))
        obtain ⟨Pe1, qe1, we1, hr, hTe1⟩ := hT0.push ⟨1, k, none, 0, []⟩ (by exact Strs.nil) 1 rfl (by omega)
        simp only [MEd.val, List.length_nil] at hr
        rw [show ((w2.setCell ⟨g, k, none⟩ (.string nw))).heap.size = w2.heap.size from by simp] at hr
        unfold nw at hr
        have HRe1 := Lib.hid hr
        clear hr
        obtain ⟨Pe2, qe2, we2, hr, hTe2⟩ := hTe1.pushes [⟨2, 1, none, 0, []⟩, ⟨3, 1, some ⟨g, k, none⟩, c1 - k, [nw]⟩] (by intro m hm; simp at hm; rcases hm with rfl | rfl; exact Strs.nil; exact hline) 2 3 rfl rfl (by omega) (by omega)
        simp only [meCells, MEd.cells, MEd.val, List.flatMap_cons, List.flatMap_nil, List.append_nil, List.cons_append, List.nil_append, List.length_nil, List.length_cons, Nat.zero_add] at hr
        rw [show ((1 : Nat) : Int) = 1 from rfl] at hr
        have HRe2 := Lib.hid hr
        clear hr
        have ern : ((a.length - k - 1 : Nat) : Int) = (a.length : Int) - (k : Int) - 1 := by omega
        obtain ⟨Pe3, qe3, we3, hr, hTe3⟩ := hTe2.push ⟨1, a.length - k - 1, none, 0, []⟩ (by exact Strs.nil) 4 rfl (by omega)
        simp only [MEd.val, List.length_nil] at hr
        rw [ern] at hr
        have HRe3 := Lib.hid hr
        clear hr
        clear ern
        have heA : Eds _ _ _ [⟨1, k, []⟩, ⟨2, 1, []⟩, ⟨3, 1, [nw]⟩, ⟨1, a.length - k - 1, []⟩] := hTe3.eds
        have hbn := hTe3.below
        replace hoa := hoa.up2 hbn
        replace hob := hob.up2 hbn
        replace hb1 := hb1.trans (hbn.mono hb1.size)
        clear hbn hline hT0 hTe1 hTe2 hTe3
        have HS1 : Hid (∀ e ∈ ([⟨1, k, []⟩, ⟨2, 1, []⟩, ⟨3, 1, [nw]⟩, ⟨1, a.length - k - 1, []⟩] : List Edt), e.lines.length ≤ 65536) := Lib.hid (by intro e he; simp at he; rcases he with rfl | rfl | rfl | rfl <;> simp)
        go_wp2_with (first
          | (at_builtin; refine wpList_append_run (o := ⟨some 22, _, _, _, _, _⟩) rfl rfl (by simp [Region.wanted]) rfl rfl HR1.out ?_)
          | (at_builtin; refine wpList_append_run (o := ⟨some 32, _, _, _, _, _⟩) rfl rfl (by simp [Region.wanted]) rfl rfl HRe1.out ?_)
          | (at_builtin; refine wpList_append_run (o := ⟨some 42, _, _, _, _, _⟩) rfl rfl (by simp [Region.wanted]) rfl rfl HRe2.out ?_)
          | (at_builtin; refine wpList_append_run (o := ⟨some 56, _, _, _, _, _⟩) rfl rfl (by simp [Region.wanted]) rfl rfl HRe3.out ?_))
        refine (diff_at Aa (some ⟨g, 0, none⟩) a b a.length a.length ca c1 4 [⟨1, k, []⟩, ⟨2, 1, []⟩, ⟨3, 1, [nw]⟩, ⟨1, a.length - k - 1, []⟩] _ hoa hob rfl HBL.out (by omega) HFa.out HGb.out HW.out rfl).mono ?_
        rintro e v1 ⟨D1, k1, rfl, hE1, hbn⟩
        replace hoa := hoa.up2 hbn
        replace hob := hob.up2 hbn
        replace heA := heA.up hbn
        replace hb1 := hb1.trans (hbn.mono hb1.size)
        clear hbn
        go_wp2_with fail
        refine (same_at D1 _ [⟨1, k, []⟩, ⟨2, 1, []⟩, ⟨3, 1, [nw]⟩, ⟨1, a.length - k - 1, []⟩] 4 _ _ _ hE1 heA rfl (by omega) HS1.out).mono ?_
        rintro e v2 ⟨rfl, hbn⟩
        replace hoa := hoa.up2 hbn
        replace hob := hob.up2 hbn
        replace hb1 := hb1.trans (hbn.mono hb1.size)
        clear hbn hE1 heA
        go_wp2_with fail
        refine (cost_at' Aa (some ⟨g, 0, none⟩) a b a.length a.length ca c1 2 _ hoa hob rfl HBL.out (by omega) HFa.out HFb.out (by rw [HED.out]; rfl)).mono ?_
        rintro e v3 ⟨rfl, hbn⟩
        replace hoa := hoa.up2 hbn
        replace hob := hob.up2 hbn
        replace hb1 := hb1.trans (hbn.mono hb1.size)
        clear hbn
        go_wp2_with fail
        refine (common_at' Aa (some ⟨g, 0, none⟩) a b a.length a.length ca c1 ((a.length : Int) - 1) _ hoa hob rfl HBL.out (by omega) HFa.out HFb.out (by rw [HED.out, HBL.out]; omega)).mono ?_
        rintro e v4 ⟨rfl, hbn⟩
        replace hb1 := hb1.trans (hbn.mono hb1.size)
        clear hbn
        go_wp2_with fail
        go_ret
        exact ⟨rfl, hb1⟩

end Go.Proofs.Ytmonemgjgcfhlaa
