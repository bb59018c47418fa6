/-
  alike.counts, alike.takeOne, alike.Common and alike.Score: what they tell, in plain words. The map that a call makes, and from which it takes. Nothing that was there is changed.
-/
import Derived.Test.YtdnckhagknlfhaaMem
import Derived.Test.YtdnckhagknlfhaaAl
import Derived.Maps.Own
import Derived.Maps.OwnOps
import Derived.Maps.OwnSet
import Derived.Deep.OwnRows
namespace Go.Proofs.Ytdnckhagknlfhaa
open Go.RowKit Go.Maps Go.WideMaps
open Al

theorem law9 : Keyed Try.prog 9 := string_keyed Try.underlying9
theorem zero3 (w : World) : (zeroValue 3).run Try.prog w = .ok (.int .i64 0) w := by kernel_rfl
/-- a line as a key -/
def keyS (s : ByteArray) : Lit := .string s.data.toList
theorem keyS_inj {s t : ByteArray} (h : keyS s = keyS t) : s = t := by
  unfold keyS at h
  injection h with h
  cases s; cases t
  simp at h
  subst h
  rfl
theorem keyS_lit (s : ByteArray) : WideAt.IsKeyLit (keyS s) := by simp [keyS, WideAt.IsKeyLit]
/-- a map that tells how often each line is in M -/
structure Cnt (M : List ByteArray) (D : DataW Unit) : Prop where
  has_ : ∀ s, Maps.has D (keyS s) = decide (0 < cnt s M)
  at_ : ∀ s, D.atKey (keyS s) (.lit (.int .i64 0)) = .lit (.int .i64 (cnt s M : Int))
theorem Cnt.nil : Cnt [] (.map []) := ⟨fun s => by simp [Maps.has, cnt_nil], fun s => by simp [DataW.atKey, cnt_nil]⟩
theorem Cnt.more {M : List ByteArray} {D : DataW Unit} (h : Cnt M D) (hD : Maps.IsMap D) (s : ByteArray) : Cnt (M ++ [s]) (D.put (keyS s) (.lit (.int .i64 (cnt s M + 1 : Int)))) := by
  refine ⟨fun t => ?_, fun t => ?_⟩
  · by_cases e : t = s
    · subst e; rw [Maps.has_put_same hD (keyS_lit _), cnt_snoc]; simp
    · rw [Maps.has_put_other (fun e' => e (keyS_inj e')), h.has_ t, cnt_snoc, if_neg (fun e' => e e'.symm)]; simp
  · by_cases e : t = s
    · subst e; rw [Maps.atKey_put_same hD (keyS_lit _), cnt_snoc]; simp
    · rw [Maps.atKey_put_other (fun e' => e (keyS_inj e')), h.at_ t, cnt_snoc, if_neg (fun e' => e e'.symm)]; simp
theorem Cnt.less {M : List ByteArray} {D : DataW Unit} (h : Cnt M D) (hD : Maps.IsMap D) {s : ByteArray} (hs : 1 < cnt s M) : Cnt (rem s M) (D.put (keyS s) (.lit (.int .i64 (cnt s M - 1 : Int)))) := by
  refine ⟨fun t => ?_, fun t => ?_⟩
  · by_cases e : t = s
    · subst e; rw [Maps.has_put_same hD (keyS_lit _), cnt_rem_same, decide_eq_true (by omega)]
    · rw [Maps.has_put_other (fun e' => e (keyS_inj e')), h.has_ t, cnt_rem_other e]
  · by_cases e : t = s
    · subst e; rw [Maps.atKey_put_same hD (keyS_lit _), cnt_rem_same, Int.ofNat_sub (by omega)]; rfl
    · rw [Maps.atKey_put_other (fun e' => e (keyS_inj e')), h.at_ t, cnt_rem_other e]
theorem Cnt.gone {M : List ByteArray} {D : DataW Unit} (h : Cnt M D) {s : ByteArray} (hs : cnt s M = 1) : Cnt (rem s M) (D.del (keyS s)) := by
  refine ⟨fun t => ?_, fun t => ?_⟩
  · by_cases e : t = s
    · subst e; rw [Maps.has_del_same, cnt_rem_same, hs]; rfl
    · rw [Maps.has_del_other (fun e' => e (keyS_inj e')), h.has_ t, cnt_rem_other e]
  · by_cases e : t = s
    · subst e; rw [Maps.atKey_del_same, cnt_rem_same, hs]; rfl
    · rw [Maps.atKey_del_other (fun e' => e (keyS_inj e')), h.at_ t, cnt_rem_other e]
theorem lit_int {a b : Int} (h : (DataW.lit (.int .i64 a) : DataW Unit) = .lit (.int .i64 b)) : a = b := by
  injection h with h
  injection h

set_option maxHeartbeats 2000000 in
set_option maxRecDepth 100000 in
theorem counts_any (A : Option Addr) (ss : List ByteArray) (c : Nat) (w : World) (ha : Strs w w.heap.size A ss) (h1 : ss.length ≤ 1073741) (hsz : ∀ s ∈ ss, s.size ≤ maxLen) :
    Calls Try.prog 52 #[.slice A ss.length c] w fun e w' => ∃ D : DataW Unit, e = .returned (.map (some w.heap.size)) ∧ w'.ownsMap Try.prog 9 (plainElem Try.prog 3) w.heap.size ss.length D ∧ Cnt ss D ∧ Below w.heap.size w w' := by
  have hmm := @run_makeMap Try.prog
  have HSZ := Lib.hid hsz
  clear hsz
  go_enter Try.func52, Try.ntmps52
  go_wp2_with fail
  go_loopw [9] (fun i wr => ∃ (k : Nat) (D : DataW Unit), k ≤ ss.length ∧ i = .int .i64 k ∧ wr.ownsMap Try.prog 9 (plainElem Try.prog 3) w.heap.size k D ∧ Cnt (ss.take k) D ∧ Below w.heap.size w wr) (fun i _ => ss.length - (intOf i).toNat)
  case atStart => exact ⟨0, .map [], Nat.zero_le _, rfl, World.ownsMap_made _ _ _ _, Cnt.nil, (Below.refl _ _).alloc (Nat.le_refl _) _⟩
  case round =>
    obtain ⟨k, D, hk, rfl, hown, hP, hB⟩ := hrel
    by_cases g1 : k < ss.length
    · obtain ⟨a, rfl, hab, hca0⟩ := (ha.below hB).at_ g1
      obtain ⟨s, hs⟩ : ∃ s, s = ss[k] := ⟨_, rfl⟩
      have hca : wr.cell? (a.add k) = some (.string s) := by rw [hs]; exact hca0
      have hkey : keyOf Try.prog 9 (.string s) = some (keyS s) := keyOf_string_mk Try.underlying9 (HSZ.out s (by rw [hs]; exact List.getElem_mem _))
      have hts : ss.take (k + 1) = ss.take k ++ [s] := by rw [hs, List.take_succ_eq_append_getElem g1]
      have hcl := cnt_le s (ss.take k)
      have hkl : (ss.take k).length = k := by rw [List.length_take]; omega
      rw [hkl] at hcl
      have HKEY := Lib.hid hkey
      have HTS := Lib.hid hts
      clear hkey hts hca0 hs hkl
      have hwf : (Lit.int .i64 (cnt s (ss.take k) + 1 : Int)).wf = true := WalkArith.wf_i64 (by omega)
      have hat := hP.at_ s
      have HAT := Lib.hid hat
      clear hat
      go_wp2_with (first
        | (at_lookup; refine wpList_lookup_own_int _ rfl _ _ 86 rfl 9 3 .i64 law9 Try.underlying86 Try.underlying3 (zero3 _) w.heap.size k D rfl hown _ _ rfl HKEY.out ?_; intro c hat hwc; obtain rfl := lit_int (HAT.out.symm.trans hat); clear hat hwc)
        | (at_mapUpdate; refine wpList_mapUpdate_own _ rfl _ _ _ 86 rfl 9 3 law9 Try.underlying86 _ w.heap.size k D rfl hown (by unfold maxLen; omega) _ _ _ rfl rfl HKEY.out _ [] (plainElem_int Try.underlying3 hwf) ?_; intro w1 hown1 hgrow1)
        | go_in)
      go_roundw
      case rel => exact ⟨k + 1, _, by omega, by go_num, hown1, by rw [HTS.out]; exact hP.more hown.isMap s, hB.grown hgrow1 hB.size (fun j hj => by cases hj; exact Nat.le_refl _)⟩
      case measure => simp [intOf]; omega
    · have hkz : ss.take k = ss := List.take_of_length_le (by omega)
      have hke : k = ss.length := by omega
      rw [hkz] at hP
      have HKE := Lib.hid hke
      clear hkz hke
      go_wp2_with fail
      go_ret
      exact ⟨D, rfl, by rw [← HKE.out]; exact hown, hP, hB⟩

/-- what takeOne leaves: whether the line was there, and the map without it -/
def Took (b n : Nat) (M : List ByteArray) (w : World) (r : Bool) (e : Ending) (w' : World) : Prop := ∃ D' : DataW Unit, e = .returned (.bool r) ∧ w'.ownsMap Try.prog 9 (plainElem Try.prog 3) b (n + 1) D' ∧ Cnt M D' ∧ w.grownBy w' (some b)

set_option maxHeartbeats 2000000 in
set_option maxRecDepth 100000 in
theorem takeOne_any (b n : Nat) (M : List ByteArray) (D : DataW Unit) (s : ByteArray) (w : World) (hown : w.ownsMap Try.prog 9 (plainElem Try.prog 3) b n D) (hC : Cnt M D) (hM : M.length ≤ 1073741) (hn : n ≤ 1073741824) (hs : s.size ≤ maxLen) :
    Calls Try.prog 53 #[.map (some b), .string s] w fun e w' => Took b n (rem s M) w (decide (0 < cnt s M)) e w' := by
  have hkey : keyOf Try.prog 9 (.string s) = some (keyS s) := keyOf_string_mk Try.underlying9 hs
  have HKEY := Lib.hid hkey
  clear hkey
  have hcl := cnt_le s M
  have HAT := Lib.hid (hC.at_ s)
  by_cases h0 : 0 < cnt s M
  · have hhas : Maps.has D (keyS s) = true := by rw [hC.has_ s]; simpa using h0
    rw [decide_eq_true h0]
    by_cases h2 : 1 < cnt s M
    · have hwf : (Lit.int .i64 (cnt s M - 1 : Int)).wf = true := WalkArith.wf_i64 (by omega)
      have h2' : (1 : Int) < (cnt s M : Int) := by omega
      go_enter Try.func53, Try.ntmps53
      go_wp2_with (first
        | (at_lookup; refine wpList_lookup_own_ok_int _ rfl _ _ 86 rfl 9 3 .i64 law9 Try.underlying86 Try.underlying3 (zero3 _) b n D rfl hown _ _ rfl HKEY.out ?_; intro c hat hwc; obtain rfl := lit_int (HAT.out.symm.trans hat); clear hat hwc)
        | (at_mapUpdate; refine wpList_mapUpdate_own _ rfl _ _ _ 86 rfl 9 3 law9 Try.underlying86 _ b n D rfl hown (by unfold maxLen; omega) _ _ _ rfl rfl HKEY.out _ [] (plainElem_int Try.underlying3 hwf) ?_; intro w1 hown1 hgrow1)
        | go_in)
      go_ret
      exact ⟨_, rfl, hown1, hC.less hown.isMap h2, hgrow1⟩
    · have h2' : ¬ (1 : Int) < (cnt s M : Int) := by omega
      have h1 : cnt s M = 1 := by omega
      have H1 := Lib.hid h1
      clear h1
      go_enter Try.func53, Try.ntmps53
      go_wp2_with (first
        | (at_lookup; refine wpList_lookup_own_ok_int _ rfl _ _ 86 rfl 9 3 .i64 law9 Try.underlying86 Try.underlying3 (zero3 _) b n D rfl hown _ _ rfl HKEY.out ?_; intro c hat hwc; obtain rfl := lit_int (HAT.out.symm.trans hat); clear hat hwc)
        | (at_delete; refine wpList_delete_own _ rfl _ _ 86 9 rfl 3 law9 Try.underlying86 _ b n D rfl hown _ _ rfl HKEY.out ?_; intro w1 hown1 hturn1)
        | go_in)
      go_ret
      exact ⟨_, rfl, hown1.mono (by omega), hC.gone H1.out, hturn1.grown⟩
  · have hhas : Maps.has D (keyS s) = false := by rw [hC.has_ s]; simpa using h0
    rw [decide_eq_false h0]
    go_enter Try.func53, Try.ntmps53
    go_wp2_with (first
      | (at_lookup; refine wpList_lookup_own_ok_int _ rfl _ _ 86 rfl 9 3 .i64 law9 Try.underlying86 Try.underlying3 (zero3 _) b n D rfl hown _ _ rfl HKEY.out ?_; intro c hat hwc; clear hat hwc)
      | go_in)
    go_ret
    exact ⟨D, rfl, hown.mono (by omega), by rw [rem_none (by omega)]; exact hC, World.grownBy.refl w _⟩

theorem drop_cons {ts : List ByteArray} {k : Nat} (h : k < ts.length) {s : ByteArray} (hs : s = ts[k]) : ts.drop k = s :: ts.drop (k + 1) := by rw [hs]; exact List.drop_eq_getElem_cons h

set_option maxHeartbeats 2000000 in
set_option maxRecDepth 100000 in
theorem common_any (A B : Option Addr) (ss ts : List ByteArray) (c d : Nat) (w : World) (ha : Strs w w.heap.size A ss) (hb : Strs w w.heap.size B ts) (h1 : ss.length ≤ 1048576) (h2 : ts.length ≤ 1048576) (hs : ∀ s ∈ ss, s.size ≤ maxLen) (ht : ∀ s ∈ ts, s.size ≤ maxLen) :
    Calls Try.prog 35 #[.slice A ss.length c, .slice B ts.length d] w fun e w' => e = .returned (.int .i64 (cm ss ts : Int)) ∧ Below w.heap.size w w' := by
  have HT := Lib.hid ht
  clear ht
  go_enter Try.func35, Try.ntmps35
  go_wp2_with fail
  refine (counts_any A ss c _ ha (by omega) hs).mono ?_
  rintro e w1 ⟨D1, rfl, hown1, hC1, hb1⟩
  clear hs
  go_wp2_with fail
  go_loopw [6, 13] (fun n i wr => ∃ (k m : Nat) (M : List ByteArray) (D : DataW Unit), k ≤ ts.length ∧ i = .int .i64 k ∧ n = .int .i64 m ∧ m ≤ k ∧ M.length ≤ 1048576 ∧ m + (inter (ts.drop k) M).length = cm ss ts ∧ wr.ownsMap Try.prog 9 (plainElem Try.prog 3) w.heap.size (ss.length + k) D ∧ Cnt M D ∧ Below w.heap.size w wr) (fun _ i _ => ts.length - (intOf i).toNat)
  case atStart => exact ⟨0, 0, ss, D1, Nat.zero_le _, rfl, rfl, Nat.le_refl _, h1, by simp [cm], hown1, hC1, hb1⟩
  case round =>
    obtain ⟨k, m, M, D, hk, rfl, rfl, hmk, hM, hm, hown, hC, hB⟩ := hrel
    have HM := Lib.hid hm
    clear hm
    by_cases g1 : k < ts.length
    · obtain ⟨a, rfl, hab, hca0⟩ := (hb.below hB).at_ g1
      obtain ⟨s, hs⟩ : ∃ s, s = ts[k] := ⟨_, rfl⟩
      have hca : wr.cell? (a.add k) = some (.string s) := by rw [hs]; exact hca0
      have hsz := HT.out s (by rw [hs]; exact List.getElem_mem _)
      have HD := Lib.hid (drop_cons g1 hs)
      have hrl := rem_length_le s M
      clear hca0 hs
      have hic := inter_cons s (ts.drop (k + 1)) M
      rw [← HD.out] at hic
      by_cases g2 : 0 < cnt s M
      · rw [if_pos g2] at hic
        have HIC := Lib.hid hic
        clear hic
        have HDE := Lib.hid (decide_eq_true g2)
        go_wp2_with fail
        refine (takeOne_any w.heap.size _ M D s _ hown hC (by omega) (by omega) hsz).mono ?_
        rw [HDE.out]
        rintro e w2 ⟨D2, rfl, hown2, hC2, hg2⟩
        go_wp2_with fail
        go_roundw
        case rel => exact ⟨k + 1, m + 1, rem s M, D2, by omega, by go_num, by go_num, by omega, by omega, by have := HM.out; rw [HIC.out] at this; omega, hown2, hC2, hB.grown hg2 hB.size (fun j hj => by cases hj; exact Nat.le_refl _)⟩
        case measure => simp [intOf]; omega
      · rw [if_neg g2] at hic
        have HIC := Lib.hid hic
        clear hic
        have HDE := Lib.hid (decide_eq_false g2)
        go_wp2_with fail
        refine (takeOne_any w.heap.size _ M D s _ hown hC (by omega) (by omega) hsz).mono ?_
        rw [HDE.out]
        rintro e w2 ⟨D2, rfl, hown2, hC2, hg2⟩
        go_wp2_with fail
        go_roundw
        case rel => exact ⟨k + 1, m, rem s M, D2, by omega, by go_num, rfl, by omega, by omega, by have := HM.out; rw [HIC.out] at this; omega, hown2, hC2, hB.grown hg2 hB.size (fun j hj => by cases hj; exact Nat.le_refl _)⟩
        case measure => simp [intOf]; omega
    · have he : m = cm ss ts := by
        have := HM.out
        rw [List.drop_eq_nil_of_le (by omega)] at this
        simpa [inter] using this
      subst he
      go_wp2_with fail
      go_ret
      exact ⟨rfl, hB⟩

set_option maxHeartbeats 2000000 in
set_option maxRecDepth 100000 in
theorem score_any (A B : Option Addr) (ss ts : List ByteArray) (c d : Nat) (w : World) (ha : Strs w w.heap.size A ss) (hb : Strs w w.heap.size B ts) (h1 : ss.length ≤ 1048576) (h2 : ts.length ≤ 1048576) (hs : ∀ s ∈ ss, s.size ≤ maxLen) (ht : ∀ s ∈ ts, s.size ≤ maxLen) :
    Calls Try.prog 17 #[.slice A ss.length c, .slice B ts.length d] w fun e w' => e = .returned (.int .i64 (score ss ts : Int)) ∧ Below w.heap.size w w' := by
  by_cases h0 : ss.length + ts.length = 0
  · have e : score ss ts = 100 := by unfold score; rw [if_pos h0]
    have e0 : (((ss.length : Int) + (ts.length : Int) == 0) : Bool) = true := by rw [beq_iff_eq]; omega
    have E := Lib.hid e
    clear e h0 hs ht
    go_enter Try.func17, Try.ntmps17
    go_wp2_with fail
    go_ret
    exact ⟨by rw [E.out]; rfl, Below.refl _ _⟩
  · have e : (score ss ts : Int) = 200 * (cm ss ts : Int) / ((ss.length : Int) + (ts.length : Int)) := by unfold score; rw [if_neg h0]; simp
    have e0 : (((ss.length : Int) + (ts.length : Int) == 0) : Bool) = false := by rw [beq_eq_false_iff_ne]; omega
    have E := Lib.hid e
    have hcm := cm_le_left ss ts
    have hpos : 0 < ss.length + ts.length := by omega
    have HS := Lib.hid hs
    have HT := Lib.hid ht
    clear e h0 hs ht
    go_enter Try.func17, Try.ntmps17
    go_wp2_with fail
    refine (common_any A B ss ts c d _ ha hb h1 h2 HS.out HT.out).mono ?_
    rintro e w1 ⟨rfl, hb1⟩
    go_wp2_with fail
    go_ret
    exact ⟨ret_int (by rw [E.out]), hb1⟩

end Go.Proofs.Ytdnckhagknlfhaa
