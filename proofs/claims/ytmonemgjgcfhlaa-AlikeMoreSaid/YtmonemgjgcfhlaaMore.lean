/-
  collatorlaw07.AlikeMore: whatever the raw numbers and the line, it returns true; nothing that was there is changed.
-/
import Derived.Test.YtmonemgjgcfhlaaAlAppend
import Derived.Test.YtmonemgjgcfhlaaMorePlain
import Derived.Test.YtmonemgjgcfhlaaCost
namespace Go.Proofs.Ytmonemgjgcfhlaa
open Go.RowKit
open Al

theorem own_one (w : World) (s : ByteArray) : Own w (w.alloc (.cells #[.string s] 9)) (.slice (some ⟨w.heap.size, 0, none⟩) 1 1) [s] := by
  refine ⟨⟨rfl, .inr ⟨w.heap.size, 1, #[.string s], rfl, Nat.le_refl _, heap_alloc_new w _, Nat.le_refl _, by unfold maxLen; omega, rfl, rfl⟩⟩, (Below.refl _ _).alloc (Nat.le_refl _) _⟩
theorem myCommon_at (A B : Option Addr) (a b : List ByteArray) (c d : Nat) (r : Int) (w : World) (ha : Strs w w.heap.size A a) (hb : Strs w w.heap.size B b) (hlen : a.length + b.length ≤ 256) (h1 : Fit a) (h2 : Fit b) (hr : ((a.length : Int) + b.length - (Pm.ed a b : Nat)) / 2 = r) :
    Calls Try.prog 17 #[.slice A a.length c, .slice B b.length d] w fun e w' => e = .returned (.int .i64 r) ∧ Below w.heap.size w w' := by
  subst hr
  exact common_any A B a b c d w ha hb hlen h1.2 h2.2

set_option maxHeartbeats 1000000 in
set_option maxRecDepth 100000 in
theorem more_walk (A B : Option Addr) (zs ts : List Int) (c d : Nat) (line : ByteArray) (w : World) (ha : Ints w w.heap.size A zs) (hb : Ints w w.heap.size B ts) (h1 : zs.length ≤ 140737488355328) (h2 : ts.length ≤ 140737488355328)
    (hz : ∀ z ∈ zs, -9223372036854775808 ≤ z ∧ z ≤ 9223372036854775807) (ht : ∀ z ∈ ts, -9223372036854775808 ≤ z ∧ z ≤ 9223372036854775807) (hline : line.size ≤ maxLen) :
    Calls Try.prog 9 #[.slice A zs.length c, .slice B ts.length d, .string line] w fun e w' => e = .returned (.bool true) ∧ Below w.heap.size w w' := by
  have HZ := Lib.hid hz
  have HT := Lib.hid ht
  clear hz ht
  go_enter Try.func9, Try.ntmps9
  go_wp2_with fail
  refine (alAwake_any _).mono ?_
  rintro e w1 ⟨rfl, hb1⟩
  go_wp2_with fail
  refine (lines_at 30 30 rfl (by omega) (by omega) _ zs _ _ (ha.up hb1) h1 HZ.out).mono ?_
  rintro e w2 ⟨A2, c2, rfl, ho2, hc2, hb2⟩
  replace hb1 := hb1.trans (hb2.mono hb1.size)
  go_wp2_with fail
  refine (lines_at 30 30 rfl (by omega) (by omega) _ ts _ _ (hb.up hb1) h2 HT.out).mono ?_
  rintro e w3 ⟨A3, c3, rfl, ho3, hc3, hb3⟩
  replace hb1 := hb1.trans (hb3.mono hb1.size)
  replace ho2 := ho2.up hb3
  have hl2 := lines_len 30 zs
  have hl3 := lines_len 30 ts
  have HF2 := Lib.hid (lines_fit (m := 30) (by omega) zs)
  have HF3 := Lib.hid (lines_fit (m := 30) (by omega) ts)
  generalize linesL 30 zs = a at *
  generalize linesL 30 ts = b at *
  clear hb2 hb3 ha hb HZ HT
  obtain ⟨n, hn⟩ : ∃ n, n = cm a b := ⟨_, rfl⟩
  have hn1 : n ≤ a.length := by rw [hn]; exact cm_le_left a b
  have hn2 : n ≤ b.length := by rw [hn]; exact cm_le_right a b
  have HN := Lib.hid hn
  clear hn
  go_wp2_with fail
  refine (alCommon_at A2 A3 a b a.length b.length c2 c3 (n : Int) _ ho2 ho3 rfl rfl HF2.out HF3.out (by rw [HN.out])).mono ?_
  rintro e w4 ⟨rfl, hb4⟩
  replace ho2 := ho2.up hb4
  replace ho3 := ho3.up hb4
  replace hb1 := hb1.trans (hb4.mono hb1.size)
  clear hb4
  -- x
  obtain ⟨X, hX⟩ : ∃ X, X = a ++ [line] := ⟨_, rfl⟩
  have hXl : X.length ≤ 31 := by rw [hX, List.length_append]; simp; omega
  obtain ⟨A5, c5, w5, hr5, ho5⟩ := append_own (Own.nil w4) a.length c2 ho2 rfl a rfl (by omega)
  obtain ⟨A6, c6, w6, hr6, ho6⟩ := append_own (ho5.alloc (.cells #[.string line] 9)) 1 1 (strs_new w5 [line]) rfl X hX (by omega)
  have HR5 := Lib.hid hr5
  have HR6 := Lib.hid hr6
  have HX := Lib.hid hX
  have hbx := ho6.2
  replace ho2 := ho2.up hbx
  replace ho3 := ho3.up hbx
  replace hb1 := hb1.trans (hbx.mono hb1.size)
  have hx := ho6.strs
  clear hr5 hr6 hX ho5 ho6 hbx
  -- y
  obtain ⟨Y, hY⟩ : ∃ Y, Y = [line] ++ b := ⟨_, rfl⟩
  have hYl : Y.length ≤ 31 := by rw [hY, List.length_append]; simp; omega
  have hal := (Below.refl w6.heap.size w6).alloc (Nat.le_refl _) (.cells #[.string line] 9)
  obtain ⟨A7, c7, w7, hr7, ho7⟩ := append_own (own_one w6 line) b.length c3 (ho3.up hal) rfl Y hY (by omega)
  have HR7 := Lib.hid hr7
  have HY := Lib.hid hY
  have hbx := ho7.2
  replace ho2 := ho2.up hbx
  replace ho3 := ho3.up hbx
  replace hx := hx.up hbx
  replace hb1 := hb1.trans (hbx.mono hb1.size)
  have hy := ho7.strs
  clear hr7 hY ho7 hbx hal
  have HFX : Hid (Fit X) := Lib.hid ⟨by omega, fun s hs => by
    rw [HX.out] at hs
    rcases List.mem_append.1 hs with h | h
    · exact HF2.out.2 s h
    · simp at h; rw [h]; exact hline⟩
  have HFY : Hid (Fit Y) := Lib.hid ⟨by omega, fun s hs => by
    rw [HY.out] at hs
    rcases List.mem_append.1 hs with h | h
    · simp at h; rw [h]; exact hline
    · exact HF3.out.2 s h⟩
  have hp : cm X b = n + if cnt line a < cnt line b then 1 else 0 := by rw [HX.out, HN.out]; exact cm_snoc a b line
  have HXY : Hid (cm X Y = n + 1) := Lib.hid (by rw [HX.out, HY.out, HN.out]; exact cm_both a b line)
  have hed := cm_ed _ a b (Nat.le_refl _)
  rw [← HN.out] at hed
  obtain ⟨r, hr⟩ : ∃ r : Int, ((a.length : Int) + b.length - (Pm.ed a b : Nat)) / 2 = r := ⟨_, rfl⟩
  have hrn : r ≤ (n : Int) := by omega
  have HRR := Lib.hid hr
  have k1 : (n : Int) ≤ min (a.length : Int) (b.length : Int) := by omega
  have k2 : (n : Int) ≤ if (b.length : Int) < (a.length : Int) then (b.length : Int) else (a.length : Int) := by split <;> omega
  clear hr hed
  by_cases g : cnt line a < cnt line b
  · have g' : decide (cnt line a < cnt line b) = true := decide_eq_true g
    rw [if_pos g] at hp
    have HP := Lib.hid hp
    clear hp g
    have f1 : (((n : Int) + 1 == (n : Int)) : Bool) = false := by rw [beq_eq_false_iff_ne]; omega
    go_wp2_with (first
      | (at_builtin; refine wpList_append_run (o := ⟨some 23, _, _, _, _, _⟩) rfl rfl (by simp [Region.wanted]) rfl rfl HR5.out ?_)
      | (at_builtin; refine wpList_append_run (o := ⟨some 26, _, _, _, _, _⟩) rfl rfl (by simp [Region.wanted]) rfl rfl HR6.out ?_)
      | (at_builtin; refine wpList_append_run (o := ⟨some 30, _, _, _, _, _⟩) rfl rfl (by simp [Region.wanted]) rfl rfl HR7.out ?_))
    refine (alCommon_at A6 A3 X b X.length b.length c6 c3 ((n : Int) + 1) _ hx ho3 rfl rfl HFX.out HF3.out (by rw [HP.out]; rfl)).mono ?_
    rintro e v1 ⟨rfl, hbn⟩
    replace hx := hx.up hbn
    replace hy := hy.up hbn
    replace ho2 := ho2.up hbn
    replace ho3 := ho3.up hbn
    replace hb1 := hb1.trans (hbn.mono hb1.size)
    clear hbn
    go_wp2_with fail
    refine (times_any A3 b c3 _ line _ ho3 (by omega)).mono ?_
    rintro e v2 ⟨rfl, rfl⟩
    go_wp2_with fail
    refine (times_any A2 a c2 _ line _ ho2 (by omega)).mono ?_
    rintro e v3 ⟨rfl, rfl⟩
    go_wp2_with fail
    refine (alCommon_at A6 A7 X Y X.length Y.length c6 c7 ((n : Int) + 1) _ hx hy rfl rfl HFX.out HFY.out (by rw [HXY.out]; rfl)).mono ?_
    rintro e v4 ⟨rfl, hbn⟩
    replace ho2 := ho2.up hbn
    replace ho3 := ho3.up hbn
    replace hb1 := hb1.trans (hbn.mono hb1.size)
    clear hbn
    go_wp2_with fail
    refine (myCommon_at A2 A3 a b c2 c3 r _ ho2 ho3 (by omega) HF2.out HF3.out HRR.out).mono ?_
    rintro e v5 ⟨rfl, hbn⟩
    replace hb1 := hb1.trans (hbn.mono hb1.size)
    clear hbn
    go_wp2_with fail
    all_goals
      go_ret
      exact ⟨rfl, hb1⟩
  · have g' : decide (cnt line a < cnt line b) = false := decide_eq_false g
    rw [if_neg g] at hp
    have HP := Lib.hid hp
    clear hp g
    have f1 : (((n : Int) == (n : Int) + 1) : Bool) = false := by rw [beq_eq_false_iff_ne]; omega
    go_wp2_with (first
      | (at_builtin; refine wpList_append_run (o := ⟨some 23, _, _, _, _, _⟩) rfl rfl (by simp [Region.wanted]) rfl rfl HR5.out ?_)
      | (at_builtin; refine wpList_append_run (o := ⟨some 26, _, _, _, _, _⟩) rfl rfl (by simp [Region.wanted]) rfl rfl HR6.out ?_)
      | (at_builtin; refine wpList_append_run (o := ⟨some 30, _, _, _, _, _⟩) rfl rfl (by simp [Region.wanted]) rfl rfl HR7.out ?_))
    refine (alCommon_at A6 A3 X b X.length b.length c6 c3 (n : Int) _ hx ho3 rfl rfl HFX.out HF3.out (by rw [HP.out]; rfl)).mono ?_
    rintro e v1 ⟨rfl, hbn⟩
    replace hx := hx.up hbn
    replace hy := hy.up hbn
    replace ho2 := ho2.up hbn
    replace ho3 := ho3.up hbn
    replace hb1 := hb1.trans (hbn.mono hb1.size)
    clear hbn
    go_wp2_with fail
    refine (times_any A3 b c3 _ line _ ho3 (by omega)).mono ?_
    rintro e v2 ⟨rfl, rfl⟩
    go_wp2_with fail
    refine (times_any A2 a c2 _ line _ ho2 (by omega)).mono ?_
    rintro e v3 ⟨rfl, rfl⟩
    go_wp2_with fail
    refine (alCommon_at A6 A7 X Y X.length Y.length c6 c7 ((n : Int) + 1) _ hx hy rfl rfl HFX.out HFY.out (by rw [HXY.out]; rfl)).mono ?_
    rintro e v4 ⟨rfl, hbn⟩
    replace ho2 := ho2.up hbn
    replace ho3 := ho3.up hbn
    replace hb1 := hb1.trans (hbn.mono hb1.size)
    clear hbn
    go_wp2_with fail
    refine (myCommon_at A2 A3 a b c2 c3 r _ ho2 ho3 (by omega) HF2.out HF3.out HRR.out).mono ?_
    rintro e v5 ⟨rfl, hbn⟩
    replace hb1 := hb1.trans (hbn.mono hb1.size)
    clear hbn
    go_wp2_with fail
    all_goals
      go_ret
      exact ⟨rfl, hb1⟩

end Go.Proofs.Ytmonemgjgcfhlaa
