/-
  collatorlaw07.AlikeTwice: whatever the raw numbers, it returns true; nothing that was there is changed.
-/
import Derived.Test.YthnjbiojimjlgaaAppend
namespace Go.Proofs.Ythnjbiojimjlgaa
open Go.RowKit
open Al

/-- a line that is nowhere else -/
def nw : ByteArray := ⟨#[110, 111, 119, 104, 101, 114, 101, 32, 101, 108, 115, 101, 10]⟩
theorem nw_not {m : Nat} {zs : List Int} {k : Nat} : ∀ y ∈ List.replicate k nw, y ∉ linesL m zs := by
  intro y hy h
  obtain ⟨_, rfl⟩ := List.mem_replicate.1 hy
  have h1 := lines_size h
  exact absurd h1 (by decide)
/-- how the law's loop stands -/
def TwAt (w7 wr : World) (a : List ByteArray) (k : Nat) (v : Value) : Prop := Own w7 wr v (a ++ List.replicate k nw)

set_option maxHeartbeats 600000 in
set_option maxRecDepth 100000 in
theorem twice_walk (A B : Option Addr) (zs ts : List Int) (c d : Nat) (more : Int) (w : World) (ha : Ints w w.heap.size A zs) (hb : Ints w w.heap.size B ts) (h1 : zs.length ≤ 140737488355328) (h2 : ts.length ≤ 140737488355328)
    (hz : ∀ z ∈ zs, -9223372036854775808 ≤ z ∧ z ≤ 9223372036854775807) (ht : ∀ z ∈ ts, -9223372036854775808 ≤ z ∧ z ≤ 9223372036854775807) (hm1 : -9223372036854775808 ≤ more) (hm2 : more ≤ 9223372036854775807) :
    Calls Try.prog 7 #[.slice A zs.length c, .slice B ts.length d, .int .i64 more] w fun e w' => e = .returned (.bool true) ∧ Below w.heap.size w w' := by
  have HZ := Lib.hid hz
  have HT := Lib.hid ht
  clear hz ht
  go_enter Try.func7, Try.ntmps7
  go_wp2_with fail
  refine (awake_any _).mono ?_
  rintro e w1 ⟨rfl, hb1⟩
  go_wp2_with fail
  refine (lines_at 20 20 rfl (by omega) (by omega) _ zs _ _ (ha.up hb1) h1 HZ.out).mono ?_
  rintro e w2 ⟨A2, c2, rfl, ho2, hc2, hb2⟩
  replace hb1 := hb1.trans (hb2.mono hb1.size)
  go_wp2_with fail
  refine (lines_at 20 20 rfl (by omega) (by omega) _ ts _ _ (hb.up hb1) h2 HT.out).mono ?_
  rintro e w3 ⟨A3, c3, rfl, ho3, hc3, hb3⟩
  replace hb1 := hb1.trans (hb3.mono hb1.size)
  replace ho2 := ho2.up hb3
  have hl2 := lines_len 20 zs
  have hl3 := lines_len 20 ts
  have HF2 := Lib.hid (lines_fit (m := 20) (by omega) zs)
  have HF3 := Lib.hid (lines_fit (m := 20) (by omega) ts)
  have HN := Lib.hid (fun k => @nw_not 20 ts k)
  generalize linesL 20 zs = a at *
  generalize linesL 20 ts = b at *
  clear hb2 hb3 ha hb HZ HT
  -- x
  obtain ⟨X, hX⟩ : ∃ X, X = a ++ a := ⟨_, rfl⟩
  have hXl : X.length ≤ 40 := by rw [hX, List.length_append]; omega
  obtain ⟨A4, c4, w4, hr4, ho4⟩ := append_own (Own.nil w3) a.length c2 ho2 rfl a rfl (by omega)
  have hs4 := ho2.below ho4.2
  obtain ⟨A5, c5, w5, hr5, ho5⟩ := append_own ho4 a.length c2 hs4 rfl X hX (by omega)
  have HR4 := Lib.hid hr4
  have HR5 := Lib.hid hr5
  have HX := Lib.hid hX
  have hbx := ho5.2
  replace ho2 := ho2.up hbx
  replace ho3 := ho3.up hbx
  replace hb1 := hb1.trans (hbx.mono hb1.size)
  have hx := ho5.strs
  clear hr4 hr5 hX ho4 hs4 ho5 hbx
  -- y
  obtain ⟨Y, hY⟩ : ∃ Y, Y = b ++ b := ⟨_, rfl⟩
  have hYl : Y.length ≤ 40 := by rw [hY, List.length_append]; omega
  obtain ⟨A6, c6, w6, hr6, ho6⟩ := append_own (Own.nil w5) b.length c3 ho3 rfl b rfl (by omega)
  have hs6 := ho3.below ho6.2
  obtain ⟨A7, c7, w7, hr7, ho7⟩ := append_own ho6 b.length c3 hs6 rfl Y hY (by omega)
  have HR6 := Lib.hid hr6
  have HR7 := Lib.hid hr7
  have HY := Lib.hid hY
  have hbx := ho7.2
  replace ho2 := ho2.up hbx
  replace ho3 := ho3.up hbx
  replace hx := hx.up hbx
  replace hb1 := hb1.trans (hbx.mono hb1.size)
  have hy := ho7.strs
  clear hr6 hr7 hY ho6 hs6 ho7 hbx
  -- c
  obtain ⟨A8, c8, w8, hr8, ho8⟩ := append_own (Own.nil w7) a.length c2 ho2 rfl a rfl (by omega)
  have HR8 := Lib.hid hr8
  clear hr8
  have hp := pickI_range more 5 (by omega)
  obtain ⟨hp0, hp1⟩ := hp
  go_wp2_with (first
    | (at_builtin; refine wpList_append_run (o := ⟨some 20, _, _, _, _, _⟩) rfl rfl (by simp [Region.wanted]) rfl rfl HR4.out ?_)
    | (at_builtin; refine wpList_append_run (o := ⟨some 22, _, _, _, _, _⟩) rfl rfl (by simp [Region.wanted]) rfl rfl HR5.out ?_)
    | (at_builtin; refine wpList_append_run (o := ⟨some 24, _, _, _, _, _⟩) rfl rfl (by simp [Region.wanted]) rfl rfl HR6.out ?_)
    | (at_builtin; refine wpList_append_run (o := ⟨some 26, _, _, _, _, _⟩) rfl rfl (by simp [Region.wanted]) rfl rfl HR7.out ?_)
    | (at_builtin; refine wpList_append_run (o := ⟨some 28, _, _, _, _, _⟩) rfl rfl (by simp [Region.wanted]) rfl rfl HR8.out ?_))
  clear HR4 HR5 HR6 HR7 HR8
  go_loopw [12, 13] (fun v i wr => ∃ k : Nat, (k : Int) ≤ pickI more 5 ∧ i = .int .i64 k ∧ TwAt w7 wr a k v) (fun _ i _ => (pickI more 5).toNat - (intOf i).toNat)
  case atStart => exact ⟨0, by omega, rfl, by unfold TwAt; simpa using ho8⟩
  case round =>
    obtain ⟨k, hk, rfl, hT⟩ := hrel
    clear ho8
    obtain ⟨C, hC⟩ : ∃ C, C = a ++ List.replicate k nw := ⟨_, rfl⟩
    unfold TwAt at hT
    rw [← hC] at hT
    have hCl : C.length ≤ 30 := by rw [hC, List.length_append, List.length_replicate]; omega
    obtain ⟨Ac, cc, rfl, hcc⟩ := hT.shape
    by_cases g1 : (k : Int) < pickI more 5
    · obtain ⟨C', hC'⟩ : ∃ C', C' = C ++ [nw] := ⟨_, rfl⟩
      have hC'l : C'.length ≤ 31 := by rw [hC', List.length_append]; simp; omega
      obtain ⟨Ad, cd, wd, hrd, hod⟩ := append_own (hT.alloc (.cells #[.string nw] 9)) 1 1 (strs_new wr [nw]) rfl C' hC' (by omega)
      have HRD := Lib.hid hrd
      have HE : Hid (C' = a ++ List.replicate (k + 1) nw) := Lib.hid (by rw [hC', hC, List.replicate_succ', List.append_assoc])
      clear hrd hC hC'
      go_wp2_with (first
        | (go_at_call 16; refine (pick7_any _ _ _ hm1 hm2 (by omega) (by omega)).mono ?_; rintro e w' ⟨rfl, rfl⟩)
        | (at_builtin; refine wpList_append_run (o := ⟨some 37, _, _, _, _, _⟩) rfl rfl (by simp [Region.wanted]) rfl rfl HRD.out ?_))
      go_roundw
      case rel => exact ⟨k + 1, by omega, by go_num, by unfold TwAt; rw [← HE.out]; exact hod⟩
      case measure => simp [intOf]; omega
    · have HC := Lib.hid hC
      clear hC
      have hbx := hT.2
      replace ho2 := ho2.up hbx
      replace ho3 := ho3.up hbx
      replace hx := hx.up hbx
      replace hy := hy.up hbx
      replace hb1 := hb1.trans (hbx.mono hb1.size)
      have hco := hT.strs
      have HFX : Hid (Fit X) := Lib.hid ⟨by omega, by rw [HX.out]; intro s hs; rcases List.mem_append.1 hs with h | h <;> exact HF2.out.2 s h⟩
      have HFY : Hid (Fit Y) := Lib.hid ⟨by omega, by rw [HY.out]; intro s hs; rcases List.mem_append.1 hs with h | h <;> exact HF3.out.2 s h⟩
      have HFC : Hid (Fit C) := Lib.hid ⟨by omega, by rw [HC.out]; intro s hs; rcases List.mem_append.1 hs with h | h; · exact HF2.out.2 s h
                                                      · obtain ⟨_, rfl⟩ := List.mem_replicate.1 h; decide⟩
      have f3 : decide (score C b ≤ score a b) = true := by rw [HC.out]; exact decide_eq_true (score_more (HN.out k))
      have e4 : cm C b = cm a b := by rw [HC.out]; exact cm_more (HN.out k)
      have E4 := Lib.hid e4
      have hcm := cm_le_left a b
      clear e4 hT hbx
      go_wp2_with (go_at_call 16; refine (pick7_any _ _ _ hm1 hm2 (by omega) (by omega)).mono ?_; rintro e w' ⟨rfl, rfl⟩)
      refine (common_at A5 A7 X Y X.length Y.length c5 c7 (2 * (cm a b : Int)) _ hx hy rfl rfl HFX.out HFY.out (by rw [HX.out, HY.out, cm_twice]; omega)).mono ?_
      rintro e v1 ⟨rfl, hbn⟩
      replace hx := hx.up hbn
      replace hy := hy.up hbn
      replace ho2 := ho2.up hbn
      replace ho3 := ho3.up hbn
      replace hco := hco.up hbn
      replace hb1 := hb1.trans (hbn.mono hb1.size)
      clear hbn
      go_wp2_with fail
      refine (common_at A2 A3 a b a.length b.length c2 c3 (cm a b : Int) _ ho2 ho3 rfl rfl HF2.out HF3.out rfl).mono ?_
      rintro e v2 ⟨rfl, hbn⟩
      replace hx := hx.up hbn
      replace hy := hy.up hbn
      replace ho2 := ho2.up hbn
      replace ho3 := ho3.up hbn
      replace hco := hco.up hbn
      replace hb1 := hb1.trans (hbn.mono hb1.size)
      clear hbn
      go_wp2_with fail
      refine (score_at A5 A7 X Y X.length Y.length c5 c7 (score a b : Int) _ hx hy rfl rfl HFX.out HFY.out (by rw [HX.out, HY.out, score_twice])).mono ?_
      rintro e v3 ⟨rfl, hbn⟩
      replace hx := hx.up hbn
      replace hy := hy.up hbn
      replace ho2 := ho2.up hbn
      replace ho3 := ho3.up hbn
      replace hco := hco.up hbn
      replace hb1 := hb1.trans (hbn.mono hb1.size)
      clear hbn
      go_wp2_with fail
      refine (score_at A2 A3 a b a.length b.length c2 c3 (score a b : Int) _ ho2 ho3 rfl rfl HF2.out HF3.out rfl).mono ?_
      rintro e v4 ⟨rfl, hbn⟩
      replace hx := hx.up hbn
      replace hy := hy.up hbn
      replace ho2 := ho2.up hbn
      replace ho3 := ho3.up hbn
      replace hco := hco.up hbn
      replace hb1 := hb1.trans (hbn.mono hb1.size)
      clear hbn
      go_wp2_with fail
      refine (score_at Ac A3 C b C.length b.length cc c3 (score C b : Int) _ hco ho3 rfl rfl HFC.out HF3.out rfl).mono ?_
      rintro e v5 ⟨rfl, hbn⟩
      replace hx := hx.up hbn
      replace hy := hy.up hbn
      replace ho2 := ho2.up hbn
      replace ho3 := ho3.up hbn
      replace hco := hco.up hbn
      replace hb1 := hb1.trans (hbn.mono hb1.size)
      clear hbn
      go_wp2_with fail
      refine (score_at A2 A3 a b a.length b.length c2 c3 (score a b : Int) _ ho2 ho3 rfl rfl HF2.out HF3.out rfl).mono ?_
      rintro e v6 ⟨rfl, hbn⟩
      replace hx := hx.up hbn
      replace hy := hy.up hbn
      replace ho2 := ho2.up hbn
      replace ho3 := ho3.up hbn
      replace hco := hco.up hbn
      replace hb1 := hb1.trans (hbn.mono hb1.size)
      clear hbn
      go_wp2_with fail
      refine (common_at Ac A3 C b C.length b.length cc c3 (cm a b : Int) _ hco ho3 rfl rfl HFC.out HF3.out (by rw [E4.out])).mono ?_
      rintro e v7 ⟨rfl, hbn⟩
      replace hx := hx.up hbn
      replace hy := hy.up hbn
      replace ho2 := ho2.up hbn
      replace ho3 := ho3.up hbn
      replace hco := hco.up hbn
      replace hb1 := hb1.trans (hbn.mono hb1.size)
      clear hbn
      go_wp2_with fail
      refine (common_at A2 A3 a b a.length b.length c2 c3 (cm a b : Int) _ ho2 ho3 rfl rfl HF2.out HF3.out rfl).mono ?_
      rintro e v8 ⟨rfl, hbn⟩
      replace hb1 := hb1.trans (hbn.mono hb1.size)
      clear hbn
      go_wp2_with fail
      go_ret
      exact ⟨rfl, hb1⟩

end Go.Proofs.Ythnjbiojimjlgaa
