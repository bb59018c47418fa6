/-
  collatorlaw05.MyersTurned: whatever the raw numbers, it returns true; nothing that was there is changed.
-/
import Derived.Test.YtmonemgjgcfhlaaAwake
import Derived.Test.YtmonemgjgcfhlaaBack
import Derived.Test.YtmonemgjgcfhlaaApp
namespace Go.Proofs.Ytmonemgjgcfhlaa
open Go.RowKit

theorem up_of' {w w' : World} {A : Option Addr} {zs : List Int} (h : Ints w w.heap.size A zs) (hb : Below w.heap.size w w') : Ints w' w'.heap.size A zs := (h.below hb).more hb.size
theorem texts_at (A B : Option Addr) (ss ts : List ByteArray) (c d : Nat) (r : Bool) (w : World) (ha : Strs w w.heap.size A ss) (hb : Strs w w.heap.size B ts) (h1 : ss.length ≤ 140737488355328) (hr : decide (ss = ts) = r) :
    Calls Try.prog 20 #[.slice A ss.length c, .slice B ts.length d] w fun e w' => e = .returned (.bool r) ∧ Below w.heap.size w w' := by
  subst hr
  refine (texts_any A B ss ts c d _ w ha hb h1).mono ?_
  rintro e w' ⟨rfl, n, rfl⟩
  exact ⟨rfl, below_drewN (Below.refl _ _) n⟩

set_option maxHeartbeats 1000000 in
set_option maxRecDepth 100000 in
theorem turned_walk (A B C : Option Addr) (xs ys zs : List Int) (ca cb cc : Nat) (w : World) (ha : Ints w w.heap.size A xs) (hb : Ints w w.heap.size B ys) (hc : Ints w w.heap.size C zs) (h1 : xs.length ≤ 140737488355328) (h2 : ys.length ≤ 140737488355328) (h3 : zs.length ≤ 140737488355328)
    (hx : ∀ z ∈ xs, -9223372036854775808 ≤ z ∧ z ≤ 9223372036854775807) (hy : ∀ z ∈ ys, -9223372036854775808 ≤ z ∧ z ≤ 9223372036854775807) (hz : ∀ z ∈ zs, -9223372036854775808 ≤ z ∧ z ≤ 9223372036854775807) :
    Calls Try.prog 4 #[.slice A xs.length ca, .slice B ys.length cb, .slice C zs.length cc] w fun e w' => e = .returned (.bool true) ∧ Below w.heap.size w w' := by
  have HX := Lib.hid hx
  have HY := Lib.hid hy
  have HZ := Lib.hid hz
  clear hx hy hz
  go_enter Try.func4, Try.ntmps4
  go_wp2_with fail
  refine (awake_any _).mono ?_
  rintro e w1 ⟨rfl, hb1⟩
  go_wp2_with fail
  refine (lines_at 30 30 rfl (by omega) (by omega) _ xs _ _ (up_of' ha hb1) h1 HX.out).mono ?_
  rintro e w2 ⟨A2, c2, rfl, ho2, hc2, hbn⟩
  replace hb1 := hb1.trans (hbn.mono hb1.size)
  clear hbn
  go_wp2_with fail
  refine (lines_at 30 30 rfl (by omega) (by omega) _ ys _ _ (up_of' hb hb1) h2 HY.out).mono ?_
  rintro e w3 ⟨A3, c3, rfl, ho3, hc3, hbn⟩
  replace hb1 := hb1.trans (hbn.mono hb1.size)
  replace ho2 := ho2.up2 hbn
  clear hbn
  go_wp2_with fail
  refine (lines_at 30 30 rfl (by omega) (by omega) _ zs _ _ (up_of' hc hb1) h3 HZ.out).mono ?_
  rintro e w4 ⟨A4, c4, rfl, ho4, hc4, hbn⟩
  replace hb1 := hb1.trans (hbn.mono hb1.size)
  replace ho2 := ho2.up2 hbn
  replace ho3 := ho3.up2 hbn
  clear hbn
  have hl2 := lines_len 30 xs
  have hl3 := lines_len 30 ys
  have hl4 := lines_len 30 zs
  have HF2 := Lib.hid (lines_fit (m := 30) xs)
  have HF3 := Lib.hid (lines_fit (m := 30) ys)
  have HF4 := Lib.hid (lines_fit (m := 30) zs)
  generalize linesL 30 xs = a at *
  generalize linesL 30 ys = b at *
  generalize linesL 30 zs = c at *
  clear ha hb hc HX HY HZ
  obtain ⟨n, hn⟩ : ∃ n, n = Pm.ed a b := ⟨_, rfl⟩
  obtain ⟨x, hx⟩ : ∃ x, x = Pm.ed a c := ⟨_, rfl⟩
  obtain ⟨y, hy⟩ : ∃ y, y = Pm.ed b c := ⟨_, rfl⟩
  have hnt : n ≤ a.length + b.length := by rw [hn]; exact Pm.ed_top a b
  have hxt : x ≤ a.length + c.length := by rw [hx]; exact Pm.ed_top a c
  have hyt : y ≤ b.length + c.length := by rw [hy]; exact Pm.ed_top b c
  have hxy : x ≤ n + y := by rw [hx, hn, hy]; exact Pm.ed_tri a b c
  have hxy' : (x : Int) ≤ (n : Int) + (y : Int) := by omega
  have hnt' : (n : Int) ≤ (a.length : Int) + (b.length : Int) := by omega
  have hpar := Pm.ed_parity a b
  rw [← hn] at hpar
  have p1 : (((n : Int) % 2 == ((a.length : Int) + (b.length : Int)) % 2) : Bool) = true := by rw [beq_iff_eq]; omega
  have HN := Lib.hid hn
  have HXX := Lib.hid hx
  have HYY := Lib.hid hy
  obtain ⟨r, hr⟩ : ∃ r : Bool, decide (a = b) = r := ⟨_, rfl⟩
  have f0 : (((n : Int) == 0) : Bool) = r := by
    rw [← hr, Bool.eq_iff_iff]
    simp only [beq_iff_eq, decide_eq_true_eq]
    rw [HN.out]
    constructor
    · intro h; exact Pm.ed_zero (by omega)
    · intro h; rw [h, Pm.ed_self]; rfl
  have HR := Lib.hid hr
  clear hn hx hy hr hpar
  go_wp2_with fail
  refine (cost_at' A2 A3 a b a.length b.length c2 c3 (n : Int) _ ho2 ho3 rfl rfl (by omega) HF2.out HF3.out (by rw [HN.out])).mono ?_
  rintro e v1 ⟨rfl, hbn⟩
  replace ho2 := ho2.up2 hbn
  replace ho3 := ho3.up2 hbn
  replace ho4 := ho4.up2 hbn
  replace hb1 := hb1.trans (hbn.mono hb1.size)
  clear hbn
  go_wp2_with fail
  refine (cost_at' A3 A2 b a b.length a.length c3 c2 (n : Int) _ ho3 ho2 rfl rfl (by omega) HF3.out HF2.out (by rw [HN.out, Pm.ed_turn])).mono ?_
  rintro e v2 ⟨rfl, hbn⟩
  replace ho2 := ho2.up2 hbn
  replace ho3 := ho3.up2 hbn
  replace ho4 := ho4.up2 hbn
  replace hb1 := hb1.trans (hbn.mono hb1.size)
  clear hbn
  go_wp2_with fail
  refine (back_any A2 a c2 _ ho2 (by omega)).mono ?_
  rintro e v3 ⟨A5, c5, rfl, ho5, hbn⟩
  replace ho2 := ho2.up2 hbn
  replace ho3 := ho3.up2 hbn
  replace ho4 := ho4.up2 hbn
  replace hb1 := hb1.trans (hbn.mono hb1.size)
  clear hbn
  go_wp2_with fail
  refine (back_any A3 b c3 _ ho3 (by omega)).mono ?_
  rintro e v4 ⟨A6, c6, rfl, ho6, hbn⟩
  replace ho2 := ho2.up2 hbn
  replace ho3 := ho3.up2 hbn
  replace ho4 := ho4.up2 hbn
  replace ho5 := ho5.up2 hbn
  replace hb1 := hb1.trans (hbn.mono hb1.size)
  clear hbn
  go_wp2_with fail
  refine (cost_at' A5 A6 a.reverse b.reverse a.length b.length c5 c6 (n : Int) _ ho5 ho6 (by rw [List.length_reverse]) (by rw [List.length_reverse]) (by omega) (fun s hs => HF2.out s (List.mem_reverse.1 hs)) (fun s hs => HF3.out s (List.mem_reverse.1 hs)) (by rw [HN.out, Pm.ed_back])).mono ?_
  rintro e v5 ⟨rfl, hbn⟩
  replace ho2 := ho2.up2 hbn
  replace ho3 := ho3.up2 hbn
  replace ho4 := ho4.up2 hbn
  replace hb1 := hb1.trans (hbn.mono hb1.size)
  clear hbn ho5 ho6
  go_wp2_with fail
  refine (cost_at' A2 A2 a a a.length a.length c2 c2 0 _ ho2 ho2 rfl rfl (by omega) HF2.out HF2.out (by rw [Pm.ed_self]; rfl)).mono ?_
  rintro e v6 ⟨rfl, hbn⟩
  replace ho2 := ho2.up2 hbn
  replace ho3 := ho3.up2 hbn
  replace ho4 := ho4.up2 hbn
  replace hb1 := hb1.trans (hbn.mono hb1.size)
  clear hbn
  go_wp2_with fail
  refine (texts_at A2 A3 a b c2 c3 r _ ho2 ho3 (by omega) HR.out).mono ?_
  rintro e v7 ⟨rfl, hbn⟩
  replace ho2 := ho2.up2 hbn
  replace ho3 := ho3.up2 hbn
  replace ho4 := ho4.up2 hbn
  replace hb1 := hb1.trans (hbn.mono hb1.size)
  clear hbn
  go_wp2_with fail
  refine (cost_at' A2 A4 a c a.length c.length c2 c4 (x : Int) _ ho2 ho4 rfl rfl (by omega) HF2.out HF4.out (by rw [HXX.out])).mono ?_
  rintro e v8 ⟨rfl, hbn⟩
  replace ho2 := ho2.up2 hbn
  replace ho3 := ho3.up2 hbn
  replace ho4 := ho4.up2 hbn
  replace hb1 := hb1.trans (hbn.mono hb1.size)
  clear hbn
  go_wp2_with fail
  refine (cost_at' A3 A4 b c b.length c.length c3 c4 (y : Int) _ ho3 ho4 rfl rfl (by omega) HF3.out HF4.out (by rw [HYY.out])).mono ?_
  rintro e v9 ⟨rfl, hbn⟩
  replace hb1 := hb1.trans (hbn.mono hb1.size)
  clear hbn
  go_wp2_with fail
  go_ret
  exact ⟨rfl, hb1⟩

end Go.Proofs.Ytmonemgjgcfhlaa
