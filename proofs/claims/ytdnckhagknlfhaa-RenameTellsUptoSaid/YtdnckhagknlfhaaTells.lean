/-
  collatorlaw02.Any: of raw items, at most fourteen, whatever they are together. Then collatorlaw08.RenameTells: it returns true, if the texts of the items that come in are of 1048576 bytes at most. Nothing that was there is changed.
-/
import Derived.Test.YtdnckhagknlfhaaTnPairs
import Derived.Test.YtdnckhagknlfhaaTree
import Derived.Lib.MinMax
namespace Go.Proofs.Ytdnckhagknlfhaa
open Go.RowKit

def AnyTold (w : World) (e : Ending) (w' : World) : Prop := ∃ (A : Option Addr) (c : Nat) (its : List It), e = .returned (.slice A its.length c) ∧ ItemsAt w' A its ∧ its.length ≤ 14 ∧ Fits its ∧ Below w.heap.size w w'

set_option maxHeartbeats 4000000 in
set_option maxRecDepth 100000 in
theorem any_any (A : Option Addr) (rs : List RawI) (n c : Nat) (w : World) (ha : RawsAt w A rs) (hn : rs.length = n) (h1 : n ≤ 140737488355328) :
    Calls Try.prog 10 #[.slice A n c] w (AnyTold w) := by
  subst hn
  have HA := Lib.hid ha
  clear ha
  go_enter Try.func10, Try.ntmps10
  go_wp2_with fail
  go_loopw [3, 4] (fun v i wr => ∃ (k : Nat) (L : List It), k ≤ rs.length ∧ k ≤ 14 ∧ L.length = k ∧ i = .int .i64 k ∧ OwnI w wr v L ∧ Hid (Fits L)) (fun _ i _ => 14 - (intOf i).toNat)
  case atStart => exact ⟨0, [], Nat.zero_le _, Nat.zero_le _, rfl, rfl, OwnI.nil w, Lib.hid (fun _ h => (by cases h))⟩
  case round =>
    obtain ⟨k, L, hk, hk14, hlk, rfl, hO, HF⟩ := hrel
    have HO := Lib.hid hO
    clear hO
    by_cases g1 : k < rs.length
    · by_cases g2 : k < 14
      · obtain ⟨x, hx⟩ : ∃ x, rs[k]? = some x := ⟨_, List.getElem?_eq_getElem g1⟩
        obtain ⟨a, rfl, hal, c0, c1', c2, c3, hok⟩ := (HA.out.up HO.out.2) k x hx
        have HOK := Lib.hid hok
        clear hx hok
        go_wp2_with fail
        refine (item_any x _ HOK.out).mono ?_
        rintro e w1 ⟨⟨it, rfl, hsm⟩, hB1⟩
        obtain ⟨s1, s2⟩ := hsm
        obtain ⟨N, hN⟩ : ∃ N, L.length + 1 = N := ⟨_, rfl⟩
        obtain ⟨A7, c7, W7, hrun7, hO7, _⟩ := (HO.out.up hB1).push it N hN (by omega)
        have HR7 := Lib.hid hrun7
        have HO7 := Lib.hid hO7
        have HF7 : Hid (Fits (L ++ [it])) := Lib.hid (HF.out.snoc (by omega) s2)
        clear hrun7 hO7 c0 c1' c2 c3 hal hB1 s1 s2
        go_wp2_with (at_builtin; refine wpList_append_run rfl rfl (by simp [Region.wanted]) rfl rfl HR7.out ?_)
        go_roundw
        case rel => exact ⟨k + 1, L ++ [it], by omega, by omega, by rw [List.length_append, List.length_singleton, hlk], by go_num, HO7.out, HF7⟩
        case measure => simp [intOf]; omega
      · obtain ⟨Av, cv, rfl⟩ := own_slice HO.out.1
        go_wp2_with fail
        go_ret
        exact ⟨Av, cv, L, rfl, ItemsAt.of_own HO.out.1 rfl, by omega, HF.out, HO.out.2⟩
    · obtain ⟨Av, cv, rfl⟩ := own_slice HO.out.1
      go_wp2_with fail
      go_ret
      exact ⟨Av, cv, L, rfl, ItemsAt.of_own HO.out.1 rfl, by omega, HF.out, HO.out.2⟩


theorem fits_fit {a : List It} (hl : a.length ≤ 14) (hf : Fits a) : FitI a := ⟨by omega, fun it hi => by have := hf it hi; omega⟩
theorem take_fit {x : List It} (n : Nat) (hn : n ≤ 6) (hf : ∀ it ∈ x, it.path.size ≤ 1048576 ∧ it.data.size ≤ 1048576) : FitI (x.take n) :=
  ⟨by rw [List.length_take]; omega, fun it hi => hf it (List.mem_of_mem_take hi)⟩
theorem both_fit {a x : List It} (h1 : FitI a) (h2 : FitI x) (hl : a.length + x.length ≤ 250) : FitI (a ++ x) :=
  ⟨by rw [List.length_append]; exact hl, fun it hi => (List.mem_append.1 hi).elim (h1.2 it) (h2.2 it)⟩

set_option maxHeartbeats 8000000 in
set_option maxRecDepth 100000 in
theorem rtells_any (A B C D : Option Addr) (n m lx ly c d cx cy : Nat) (X Y : List It) (th : Int) (w : World) (t1 : -9223372036854775808 ≤ th) (t2 : th ≤ 9223372036854775807)
    (ha : ∀ W, Below w.heap.size w W → Calls Try.prog 10 #[.slice A n c] W (AnyTold W)) (hb : ∀ W, Below w.heap.size w W → Calls Try.prog 10 #[.slice B m d] W (AnyTold W))
    (hX : ItemsAt w C X) (hY : ItemsAt w D Y) (hlx : X.length = lx) (hly : Y.length = ly) (hcx : lx ≤ cx) (hcy : ly ≤ cy) (hmx : cx ≤ maxLen) (hmy : cy ≤ maxLen)
    (hfx : ∀ it ∈ X, it.path.size ≤ 1048576 ∧ it.data.size ≤ 1048576) (hfy : ∀ it ∈ Y, it.path.size ≤ 1048576 ∧ it.data.size ≤ 1048576) :
    Calls Try.prog 3 #[.slice A n c, .slice B m d, .slice C lx cx, .slice D ly cy, .int .i64 th] w fun e w' => e = .returned (.bool true) ∧ Below w.heap.size w w' := by
  have HA := Lib.hid ha
  have HB := Lib.hid hb
  have HX0 := Lib.hid hX
  have HY0 := Lib.hid hY
  unfold maxLen at hmx hmy
  obtain ⟨nx, hnx⟩ : ∃ nx : Nat, min (lx : Int) 6 = (nx : Int) := ⟨min lx 6, by omega⟩
  obtain ⟨ny, hny⟩ : ∃ ny : Nat, min (ly : Int) 6 = (ny : Int) := ⟨min ly 6, by omega⟩
  have bx : nx ≤ 6 ∧ nx ≤ lx ∧ nx ≤ cx := by omega
  have by_ : ny ≤ 6 ∧ ny ≤ ly ∧ ny ≤ cy := by omega
  obtain ⟨bx1, bx2, bx3⟩ := bx
  obtain ⟨by1, by2, by3⟩ := by_
  obtain ⟨x, hx⟩ : ∃ x, x = X.take nx := ⟨_, rfl⟩
  obtain ⟨y, hy⟩ : ∃ y, y = Y.take ny := ⟨_, rfl⟩
  have HXL : Hid (x.length = nx) := Lib.hid (by rw [hx, List.length_take]; omega)
  have HYL : Hid (y.length = ny) := Lib.hid (by rw [hy, List.length_take]; omega)
  have HX := Lib.hid (show ItemsAt w C x by rw [hx]; exact hX.take nx)
  have HY := Lib.hid (show ItemsAt w D y by rw [hy]; exact hY.take ny)
  have HFX := Lib.hid (show FitI x by rw [hx]; exact take_fit nx bx1 hfx)
  have HFY := Lib.hid (show FitI y by rw [hy]; exact take_fit ny by1 hfy)
  clear ha hb hX hY hx hy hfx hfy hlx hly HX0 HY0
  go_enter Try.func3, Try.ntmps3
  go_wp2_with fail
  refine (awake_any _).mono ?_
  rintro e w1 ⟨rfl, hB1⟩
  have HB1 := Lib.hid hB1
  clear hB1
  go_wp2_with fail
  refine (HA.out _ HB1.out).mono ?_
  rintro e w2 ⟨A1, c1, a, rfl, hI1, hl1, hF1, hB2⟩
  have HI1 := Lib.hid hI1
  have HF1 := Lib.hid (fits_fit hl1 hF1)
  have HB2 := Lib.hid (HB1.out.trans (hB2.mono HB1.out.size))
  clear hI1 hF1 hB2
  go_wp2_with fail
  refine (HB.out _ HB2.out).mono ?_
  rintro e w3 ⟨A2, c2, b, rfl, hI2, hl2, hF2, hB3⟩
  have HI1' := Lib.hid (HI1.out.up hB3)
  have HI2 := Lib.hid hI2
  have HF2 := Lib.hid (fits_fit hl2 hF2)
  have HB3 := Lib.hid (HB2.out.trans (hB3.mono HB2.out.size))
  clear hI2 hF2 hB3 HI1 HA HB HB1 HB2
  go_wp2_with fail
  refine (pick11_any th 102 _ t1 t2 (by omega) (by omega)).mono ?_
  rintro e w4 ⟨rfl, rfl⟩
  obtain ⟨tp, htp⟩ : ∃ t : Int, pickI th 102 = t := ⟨_, rfl⟩
  rw [htp]
  clear htp
  go_wp2_with fail
  obtain ⟨ga, hga⟩ : ∃ ga : Addr, ga = ⟨w3.heap.size, 0, none⟩ := ⟨_, rfl⟩
  have hbx := Blk.new w3 3 #[.int .i64 th, .int .i64 tp]
  have hal : Below w3.heap.size w3 (w3.alloc (.cells #[.int .i64 th, .int .i64 tp] 3)) := (Below.refl _ _).alloc (Nat.le_refl _) _
  obtain ⟨w5, hw5⟩ : ∃ w5, w5 = w3.alloc (.cells #[.int .i64 th, .int .i64 tp] 3) := ⟨_, rfl⟩
  rw [← hw5] at hbx hal ⊢
  have HT : Hid (∀ k : Nat, k < 2 → ∃ t, ∀ W, Below w5.heap.size w5 W → W.cell? (ga.add k) = some (.int .i64 t)) := Lib.hid fun k hk => by
    have y0 := Blk.cell hbx 0
    have y1 := Blk.cell hbx 1
    have hlt := Blk.lt hbx
    rw [hga, add_zero_block]
    rcases (show k = 0 ∨ k = 1 by omega) with rfl | rfl
    · exact ⟨th, fun W hB => (hB.cell (p := ⟨_, _, none⟩) hlt).trans y0⟩
    · exact ⟨tp, fun W hB => (hB.cell (p := ⟨_, _, none⟩) hlt).trans y1⟩
  rw [← hga]
  have J1 := Lib.hid (HI1'.out.up hal)
  have J2 := Lib.hid (HI2.out.up hal)
  have JX := Lib.hid ((HX.out.up HB3.out).up hal)
  have JY := Lib.hid ((HY.out.up HB3.out).up hal)
  have JB := Lib.hid (HB3.out.trans (hal.mono HB3.out.size))
  clear hbx hal hw5 hga HI1' HI2 HX HY HB3
  obtain ⟨E, hE⟩ : ∃ E, E = a ++ x := ⟨_, rfl⟩
  have hEl : E.length ≤ 20 := by rw [hE, List.length_append, HXL.out]; omega
  have HEE := Lib.hid hE
  have HFE : Hid (FitI E) := Lib.hid (by rw [hE]; exact both_fit HF1.out HFX.out (by rw [HXL.out]; omega))
  clear hE
  go_loopw [38] (fun i wr => ∃ k : Nat, k ≤ 2 ∧ i = .int .i64 k ∧ Below w5.heap.size w5 wr) (fun i _ => 2 - (intOf i).toNat)
  case atStart => exact ⟨0, Nat.zero_le _, rfl, Below.refl _ _⟩
  case round =>
    obtain ⟨k, hk, rfl, hB⟩ := hrel
    have HB0 := Lib.hid hB
    clear hB
    by_cases g1 : k < 2
    case neg =>
      go_wp2_with fail
      go_ret
      exact ⟨rfl, JB.out.trans (HB0.out.mono JB.out.size)⟩
    obtain ⟨t, ht⟩ := HT.out k g1
    have hcell := ht _ HB0.out
    clear ht
    go_wp2_with fail
    refine (pairs_told A1 A2 a b a.length b.length c1 c2 t _ (J1.out.up HB0.out) (J2.out.up HB0.out) rfl rfl HF1.out HF2.out).mono ?_
    rintro e wa1 ⟨Aa1, ca1, La1, rfl, hPa, hLa, hBa, hla⟩
    have HB1a := Lib.hid (HB0.out.trans (hBa.mono HB0.out.size))
    have HP1 := Lib.hid hPa
    have HL1 := Lib.hid hLa
    have hla1 : La1.length ≤ 65536 := by have h1 := HXL.out; have h2 := HYL.out; omega
    clear hPa hLa hla
    go_wp2_with fail
    refine (rpairs_any A1 A2 a b a.length b.length c1 c2 t _ (J1.out.up HB1a.out) (J2.out.up HB1a.out) rfl rfl HF1.out HF2.out).mono ?_
    rintro e wb1 ⟨v, Lb1, rfl, hO, hPb⟩
    have hLL : Lb1 = La1 := hPb.unique HP1.out
    subst hLL
    obtain ⟨Ab1, cb1, rfl⟩ := own_slice hO.1
    have HM1 := Lib.hid (PrsAt.of_own hO.1 rfl)
    have HN1 := Lib.hid ((HL1.out).up hO.2)
    have HB1b := Lib.hid (HB1a.out.trans (hO.2.mono HB1a.out.size))
    clear hPb hO hBa
    go_wp2_with fail
    refine (same_true Aa1 Ab1 Lb1 Lb1.length Lb1.length ca1 cb1 _ HN1.out HM1.out rfl rfl (by omega)).mono ?_
    rintro e wc1 ⟨rfl, q1, rfl⟩
    obtain ⟨wd1, hwd⟩ : ∃ wd, wd = wb1.drewN q1 := ⟨_, rfl⟩
    have HB1c : Hid (Below w5.heap.size w5 wd1) := Lib.hid (by rw [hwd]; exact below_drewN HB1b.out q1)
    rw [← hwd]
    clear hwd HB1a HB1b HP1 HL1 HM1 HN1
    go_wp2_with fail
    refine (pairs_told C D x y nx ny cx cy t _ (JX.out.up HB1c.out) (JY.out.up HB1c.out) HXL.out HYL.out HFX.out HFY.out).mono ?_
    rintro e wa2 ⟨Aa2, ca2, La2, rfl, hPa, hLa, hBa, hla⟩
    have HB2a := Lib.hid (HB1c.out.trans (hBa.mono HB1c.out.size))
    have HP2 := Lib.hid hPa
    have HL2 := Lib.hid hLa
    have hla2 : La2.length ≤ 65536 := by have h1 := HXL.out; have h2 := HYL.out; omega
    clear hPa hLa hla
    go_wp2_with fail
    refine (rpairs_any C D x y nx ny cx cy t _ (JX.out.up HB2a.out) (JY.out.up HB2a.out) HXL.out HYL.out HFX.out HFY.out).mono ?_
    rintro e wb2 ⟨v, Lb2, rfl, hO, hPb⟩
    have hLL : Lb2 = La2 := hPb.unique HP2.out
    subst hLL
    obtain ⟨Ab2, cb2, rfl⟩ := own_slice hO.1
    have HM2 := Lib.hid (PrsAt.of_own hO.1 rfl)
    have HN2 := Lib.hid ((HL2.out).up hO.2)
    have HB2b := Lib.hid (HB2a.out.trans (hO.2.mono HB2a.out.size))
    clear hPb hO hBa
    go_wp2_with fail
    refine (same_true Aa2 Ab2 Lb2 Lb2.length Lb2.length ca2 cb2 _ HN2.out HM2.out rfl rfl (by omega)).mono ?_
    rintro e wc2 ⟨rfl, q2, rfl⟩
    obtain ⟨wd2, hwd⟩ : ∃ wd, wd = wb2.drewN q2 := ⟨_, rfl⟩
    have HB2c : Hid (Below w5.heap.size w5 wd2) := Lib.hid (by rw [hwd]; exact below_drewN HB2b.out q2)
    rw [← hwd]
    clear hwd HB2a HB2b HP2 HL2 HM2 HN2
    obtain ⟨A51, c51, w51, hr51, ho51⟩ := append_items (OwnI.nil wd2) a.length c1 (J1.out.up HB2c.out) rfl a (by simp) (by omega)
    obtain ⟨A61, c61, w61, hr61, ho61⟩ := append_items ho51 nx cx ((JX.out.up HB2c.out).up ho51.2) HXL.out E HEE.out (by omega)
    have HR51 := Lib.hid hr51
    have HR61 := Lib.hid hr61
    have HE61 := Lib.hid (ItemsAt.of_own ho61.1 rfl)
    have HO61 := Lib.hid ho61.2
    clear hr51 hr61 ho51 ho61
    go_wp2_with (at_builtin; first | refine wpList_append_run (o := ⟨some 66, _, _, _, _, _⟩) rfl rfl (by rfl) rfl rfl HR51.out ?_ | refine wpList_append_run (o := ⟨some 68, _, _, _, _, _⟩) rfl rfl (by rfl) rfl rfl HR61.out ?_)
    have HB2m := Lib.hid (HB2c.out.trans (HO61.out.mono HB2c.out.size))
    refine (pairs_told A61 A2 E b E.length b.length c61 c2 t _ (HE61.out) (J2.out.up HB2m.out) rfl rfl HFE.out HF2.out).mono ?_
    rintro e wa3 ⟨Aa3, ca3, La3, rfl, hPa, hLa, hBa, hla⟩
    have HB3a := Lib.hid (HB2m.out.trans (hBa.mono HB2m.out.size))
    have HP3 := Lib.hid hPa
    have HL3 := Lib.hid hLa
    have hla3 : La3.length ≤ 65536 := by have h1 := HXL.out; have h2 := HYL.out; omega
    clear hPa hLa hla
    obtain ⟨A7, c7, w7, hr7, ho7⟩ := append_items (OwnI.nil wa3) a.length c1 (J1.out.up HB3a.out) rfl a (by simp) (by omega)
    obtain ⟨A8, c8, w8, hr8, ho8⟩ := append_items ho7 nx cx ((JX.out.up HB3a.out).up ho7.2) HXL.out E HEE.out (by omega)
    have HR7 := Lib.hid hr7
    have HR8 := Lib.hid hr8
    have HE8 := Lib.hid (ItemsAt.of_own ho8.1 rfl)
    have HO8 := Lib.hid ho8.2
    clear hr7 hr8 ho7 ho8
    go_wp2_with (at_builtin; first | refine wpList_append_run (o := ⟨some 73, _, _, _, _, _⟩) rfl rfl (by rfl) rfl rfl HR7.out ?_ | refine wpList_append_run (o := ⟨some 75, _, _, _, _, _⟩) rfl rfl (by rfl) rfl rfl HR8.out ?_)
    have HB3m := Lib.hid (HB3a.out.trans (HO8.out.mono HB3a.out.size))
    have HLm := Lib.hid (HL3.out.up HO8.out)
    refine (rpairs_any A8 A2 E b E.length b.length c8 c2 t _ (HE8.out) (J2.out.up HB3m.out) rfl rfl HFE.out HF2.out).mono ?_
    rintro e wb3 ⟨v, Lb3, rfl, hO, hPb⟩
    have hLL : Lb3 = La3 := hPb.unique HP3.out
    subst hLL
    obtain ⟨Ab3, cb3, rfl⟩ := own_slice hO.1
    have HM3 := Lib.hid (PrsAt.of_own hO.1 rfl)
    have HN3 := Lib.hid ((HLm.out).up hO.2)
    have HB3b := Lib.hid (HB3m.out.trans (hO.2.mono HB3m.out.size))
    clear hPb hO hBa
    go_wp2_with fail
    refine (same_true Aa3 Ab3 Lb3 Lb3.length Lb3.length ca3 cb3 _ HN3.out HM3.out rfl rfl (by omega)).mono ?_
    rintro e wc3 ⟨rfl, q3, rfl⟩
    obtain ⟨wd3, hwd⟩ : ∃ wd, wd = wb3.drewN q3 := ⟨_, rfl⟩
    have HB3c : Hid (Below w5.heap.size w5 wd3) := Lib.hid (by rw [hwd]; exact below_drewN HB3b.out q3)
    rw [← hwd]
    clear hwd HB3a HB3b HP3 HL3 HM3 HN3
    go_wp2_with fail
    go_roundw
    case rel => exact ⟨k + 1, by omega, by go_num, HB3c.out⟩
    case measure => simp [intOf]; omega

end Go.Proofs.Ytdnckhagknlfhaa
