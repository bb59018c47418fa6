/-
  collatorlaw15.FlightApart returns true: what is done for other texts, by others, changes nothing of a fill; who has begun, and is done, or has left, may begin again. Nothing that was there is changed.
-/
import Derived.Test.YtllkegonhghkcaaApp
import Derived.IntWalk
namespace Go.Proofs.Ytllkegonhghkcaa
open Go.RowKit P15

theorem text_v (k : Int) (l : ByteArray) (h : textOf k = l) (w : World) (hk : I64 k) : Calls Try.prog 13 #[.int .i64 k] w fun e w' => e = .returned (.string l) ∧ Below w.heap.size w w' := by
  subst h; exact text_any k w hk

set_option maxHeartbeats 16000000 in
set_option maxRecDepth 100000 in
theorem apart_any (A : Option Addr) (zs : List Tri) (n c : Nat) (k0 k1 : Int) (w : World) (ha : TrisAt w A zs) (hn : zs.length = n) (h1 : n ≤ 9223372036854775807) (hf : ∀ z ∈ zs, TriFit z) (hk0 : I64 k0) (hk1 : I64 k1) :
    Calls Try.prog 5 #[.slice A n c, .agg #[.int .i64 k0, .int .i64 k1]] w fun e w' => e = .returned (.bool true) ∧ Below w.heap.size w w' := by
  subst hn
  have HA := Lib.hid ha
  have HZ := Lib.hid hf
  have HK0 := Lib.hid hk0
  have HK1 := Lib.hid hk1
  obtain ⟨l, hl⟩ : ∃ l, textOf k0 = l := ⟨_, rfl⟩
  obtain ⟨r, hr⟩ : ∃ r, textOf k1 = r := ⟨_, rfl⟩
  have HL := Lib.hid hl
  have HR := Lib.hid hr
  have HLS : Hid (Txt l) := Lib.hid (by rw [← hl]; exact textOf_txt _)
  have HRS : Hid (Txt r) := Lib.hid (by rw [← hr]; exact textOf_txt _)
  have hl2 : l.size ≤ 2 := by rw [← hl]; exact textOf_size _
  have hr2 : r.size ≤ 2 := by rw [← hr]; exact textOf_size _
  obtain ⟨F, hF⟩ : ∃ F, F = fillsOf zs := ⟨_, rfl⟩
  have HGF : Hid (GoodF F) := Lib.hid (by rw [hF]; exact fillsOf_good zs)
  obtain ⟨a, G, hbg⟩ := began HGF.out (l := l) (r := r) hl2 hr2 (who := 50) (by omega) (by omega)
  have HBG := Lib.hid hbg
  clear ha hf hk0 hk1 hl hr hl2 hr2 hbg
  go_enter Try.func5, Try.ntmps5
  go_upto_region 1 with (fail)
  obtain ⟨gk, w1, hgk, hw1, hbk, hbe1⟩ := box_new w 24 #[.int .i64 k0, .int .i64 k1]
  rw [← hw1, ← hgk]
  have HKC : Hid (∀ W, Below w1.heap.size w1 W → W.cell? ⟨gk, 0, none⟩ = some (.int .i64 k0) ∧ W.cell? ⟨gk, 1, none⟩ = some (.int .i64 k1)) := Lib.hid fun W hW => ⟨(Blk.below hbk hW hbk.lt).cell 0, (Blk.below hbk hW hbk.lt).cell 1⟩
  have HW := Lib.hid hbe1
  clear hgk hw1 hbk hbe1
  go_wp2_with fail
  refine (awake_any _).mono ?_
  rintro e wa ⟨rfl, hb⟩
  have HW := Lib.hid (below_step HW.out hb)
  have HWA := Lib.hid hb
  clear hb
  go_wp2_with fail
  refine (fills_any A zs zs.length c _ (HA.out.up HW.out) rfl h1 HZ.out).mono ?_
  rintro e v2 ⟨A2, n2, c2, rfl, hn2, hc2, hf2, hb⟩
  rw [← hF] at hn2 hf2
  have HFN := Lib.hid hn2
  have HFC2 := Lib.hid hc2
  have HFF := Lib.hid hf2
  have HW := Lib.hid (below_step HW.out hb)
  have HKC : Hid (∀ W, Below v2.heap.size v2 W → W.cell? ⟨gk, 0, none⟩ = some (.int .i64 k0) ∧ W.cell? ⟨gk, 1, none⟩ = some (.int .i64 k1)) := Lib.hid (by
    have h2 := below_step HWA.out hb
    exact fun W hW => HKC.out W (h2.trans (hW.mono h2.size)))
  have hn28 : n2 ≤ 8 := by rw [← hn2]; exact HGF.out.small.1
  clear hF hn2 hc2 hf2 hb HWA
  go_wp2_with fail
  refine wp_region_noPanic ?_
  refine wp_region_held_drew (S := fun W => Below v2.heap.size v2 W) (by kernel_rfl) ((Below.refl v2.heap.size v2).drew) (fun hS0 => ?_)
  change wpAnyH _ _ _ _ _ 15 #[false, false, false, false, false, false, false, false, false, false, false, false, false, false, false] _ (World.drew _)
  refine wpAnyH_take (i := 0) (v := .slice A2 n2 c2) rfl (by kernel_rfl) (by kernel_rfl) (by kernel_rfl) (fun _ _ _ h => h) (Or.inl ⟨by rfl, fun w' hS' => by go_simp⟩) hS0 ?_
  change wpAnyH _ _ _ _ _ _ _ (Act.put _ (some 25) (.slice A2 n2 c2)) _
  simp only [Act.put, List.setIfInBounds_toArray, List.set_cons_zero, List.set_cons_succ]
  refine wpAnyH_take (i := 1) (v := .pointer (some ⟨gk, 0, none⟩)) rfl (by kernel_rfl) (by kernel_rfl) (by kernel_rfl) (fun _ _ _ h => h) (Or.inl ⟨by rfl, fun w' hS' => by go_simp⟩) hS0 ?_
  change wpAnyH _ _ _ _ _ _ _ (Act.put _ (some 26) (.pointer (some ⟨gk, 0, none⟩))) _
  simp only [Act.put, List.setIfInBounds_toArray, List.set_cons_zero, List.set_cons_succ]
  refine wpAnyH_take (i := 2) (v := .int .i64 k0) rfl (by kernel_rfl) (by kernel_rfl) (by kernel_rfl) (fun _ _ _ h => h) (Or.inl ⟨by rfl, fun w' hS' => by have u0 := HKC.out w' hS'; obtain ⟨u0, u1⟩ := u0; go_simp⟩) hS0 ?_
  change wpAnyH _ _ _ _ _ _ _ (Act.put _ (some 27) (.int .i64 k0)) _
  simp only [Act.put, List.setIfInBounds_toArray, List.set_cons_zero, List.set_cons_succ]
  refine wpAnyH_take (i := 4) (v := .pointer (some ⟨gk, 1, none⟩)) rfl (by kernel_rfl) (by kernel_rfl) (by kernel_rfl) (fun _ _ _ h => h) (Or.inl ⟨by rfl, fun w' hS' => by go_simp⟩) hS0 ?_
  change wpAnyH _ _ _ _ _ _ _ (Act.put _ (some 29) (.pointer (some ⟨gk, 1, none⟩))) _
  simp only [Act.put, List.setIfInBounds_toArray, List.set_cons_zero, List.set_cons_succ]
  refine wpAnyH_take (i := 5) (v := .int .i64 k1) rfl (by kernel_rfl) (by kernel_rfl) (by kernel_rfl) (fun _ _ _ h => h) (Or.inl ⟨by rfl, fun w' hS' => by have u1 := HKC.out w' hS'; obtain ⟨u0, u1⟩ := u1; go_simp⟩) hS0 ?_
  change wpAnyH _ _ _ _ _ _ _ (Act.put _ (some 30) (.int .i64 k1)) _
  simp only [Act.put, List.setIfInBounds_toArray, List.set_cons_zero, List.set_cons_succ]
  refine wpAnyH_ready (rs := [3]) (by kernel_rfl) (by simp) (AllReadyH.cons rfl (fun K hK => ?_) (AllReadyH.nil))
  · skip
    go_simp
    refine (text_v k0 l HL.out _ HK0.out).mono ?_
    rintro e W1 ⟨rfl, hb3⟩
    refine hK.out _ _ (hS0.trans (hb3.mono hS0.size)) (fun hS2 => ?_)
    clear hK K
    simp only [List.setIfInBounds_toArray, List.set_cons_zero, List.set_cons_succ]
    refine wpAnyH_ready (rs := [6]) (by kernel_rfl) (by simp) (AllReadyH.cons rfl (fun K hK => ?_) (AllReadyH.nil))
    · skip
      go_simp
      refine (text_v k1 r HR.out _ HK1.out).mono ?_
      rintro e W4 ⟨rfl, hb6⟩
      refine hK.out _ _ (hS2.trans (hb6.mono hS2.size)) (fun hS5 => ?_)
      clear hK K
      simp only [List.setIfInBounds_toArray, List.set_cons_zero, List.set_cons_succ]
      refine wpAnyH_ready (rs := [7]) (by kernel_rfl) (by simp) (AllReadyH.cons rfl (fun K hK => ?_) (AllReadyH.nil))
      · skip
        go_simp
        refine (ibegin3 A2 F n2 c2 l r 50 _ G 0 a HBG.out.beg (HFF.out.up hS5) HFN.out HGF.out.fit ⟨by omega, by omega⟩ HLS.out HRS.out).mono ?_
        rintro e W7 ⟨gA, gn, gc, rfl, ghn, ghc, ghf, ghb⟩
        refine hK.out _ _ (hS5.trans (ghb.mono hS5.size)) (fun hS8 => ?_)
        clear hK K
        simp only [List.setIfInBounds_toArray, List.set_cons_zero, List.set_cons_succ]
        refine wpAnyH_take (i := 8) (v := .tuple #[.bool a, .slice gA gn gc, .int .i64 0]) rfl (by kernel_rfl) (by kernel_rfl) (by kernel_rfl) (fun _ _ _ h => h) (Or.inl ⟨by rfl, fun w' hS' => by go_simp⟩) hS8 ?_
        change wpAnyH _ _ _ _ _ _ _ (Act.put _ (some 24) (.tuple #[.bool a, .slice gA gn gc, .int .i64 0])) _
        simp only [Act.put, List.setIfInBounds_toArray, List.set_cons_zero, List.set_cons_succ]
        refine wpAnyH_take (i := 9) (v := .bool a) rfl (by kernel_rfl) (by kernel_rfl) (by kernel_rfl) (fun _ _ _ h => h) (Or.inl ⟨by rfl, fun w' hS' => by go_simp⟩) hS8 ?_
        change wpAnyH _ _ _ _ _ _ _ (Act.put _ (some 33) (.bool a)) _
        simp only [Act.put, List.setIfInBounds_toArray, List.set_cons_zero, List.set_cons_succ]
        refine wpAnyH_take (i := 10) (v := .slice gA gn gc) rfl (by kernel_rfl) (by kernel_rfl) (by kernel_rfl) (fun _ _ _ h => h) (Or.inl ⟨by rfl, fun w' hS' => by go_simp⟩) hS8 ?_
        change wpAnyH _ _ _ _ _ _ _ (Act.put _ (some 34) (.slice gA gn gc)) _
        simp only [Act.put, List.setIfInBounds_toArray, List.set_cons_zero, List.set_cons_succ]
        refine wpAnyH_take (i := 11) (v := .int .i64 0) rfl (by kernel_rfl) (by kernel_rfl) (by kernel_rfl) (fun _ _ _ h => h) (Or.inl ⟨by rfl, fun w' hS' => by go_simp⟩) hS8 ?_
        change wpAnyH _ _ _ _ _ _ _ (Act.put _ (some 35) (.int .i64 0)) _
        simp only [Act.put, List.setIfInBounds_toArray, List.set_cons_zero, List.set_cons_succ]
        refine wpAnyH_take (i := 12) (v := .bool a) rfl (by kernel_rfl) (by kernel_rfl) (by kernel_rfl) (fun _ _ _ h => h) (Or.inl ⟨by rfl, fun w' hS' => by go_simp⟩) hS8 ?_
        change wpAnyH _ _ _ _ _ _ _ (Act.put _ (some 7) (.bool a)) _
        simp only [Act.put, List.setIfInBounds_toArray, List.set_cons_zero, List.set_cons_succ]
        refine wpAnyH_take (i := 13) (v := .slice gA gn gc) rfl (by kernel_rfl) (by kernel_rfl) (by kernel_rfl) (fun _ _ _ h => h) (Or.inl ⟨by rfl, fun w' hS' => by go_simp⟩) hS8 ?_
        change wpAnyH _ _ _ _ _ _ _ (Act.put _ (some 8) (.slice gA gn gc)) _
        simp only [Act.put, List.setIfInBounds_toArray, List.set_cons_zero, List.set_cons_succ]
        refine wpAnyH_take (i := 14) (v := .int .i64 0) rfl (by kernel_rfl) (by kernel_rfl) (by kernel_rfl) (fun _ _ _ h => h) (Or.inl ⟨by rfl, fun w' hS' => by go_simp⟩) hS8 ?_
        change wpAnyH _ _ _ _ _ _ _ (Act.put _ (some 9) (.int .i64 0)) _
        simp only [Act.put, List.setIfInBounds_toArray, List.set_cons_zero, List.set_cons_succ]
        refine wpAnyH_done (by kernel_rfl) ?_ _
        refine NoPanic.normal ?_
        have HEN := Lib.hid hS8
        obtain ⟨v5, hv5⟩ : ∃ v, v = W7 := ⟨_, rfl⟩
        rw [← hv5] at HEN ghf ⊢
        have HFG := Lib.hid ghf
        have HGN := Lib.hid ghn
        have HGC2 := Lib.hid ghc
        have HFF := Lib.hid (HFF.out.up HEN.out)
        have HW := Lib.hid (below_step HW.out HEN.out)
        have HKC : Hid (∀ W, Below v5.heap.size v5 W → W.cell? ⟨gk, 0, none⟩ = some (.int .i64 k0) ∧ W.cell? ⟨gk, 1, none⟩ = some (.int .i64 k1)) := Lib.hid fun W hW => HKC.out W (HEN.out.trans (hW.mono HEN.out.size))
        have HNG : Hid (n2 ≤ gn) := Lib.hid (by rw [← ghn, ← HFN.out]; exact HBG.out.len)
        have hlt1 : decide (gn < n2) = false := decide_eq_false (by have := HNG.out; omega)
        have hlt2 : ¬ gn < n2 := by have := HNG.out; omega
        have hlt3 : decide ((gn : Int) < (n2 : Int)) = false := decide_eq_false (by have := HNG.out; omega)
        clear hv5 ghn ghc ghf ghb HEN
        go_wp2_with fail
        clear hlt1 hlt2 hlt3
        go_loopw [10] (fun i wr => ∃ k : Nat, k ≤ n2 ∧ i = .int .i64 k ∧ Hid (Below v5.heap.size v5 wr)) (fun i _ => n2 - (intOf i).toNat)
        case atStart => exact ⟨0, Nat.zero_le _, rfl, Lib.hid (Below.refl _ _)⟩
        case round =>
          obtain ⟨k, hk, rfl, HW3⟩ := hrel
          obtain ⟨v3, rfl⟩ : ∃ w3, w3 = wr := ⟨_, rfl⟩
          by_cases g1 : k < n2
          · skip
            obtain ⟨x, hx⟩ : ∃ x, F[k]? = some x := ⟨_, List.getElem?_eq_getElem (by rw [HFN.out]; exact g1)⟩
            obtain ⟨af, fB, fcw, rfl, hal, p0, p1, p2, p3, _, _⟩ := (HFF.out.up HW3.out).at_ hx
            obtain ⟨m, hm⟩ : ∃ m, m = x.wait.length := ⟨_, rfl⟩
            have HM : Hid (x.wait.length = m) := Lib.hid hm.symm
            have HM8 : Hid (m ≤ 8) := Lib.hid (by have := HGF.out.small.2 x (List.mem_of_getElem? hx); omega)
            rw [← hm] at p3
            have HFC : Hid (∀ W, Below v3.heap.size v3 W → W.cell? (af.add (k * 4)) = some (.string x.left) ∧ W.cell? ⟨(af.add (k * 4)).block, (af.add (k * 4)).off + 1, none⟩ = some (.string x.right) ∧ W.cell? ⟨(af.add (k * 4)).block, (af.add (k * 4)).off + 2, none⟩ = some (.int .i64 x.by_) ∧ W.cell? ⟨(af.add (k * 4)).block, (af.add (k * 4)).off + 3, none⟩ = some (.slice fB m fcw)) := Lib.hid fun W hW =>
              ⟨(hW.cell (by rw [add_block]; exact hal)).trans p0, (hW.cell (by show (af.add (k * 4)).block < _; rw [add_block]; exact hal)).trans p1, (hW.cell (by show (af.add (k * 4)).block < _; rw [add_block]; exact hal)).trans p2, (hW.cell (by show (af.add (k * 4)).block < _; rw [add_block]; exact hal)).trans p3⟩
            have HX := Lib.hid hx
            have HKF : Hid (k < n2) := Lib.hid g1
            have HKG : Hid (k < gn) := Lib.hid (by have := HNG.out; omega)
            obtain ⟨ag, hag⟩ : ∃ ag, gA = some ag := by
              obtain ⟨y, hy⟩ : ∃ y, G[k]? = some y := ⟨_, List.getElem?_eq_getElem (by rw [HGN.out]; exact HKG.out)⟩
              obtain ⟨a0, _, _, e, _⟩ := HFG.out.at_ hy
              exact ⟨a0, e⟩
            subst hag
            have HI1 : Hid (IntKind.i64.wrap ((k : Int) + 1) = (k : Int) + 1) := Lib.hid (IntWalk.i64_in _ (by omega))
            have HKC : Hid (∀ W, Below v3.heap.size v3 W → W.cell? ⟨gk, 0, none⟩ = some (.int .i64 k0) ∧ W.cell? ⟨gk, 1, none⟩ = some (.int .i64 k1)) := Lib.hid fun W hW => HKC.out W (HW3.out.trans (hW.mono HW3.out.size))
            clear hx hm p0 p1 p2 p3 hal
            cases t1 : (x.left.toList == l.toList) with
            | false =>
              have HT1 := Lib.hid t1
              have HGX : Hid (G[k]? = some x) := Lib.hid (HBG.out.other k x HX.out fun e => text_ne t1 (congrArg Prod.fst e))
              clear t1
              go_wp2_with fail
              refine wp_region_noPanic ?_
              refine wp_region_held_drew (S := fun W => Below v3.heap.size v3 W) (by kernel_rfl) ((Below.refl v3.heap.size v3).drew) (fun hS0 => ?_)
              change wpAnyH _ _ _ _ _ 21 #[false, false, false, false, false, false, false, false, false, false, false, false, false, false, false, false, false, false, false, false, false] _ (World.drew _)
              refine wpAnyH_take (i := 0) (v := .slice (some af) n2 c2) rfl (by kernel_rfl) (by kernel_rfl) (by kernel_rfl) (fun _ _ _ h => h) (Or.inl ⟨by rfl, fun w' hS' => by go_simp⟩) hS0 ?_
              change wpAnyH _ _ _ _ _ _ _ (Act.put _ (some 51) (.slice (some af) n2 c2)) _
              simp only [Act.put, List.setIfInBounds_toArray, List.set_cons_zero, List.set_cons_succ]
              refine wpAnyH_take (i := 1) (v := .int .i64 (k : Int)) rfl (by kernel_rfl) (by kernel_rfl) (by kernel_rfl) (fun _ _ _ h => h) (Or.inl ⟨by rfl, fun w' hS' => by go_simp⟩) hS0 ?_
              change wpAnyH _ _ _ _ _ _ _ (Act.put _ (some 52) (.int .i64 (k : Int))) _
              simp only [Act.put, List.setIfInBounds_toArray, List.set_cons_zero, List.set_cons_succ]
              refine wpAnyH_take (i := 2) (v := .pointer (some (af.add (k * 4)))) rfl (by kernel_rfl) (by kernel_rfl) (by kernel_rfl) (fun _ _ _ h => h) (Or.inl ⟨by rfl, fun w' hS' => by go_simp⟩) hS0 ?_
              change wpAnyH _ _ _ _ _ _ _ (Act.put _ (some 53) (.pointer (some (af.add (k * 4))))) _
              simp only [Act.put, List.setIfInBounds_toArray, List.set_cons_zero, List.set_cons_succ]
              refine wpAnyH_take (i := 3) (v := .pointer (some (af.add (k * 4)))) rfl (by kernel_rfl) (by kernel_rfl) (by kernel_rfl) (fun _ _ _ h => h) (Or.inl ⟨by rfl, fun w' hS' => by go_simp⟩) hS0 ?_
              change wpAnyH _ _ _ _ _ _ _ (Act.put _ (some 54) (.pointer (some (af.add (k * 4))))) _
              simp only [Act.put, List.setIfInBounds_toArray, List.set_cons_zero, List.set_cons_succ]
              refine wpAnyH_take (i := 4) (v := .string x.left) rfl (by kernel_rfl) (by kernel_rfl) (by kernel_rfl) (fun _ _ _ h => h) (Or.inl ⟨by rfl, fun w' hS' => by obtain ⟨f0, f1, f2, f3⟩ := HFC.out w' hS'; go_simp⟩) hS0 ?_
              change wpAnyH _ _ _ _ _ _ _ (Act.put _ (some 55) (.string x.left)) _
              simp only [Act.put, List.setIfInBounds_toArray, List.set_cons_zero, List.set_cons_succ]
              refine wpAnyH_take (i := 5) (v := .pointer (some ⟨gk, 0, none⟩)) rfl (by kernel_rfl) (by kernel_rfl) (by kernel_rfl) (fun _ _ _ h => h) (Or.inl ⟨by rfl, fun w' hS' => by go_simp⟩) hS0 ?_
              change wpAnyH _ _ _ _ _ _ _ (Act.put _ (some 56) (.pointer (some ⟨gk, 0, none⟩))) _
              simp only [Act.put, List.setIfInBounds_toArray, List.set_cons_zero, List.set_cons_succ]
              refine wpAnyH_take (i := 6) (v := .int .i64 k0) rfl (by kernel_rfl) (by kernel_rfl) (by kernel_rfl) (fun _ _ _ h => h) (Or.inl ⟨by rfl, fun w' hS' => by have u0 := HKC.out w' hS'; obtain ⟨u0, u1⟩ := u0; go_simp⟩) hS0 ?_
              change wpAnyH _ _ _ _ _ _ _ (Act.put _ (some 57) (.int .i64 k0)) _
              simp only [Act.put, List.setIfInBounds_toArray, List.set_cons_zero, List.set_cons_succ]
              refine wpAnyH_ready (rs := [7]) (by kernel_rfl) (by simp) (AllReadyH.cons rfl (fun K hK => ?_) (AllReadyH.nil))
              · skip
                go_simp
                refine (text_v k0 l HL.out _ HK0.out).mono ?_
                rintro e W1 ⟨rfl, hb3⟩
                refine hK.out _ _ (hS0.trans (hb3.mono hS0.size)) (fun hS2 => ?_)
                clear hK K
                simp only [List.setIfInBounds_toArray, List.set_cons_zero, List.set_cons_succ]
                refine wpAnyH_take (i := 8) (v := .bool false) rfl (by kernel_rfl) (by kernel_rfl) (by kernel_rfl) (fun _ _ _ h => h) (Or.inl ⟨by rfl, fun w' hS' => by have t1 := HT1.out; go_simp⟩) hS2 ?_
                change wpAnyH _ _ _ _ _ _ _ (Act.put _ (some 59) (.bool false)) _
                simp only [Act.put, List.setIfInBounds_toArray, List.set_cons_zero, List.set_cons_succ]
                refine wpAnyH_take (i := 9) (v := .bool false) rfl (by kernel_rfl) (by kernel_rfl) (by kernel_rfl) (fun _ _ _ h => h) (Or.inl ⟨by rfl, fun w' hS' => by go_simp⟩) hS2 ?_
                change wpAnyH _ _ _ _ _ _ _ (Act.put _ (some 60) (.bool false)) _
                simp only [Act.put, List.setIfInBounds_toArray, List.set_cons_zero, List.set_cons_succ]
                refine wpAnyH_take (i := 10) (v := undef) rfl (by kernel_rfl) (by kernel_rfl) (by kernel_rfl) (fun _ _ _ h => h) (Or.inr ⟨by rfl, rfl⟩) hS2 ?_
                change wpAnyH _ _ _ _ _ _ _ (Act.put _ (some 61) (undef)) _
                simp only [Act.put, List.setIfInBounds_toArray, List.set_cons_zero, List.set_cons_succ]
                refine wpAnyH_take (i := 11) (v := undef) rfl (by kernel_rfl) (by kernel_rfl) (by kernel_rfl) (fun _ _ _ h => h) (Or.inr ⟨by rfl, rfl⟩) hS2 ?_
                change wpAnyH _ _ _ _ _ _ _ (Act.put _ (some 62) (undef)) _
                simp only [Act.put, List.setIfInBounds_toArray, List.set_cons_zero, List.set_cons_succ]
                refine wpAnyH_take (i := 12) (v := undef) rfl (by kernel_rfl) (by kernel_rfl) (by kernel_rfl) (fun _ _ _ h => h) (Or.inr ⟨by rfl, rfl⟩) hS2 ?_
                change wpAnyH _ _ _ _ _ _ _ (Act.put _ (some 63) (undef)) _
                simp only [Act.put, List.setIfInBounds_toArray, List.set_cons_zero, List.set_cons_succ]
                refine wpAnyH_take (i := 13) (v := undef) rfl (by kernel_rfl) (by kernel_rfl) (by kernel_rfl) (fun _ _ _ h => h) (Or.inr ⟨by rfl, rfl⟩) hS2 ?_
                change wpAnyH _ _ _ _ _ _ _ (Act.put _ (some 64) (undef)) _
                simp only [Act.put, List.setIfInBounds_toArray, List.set_cons_zero, List.set_cons_succ]
                refine wpAnyH_take (i := 14) (v := undef) rfl (by kernel_rfl) (by kernel_rfl) (by kernel_rfl) (fun _ _ _ h => h) (Or.inr ⟨by rfl, rfl⟩) hS2 ?_
                change wpAnyH _ _ _ _ _ _ _ (Act.put _ (some 65) (undef)) _
                simp only [Act.put, List.setIfInBounds_toArray, List.set_cons_zero, List.set_cons_succ]
                refine wpAnyH_take (i := 15) (v := undef) rfl (by kernel_rfl) (by kernel_rfl) (by kernel_rfl) (fun _ _ _ h => h) (Or.inr ⟨by rfl, rfl⟩) hS2 ?_
                change wpAnyH _ _ _ _ _ _ _ (Act.put _ (some 66) (undef)) _
                simp only [Act.put, List.setIfInBounds_toArray, List.set_cons_zero, List.set_cons_succ]
                refine wpAnyH_take (i := 16) (v := undef) rfl (by kernel_rfl) (by kernel_rfl) (by kernel_rfl) (fun _ _ _ h => h) (Or.inr ⟨by rfl, rfl⟩) hS2 ?_
                change wpAnyH _ _ _ _ _ _ _ (Act.put _ (some 67) (undef)) _
                simp only [Act.put, List.setIfInBounds_toArray, List.set_cons_zero, List.set_cons_succ]
                refine wpAnyH_take (i := 17) (v := undef) rfl (by kernel_rfl) (by kernel_rfl) (by kernel_rfl) (fun _ _ _ h => h) (Or.inr ⟨by rfl, rfl⟩) hS2 ?_
                change wpAnyH _ _ _ _ _ _ _ (Act.put _ (some 68) (undef)) _
                simp only [Act.put, List.setIfInBounds_toArray, List.set_cons_zero, List.set_cons_succ]
                refine wpAnyH_take (i := 18) (v := undef) rfl (by kernel_rfl) (by kernel_rfl) (by kernel_rfl) (fun _ _ _ h => h) (Or.inr ⟨by rfl, rfl⟩) hS2 ?_
                change wpAnyH _ _ _ _ _ _ _ (Act.put _ (some 69) (undef)) _
                simp only [Act.put, List.setIfInBounds_toArray, List.set_cons_zero, List.set_cons_succ]
                refine wpAnyH_take (i := 19) (v := .bool false) rfl (by kernel_rfl) (by kernel_rfl) (by kernel_rfl) (fun _ _ _ h => h) (Or.inl ⟨by rfl, fun w' hS' => by go_simp⟩) hS2 ?_
                change wpAnyH _ _ _ _ _ _ _ (Act.put _ (some 70) (.bool false)) _
                simp only [Act.put, List.setIfInBounds_toArray, List.set_cons_zero, List.set_cons_succ]
                refine wpAnyH_take (i := 20) (v := .bool false) rfl (by kernel_rfl) (by kernel_rfl) (by kernel_rfl) (fun _ _ _ h => h) (Or.inl ⟨by rfl, fun w' hS' => by go_simp⟩) hS2 ?_
                change wpAnyH _ _ _ _ _ _ _ (Act.put _ (some 11) (.bool false)) _
                simp only [Act.put, List.setIfInBounds_toArray, List.set_cons_zero, List.set_cons_succ]
                refine wpAnyH_done (by kernel_rfl) ?_ _
                refine NoPanic.normal ?_
                have HEN := Lib.hid hS2
                obtain ⟨v4, hv4⟩ : ∃ v, v = W1 := ⟨_, rfl⟩
                rw [← hv4] at HEN ⊢
                clear hv4
                go_wp2_with fail
                have HW4 : Hid (Below v5.heap.size v5 v4) := Lib.hid (HW3.out.trans (HEN.out.mono HW3.out.size))
                have HFC : Hid (∀ W, Below v4.heap.size v4 W → W.cell? (af.add (k * 4)) = some (.string x.left) ∧ W.cell? ⟨(af.add (k * 4)).block, (af.add (k * 4)).off + 1, none⟩ = some (.string x.right) ∧ W.cell? ⟨(af.add (k * 4)).block, (af.add (k * 4)).off + 2, none⟩ = some (.int .i64 x.by_) ∧ W.cell? ⟨(af.add (k * 4)).block, (af.add (k * 4)).off + 3, none⟩ = some (.slice fB m fcw)) := Lib.hid fun W hW => HFC.out W (HEN.out.trans (hW.mono HEN.out.size))
                have HG1 : Hid (FillsAt v4 (some (ag.add (k * 4))) [x]) := Lib.hid ((fills_one HFG.out HGX.out (by rw [HGN.out]; exact HGC2.out)).up HW4.out)
                have HF1 : Hid (FillsAt v4 (some (af.add (k * 4))) [x]) := Lib.hid ((fills_one HFF.out HX.out (by rw [HFN.out]; exact HFC2.out)).up HW4.out)
                have HFX : Hid (FitF [x]) := Lib.hid (HGF.out.fit.sub (by rw [List.length_singleton]; have := (List.getElem?_eq_some_iff.1 HX.out).1; omega) (fun y hy => by rw [List.mem_singleton.1 hy]; exact List.mem_of_getElem? HX.out))
                refine wp_region_noPanic ?_
                refine wp_region_held_drew (S := fun W => Below v4.heap.size v4 W) (by kernel_rfl) ((Below.refl v4.heap.size v4).drew) (fun hS0 => ?_)
                change wpAnyH _ _ _ _ _ 51 #[false, false, false, false, false, false, false, false, false, false, false, false, false, false, false, false, false, false, false, false, false, false, false, false, false, false, false, false, false, false, false, false, false, false, false, false, false, false, false, false, false, false, false, false, false, false, false, false, false, false, false] _ (World.drew _)
                refine wpAnyH_take (i := 0) (v := .bool false) rfl (by kernel_rfl) (by kernel_rfl) (by kernel_rfl) (fun _ _ _ h => h) (Or.inl ⟨by rfl, fun w' hS' => by go_simp⟩) hS0 ?_
                change wpAnyH _ _ _ _ _ _ _ (Act.put _ (some 71) (.bool false)) _
                simp only [Act.put, List.setIfInBounds_toArray, List.set_cons_zero, List.set_cons_succ]
                refine wpAnyH_take (i := 1) (v := .bool true) rfl (by kernel_rfl) (by kernel_rfl) (by kernel_rfl) (fun _ _ _ h => h) (Or.inl ⟨by rfl, fun w' hS' => by go_simp⟩) hS0 ?_
                change wpAnyH _ _ _ _ _ _ _ (Act.put _ (some 72) (.bool true)) _
                simp only [Act.put, List.setIfInBounds_toArray, List.set_cons_zero, List.set_cons_succ]
                refine wpAnyH_take (i := 2) (v := .bool true) rfl (by kernel_rfl) (by kernel_rfl) (by kernel_rfl) (fun _ _ _ h => h) (Or.inl ⟨by rfl, fun w' hS' => by go_simp⟩) hS0 ?_
                change wpAnyH _ _ _ _ _ _ _ (Act.put _ (some 73) (.bool true)) _
                simp only [Act.put, List.setIfInBounds_toArray, List.set_cons_zero, List.set_cons_succ]
                refine wpAnyH_take (i := 3) (v := .slice (some ag) gn gc) rfl (by kernel_rfl) (by kernel_rfl) (by kernel_rfl) (fun _ _ _ h => h) (Or.inl ⟨by rfl, fun w' hS' => by go_simp⟩) hS0 ?_
                change wpAnyH _ _ _ _ _ _ _ (Act.put _ (some 74) (.slice (some ag) gn gc)) _
                simp only [Act.put, List.setIfInBounds_toArray, List.set_cons_zero, List.set_cons_succ]
                refine wpAnyH_take (i := 4) (v := .int .i64 (k : Int)) rfl (by kernel_rfl) (by kernel_rfl) (by kernel_rfl) (fun _ _ _ h => h) (Or.inl ⟨by rfl, fun w' hS' => by go_simp⟩) hS0 ?_
                change wpAnyH _ _ _ _ _ _ _ (Act.put _ (some 75) (.int .i64 (k : Int))) _
                simp only [Act.put, List.setIfInBounds_toArray, List.set_cons_zero, List.set_cons_succ]
                refine wpAnyH_take (i := 5) (v := .int .i64 (k : Int)) rfl (by kernel_rfl) (by kernel_rfl) (by kernel_rfl) (fun _ _ _ h => h) (Or.inl ⟨by rfl, fun w' hS' => by go_simp⟩) hS0 ?_
                change wpAnyH _ _ _ _ _ _ _ (Act.put _ (some 76) (.int .i64 (k : Int))) _
                simp only [Act.put, List.setIfInBounds_toArray, List.set_cons_zero, List.set_cons_succ]
                refine wpAnyH_take (i := 6) (v := .int .i64 ((k : Int) + 1)) rfl (by kernel_rfl) (by kernel_rfl) (by kernel_rfl) (fun _ _ _ h => h) (Or.inl ⟨by rfl, fun w' hS' => by have i1 := HI1.out; go_simp; try exact i1⟩) hS0 ?_
                change wpAnyH _ _ _ _ _ _ _ (Act.put _ (some 77) (.int .i64 ((k : Int) + 1))) _
                simp only [Act.put, List.setIfInBounds_toArray, List.set_cons_zero, List.set_cons_succ]
                refine wpAnyH_take (i := 7) (v := .slice (some (ag.add (k * 4))) 1 (gc - k)) rfl (by kernel_rfl) (by kernel_rfl) (by kernel_rfl) (fun _ _ _ h => h) (Or.inl ⟨by rfl, fun w' hS' => by exact op_one_of rfl rfl rfl rfl rfl rfl (by have := HKG.out; omega) HGC2.out⟩) hS0 ?_
                change wpAnyH _ _ _ _ _ _ _ (Act.put _ (some 78) (.slice (some (ag.add (k * 4))) 1 (gc - k))) _
                simp only [Act.put, List.setIfInBounds_toArray, List.set_cons_zero, List.set_cons_succ]
                refine wpAnyH_take (i := 8) (v := .slice (some af) n2 c2) rfl (by kernel_rfl) (by kernel_rfl) (by kernel_rfl) (fun _ _ _ h => h) (Or.inl ⟨by rfl, fun w' hS' => by go_simp⟩) hS0 ?_
                change wpAnyH _ _ _ _ _ _ _ (Act.put _ (some 79) (.slice (some af) n2 c2)) _
                simp only [Act.put, List.setIfInBounds_toArray, List.set_cons_zero, List.set_cons_succ]
                refine wpAnyH_take (i := 9) (v := .int .i64 (k : Int)) rfl (by kernel_rfl) (by kernel_rfl) (by kernel_rfl) (fun _ _ _ h => h) (Or.inl ⟨by rfl, fun w' hS' => by go_simp⟩) hS0 ?_
                change wpAnyH _ _ _ _ _ _ _ (Act.put _ (some 80) (.int .i64 (k : Int))) _
                simp only [Act.put, List.setIfInBounds_toArray, List.set_cons_zero, List.set_cons_succ]
                refine wpAnyH_take (i := 10) (v := .int .i64 (k : Int)) rfl (by kernel_rfl) (by kernel_rfl) (by kernel_rfl) (fun _ _ _ h => h) (Or.inl ⟨by rfl, fun w' hS' => by go_simp⟩) hS0 ?_
                change wpAnyH _ _ _ _ _ _ _ (Act.put _ (some 81) (.int .i64 (k : Int))) _
                simp only [Act.put, List.setIfInBounds_toArray, List.set_cons_zero, List.set_cons_succ]
                refine wpAnyH_take (i := 11) (v := .int .i64 ((k : Int) + 1)) rfl (by kernel_rfl) (by kernel_rfl) (by kernel_rfl) (fun _ _ _ h => h) (Or.inl ⟨by rfl, fun w' hS' => by have i1 := HI1.out; go_simp; try exact i1⟩) hS0 ?_
                change wpAnyH _ _ _ _ _ _ _ (Act.put _ (some 82) (.int .i64 ((k : Int) + 1))) _
                simp only [Act.put, List.setIfInBounds_toArray, List.set_cons_zero, List.set_cons_succ]
                refine wpAnyH_take (i := 12) (v := .slice (some (af.add (k * 4))) 1 (c2 - k)) rfl (by kernel_rfl) (by kernel_rfl) (by kernel_rfl) (fun _ _ _ h => h) (Or.inl ⟨by rfl, fun w' hS' => by exact op_one_of rfl rfl rfl rfl rfl rfl (by have := HKF.out; omega) HFC2.out⟩) hS0 ?_
                change wpAnyH _ _ _ _ _ _ _ (Act.put _ (some 83) (.slice (some (af.add (k * 4))) 1 (c2 - k))) _
                simp only [Act.put, List.setIfInBounds_toArray, List.set_cons_zero, List.set_cons_succ]
                refine wpAnyH_ready (rs := [13]) (by kernel_rfl) (by simp) (AllReadyH.cons rfl (fun K hK => ?_) (AllReadyH.nil))
                · skip
                  go_simp
                  refine (rsame_any (some (ag.add (k * 4))) (some (af.add (k * 4))) [x] 1 1 (gc - k) (c2 - k) _ (HG1.out.up hS0) (HF1.out.up hS0) rfl rfl HFX.out).mono ?_
                  rintro e W1 ⟨rfl, hq⟩
                  refine hK.out _ _ (hS0.trans ((Drew.below hq).mono hS0.size)) (fun hS2 => ?_)
                  clear hK K
                  simp only [List.setIfInBounds_toArray, List.set_cons_zero, List.set_cons_succ]
                  refine wpAnyH_take (i := 14) (v := .bool false) rfl (by kernel_rfl) (by kernel_rfl) (by kernel_rfl) (fun _ _ _ h => h) (Or.inl ⟨by rfl, fun w' hS' => by go_simp⟩) hS2 ?_
                  change wpAnyH _ _ _ _ _ _ _ (Act.put _ (some 85) (.bool false)) _
                  simp only [Act.put, List.setIfInBounds_toArray, List.set_cons_zero, List.set_cons_succ]
                  refine wpAnyH_take (i := 15) (v := .bool false) rfl (by kernel_rfl) (by kernel_rfl) (by kernel_rfl) (fun _ _ _ h => h) (Or.inl ⟨by rfl, fun w' hS' => by go_simp⟩) hS2 ?_
                  change wpAnyH _ _ _ _ _ _ _ (Act.put _ (some 86) (.bool false)) _
                  simp only [Act.put, List.setIfInBounds_toArray, List.set_cons_zero, List.set_cons_succ]
                  refine wpAnyH_take (i := 16) (v := .bool false) rfl (by kernel_rfl) (by kernel_rfl) (by kernel_rfl) (fun _ _ _ h => h) (Or.inl ⟨by rfl, fun w' hS' => by go_simp⟩) hS2 ?_
                  change wpAnyH _ _ _ _ _ _ _ (Act.put _ (some 87) (.bool false)) _
                  simp only [Act.put, List.setIfInBounds_toArray, List.set_cons_zero, List.set_cons_succ]
                  refine wpAnyH_take (i := 17) (v := .bool false) rfl (by kernel_rfl) (by kernel_rfl) (by kernel_rfl) (fun _ _ _ h => h) (Or.inl ⟨by rfl, fun w' hS' => by go_simp⟩) hS2 ?_
                  change wpAnyH _ _ _ _ _ _ _ (Act.put _ (some 88) (.bool false)) _
                  simp only [Act.put, List.setIfInBounds_toArray, List.set_cons_zero, List.set_cons_succ]
                  refine wpAnyH_take (i := 18) (v := .bool false) rfl (by kernel_rfl) (by kernel_rfl) (by kernel_rfl) (fun _ _ _ h => h) (Or.inl ⟨by rfl, fun w' hS' => by go_simp⟩) hS2 ?_
                  change wpAnyH _ _ _ _ _ _ _ (Act.put _ (some 89) (.bool false)) _
                  simp only [Act.put, List.setIfInBounds_toArray, List.set_cons_zero, List.set_cons_succ]
                  refine wpAnyH_take (i := 19) (v := undef) rfl (by kernel_rfl) (by kernel_rfl) (by kernel_rfl) (fun _ _ _ h => h) (Or.inr ⟨by rfl, rfl⟩) hS2 ?_
                  change wpAnyH _ _ _ _ _ _ _ (Act.put _ (some 90) (undef)) _
                  simp only [Act.put, List.setIfInBounds_toArray, List.set_cons_zero, List.set_cons_succ]
                  refine wpAnyH_take (i := 20) (v := undef) rfl (by kernel_rfl) (by kernel_rfl) (by kernel_rfl) (fun _ _ _ h => h) (Or.inr ⟨by rfl, rfl⟩) hS2 ?_
                  change wpAnyH _ _ _ _ _ _ _ (Act.put _ (some 91) (undef)) _
                  simp only [Act.put, List.setIfInBounds_toArray, List.set_cons_zero, List.set_cons_succ]
                  refine wpAnyH_take (i := 21) (v := undef) rfl (by kernel_rfl) (by kernel_rfl) (by kernel_rfl) (fun _ _ _ h => h) (Or.inr ⟨by rfl, rfl⟩) hS2 ?_
                  change wpAnyH _ _ _ _ _ _ _ (Act.put _ (some 92) (undef)) _
                  simp only [Act.put, List.setIfInBounds_toArray, List.set_cons_zero, List.set_cons_succ]
                  refine wpAnyH_take (i := 22) (v := undef) rfl (by kernel_rfl) (by kernel_rfl) (by kernel_rfl) (fun _ _ _ h => h) (Or.inr ⟨by rfl, rfl⟩) hS2 ?_
                  change wpAnyH _ _ _ _ _ _ _ (Act.put _ (some 93) (undef)) _
                  simp only [Act.put, List.setIfInBounds_toArray, List.set_cons_zero, List.set_cons_succ]
                  refine wpAnyH_take (i := 23) (v := undef) rfl (by kernel_rfl) (by kernel_rfl) (by kernel_rfl) (fun _ _ _ h => h) (Or.inr ⟨by rfl, rfl⟩) hS2 ?_
                  change wpAnyH _ _ _ _ _ _ _ (Act.put _ (some 94) (undef)) _
                  simp only [Act.put, List.setIfInBounds_toArray, List.set_cons_zero, List.set_cons_succ]
                  refine wpAnyH_take (i := 24) (v := undef) rfl (by kernel_rfl) (by kernel_rfl) (by kernel_rfl) (fun _ _ _ h => h) (Or.inr ⟨by rfl, rfl⟩) hS2 ?_
                  change wpAnyH _ _ _ _ _ _ _ (Act.put _ (some 95) (undef)) _
                  simp only [Act.put, List.setIfInBounds_toArray, List.set_cons_zero, List.set_cons_succ]
                  refine wpAnyH_take (i := 25) (v := undef) rfl (by kernel_rfl) (by kernel_rfl) (by kernel_rfl) (fun _ _ _ h => h) (Or.inr ⟨by rfl, rfl⟩) hS2 ?_
                  change wpAnyH _ _ _ _ _ _ _ (Act.put _ (some 96) (undef)) _
                  simp only [Act.put, List.setIfInBounds_toArray, List.set_cons_zero, List.set_cons_succ]
                  refine wpAnyH_take (i := 26) (v := undef) rfl (by kernel_rfl) (by kernel_rfl) (by kernel_rfl) (fun _ _ _ h => h) (Or.inr ⟨by rfl, rfl⟩) hS2 ?_
                  change wpAnyH _ _ _ _ _ _ _ (Act.put _ (some 97) (undef)) _
                  simp only [Act.put, List.setIfInBounds_toArray, List.set_cons_zero, List.set_cons_succ]
                  refine wpAnyH_take (i := 27) (v := undef) rfl (by kernel_rfl) (by kernel_rfl) (by kernel_rfl) (fun _ _ _ h => h) (Or.inr ⟨by rfl, rfl⟩) hS2 ?_
                  change wpAnyH _ _ _ _ _ _ _ (Act.put _ (some 98) (undef)) _
                  simp only [Act.put, List.setIfInBounds_toArray, List.set_cons_zero, List.set_cons_succ]
                  refine wpAnyH_take (i := 28) (v := undef) rfl (by kernel_rfl) (by kernel_rfl) (by kernel_rfl) (fun _ _ _ h => h) (Or.inr ⟨by rfl, rfl⟩) hS2 ?_
                  change wpAnyH _ _ _ _ _ _ _ (Act.put _ (some 99) (undef)) _
                  simp only [Act.put, List.setIfInBounds_toArray, List.set_cons_zero, List.set_cons_succ]
                  refine wpAnyH_take (i := 29) (v := undef) rfl (by kernel_rfl) (by kernel_rfl) (by kernel_rfl) (fun _ _ _ h => h) (Or.inr ⟨by rfl, rfl⟩) hS2 ?_
                  change wpAnyH _ _ _ _ _ _ _ (Act.put _ (some 100) (undef)) _
                  simp only [Act.put, List.setIfInBounds_toArray, List.set_cons_zero, List.set_cons_succ]
                  refine wpAnyH_take (i := 30) (v := undef) rfl (by kernel_rfl) (by kernel_rfl) (by kernel_rfl) (fun _ _ _ h => h) (Or.inr ⟨by rfl, rfl⟩) hS2 ?_
                  change wpAnyH _ _ _ _ _ _ _ (Act.put _ (some 101) (undef)) _
                  simp only [Act.put, List.setIfInBounds_toArray, List.set_cons_zero, List.set_cons_succ]
                  refine wpAnyH_take (i := 31) (v := undef) rfl (by kernel_rfl) (by kernel_rfl) (by kernel_rfl) (fun _ _ _ h => h) (Or.inr ⟨by rfl, rfl⟩) hS2 ?_
                  change wpAnyH _ _ _ _ _ _ _ (Act.put _ (some 102) (undef)) _
                  simp only [Act.put, List.setIfInBounds_toArray, List.set_cons_zero, List.set_cons_succ]
                  refine wpAnyH_take (i := 32) (v := undef) rfl (by kernel_rfl) (by kernel_rfl) (by kernel_rfl) (fun _ _ _ h => h) (Or.inr ⟨by rfl, rfl⟩) hS2 ?_
                  change wpAnyH _ _ _ _ _ _ _ (Act.put _ (some 103) (undef)) _
                  simp only [Act.put, List.setIfInBounds_toArray, List.set_cons_zero, List.set_cons_succ]
                  refine wpAnyH_take (i := 33) (v := undef) rfl (by kernel_rfl) (by kernel_rfl) (by kernel_rfl) (fun _ _ _ h => h) (Or.inr ⟨by rfl, rfl⟩) hS2 ?_
                  change wpAnyH _ _ _ _ _ _ _ (Act.put _ (some 104) (undef)) _
                  simp only [Act.put, List.setIfInBounds_toArray, List.set_cons_zero, List.set_cons_succ]
                  refine wpAnyH_take (i := 34) (v := undef) rfl (by kernel_rfl) (by kernel_rfl) (by kernel_rfl) (fun _ _ _ h => h) (Or.inr ⟨by rfl, rfl⟩) hS2 ?_
                  change wpAnyH _ _ _ _ _ _ _ (Act.put _ (some 105) (undef)) _
                  simp only [Act.put, List.setIfInBounds_toArray, List.set_cons_zero, List.set_cons_succ]
                  refine wpAnyH_take (i := 35) (v := undef) rfl (by kernel_rfl) (by kernel_rfl) (by kernel_rfl) (fun _ _ _ h => h) (Or.inr ⟨by rfl, rfl⟩) hS2 ?_
                  change wpAnyH _ _ _ _ _ _ _ (Act.put _ (some 106) (undef)) _
                  simp only [Act.put, List.setIfInBounds_toArray, List.set_cons_zero, List.set_cons_succ]
                  refine wpAnyH_take (i := 36) (v := undef) rfl (by kernel_rfl) (by kernel_rfl) (by kernel_rfl) (fun _ _ _ h => h) (Or.inr ⟨by rfl, rfl⟩) hS2 ?_
                  change wpAnyH _ _ _ _ _ _ _ (Act.put _ (some 107) (undef)) _
                  simp only [Act.put, List.setIfInBounds_toArray, List.set_cons_zero, List.set_cons_succ]
                  refine wpAnyH_take (i := 37) (v := undef) rfl (by kernel_rfl) (by kernel_rfl) (by kernel_rfl) (fun _ _ _ h => h) (Or.inr ⟨by rfl, rfl⟩) hS2 ?_
                  change wpAnyH _ _ _ _ _ _ _ (Act.put _ (some 108) (undef)) _
                  simp only [Act.put, List.setIfInBounds_toArray, List.set_cons_zero, List.set_cons_succ]
                  refine wpAnyH_take (i := 38) (v := undef) rfl (by kernel_rfl) (by kernel_rfl) (by kernel_rfl) (fun _ _ _ h => h) (Or.inr ⟨by rfl, rfl⟩) hS2 ?_
                  change wpAnyH _ _ _ _ _ _ _ (Act.put _ (some 109) (undef)) _
                  simp only [Act.put, List.setIfInBounds_toArray, List.set_cons_zero, List.set_cons_succ]
                  refine wpAnyH_take (i := 39) (v := undef) rfl (by kernel_rfl) (by kernel_rfl) (by kernel_rfl) (fun _ _ _ h => h) (Or.inr ⟨by rfl, rfl⟩) hS2 ?_
                  change wpAnyH _ _ _ _ _ _ _ (Act.put _ (some 110) (undef)) _
                  simp only [Act.put, List.setIfInBounds_toArray, List.set_cons_zero, List.set_cons_succ]
                  refine wpAnyH_take (i := 40) (v := undef) rfl (by kernel_rfl) (by kernel_rfl) (by kernel_rfl) (fun _ _ _ h => h) (Or.inr ⟨by rfl, rfl⟩) hS2 ?_
                  change wpAnyH _ _ _ _ _ _ _ (Act.put _ (some 111) (undef)) _
                  simp only [Act.put, List.setIfInBounds_toArray, List.set_cons_zero, List.set_cons_succ]
                  refine wpAnyH_take (i := 41) (v := undef) rfl (by kernel_rfl) (by kernel_rfl) (by kernel_rfl) (fun _ _ _ h => h) (Or.inr ⟨by rfl, rfl⟩) hS2 ?_
                  change wpAnyH _ _ _ _ _ _ _ (Act.put _ (some 112) (undef)) _
                  simp only [Act.put, List.setIfInBounds_toArray, List.set_cons_zero, List.set_cons_succ]
                  refine wpAnyH_take (i := 42) (v := undef) rfl (by kernel_rfl) (by kernel_rfl) (by kernel_rfl) (fun _ _ _ h => h) (Or.inr ⟨by rfl, rfl⟩) hS2 ?_
                  change wpAnyH _ _ _ _ _ _ _ (Act.put _ (some 113) (undef)) _
                  simp only [Act.put, List.setIfInBounds_toArray, List.set_cons_zero, List.set_cons_succ]
                  refine wpAnyH_take (i := 43) (v := undef) rfl (by kernel_rfl) (by kernel_rfl) (by kernel_rfl) (fun _ _ _ h => h) (Or.inr ⟨by rfl, rfl⟩) hS2 ?_
                  change wpAnyH _ _ _ _ _ _ _ (Act.put _ (some 114) (undef)) _
                  simp only [Act.put, List.setIfInBounds_toArray, List.set_cons_zero, List.set_cons_succ]
                  refine wpAnyH_take (i := 44) (v := undef) rfl (by kernel_rfl) (by kernel_rfl) (by kernel_rfl) (fun _ _ _ h => h) (Or.inr ⟨by rfl, rfl⟩) hS2 ?_
                  change wpAnyH _ _ _ _ _ _ _ (Act.put _ (some 115) (undef)) _
                  simp only [Act.put, List.setIfInBounds_toArray, List.set_cons_zero, List.set_cons_succ]
                  refine wpAnyH_take (i := 45) (v := undef) rfl (by kernel_rfl) (by kernel_rfl) (by kernel_rfl) (fun _ _ _ h => h) (Or.inr ⟨by rfl, rfl⟩) hS2 ?_
                  change wpAnyH _ _ _ _ _ _ _ (Act.put _ (some 116) (undef)) _
                  simp only [Act.put, List.setIfInBounds_toArray, List.set_cons_zero, List.set_cons_succ]
                  refine wpAnyH_take (i := 46) (v := undef) rfl (by kernel_rfl) (by kernel_rfl) (by kernel_rfl) (fun _ _ _ h => h) (Or.inr ⟨by rfl, rfl⟩) hS2 ?_
                  change wpAnyH _ _ _ _ _ _ _ (Act.put _ (some 117) (undef)) _
                  simp only [Act.put, List.setIfInBounds_toArray, List.set_cons_zero, List.set_cons_succ]
                  refine wpAnyH_take (i := 47) (v := undef) rfl (by kernel_rfl) (by kernel_rfl) (by kernel_rfl) (fun _ _ _ h => h) (Or.inr ⟨by rfl, rfl⟩) hS2 ?_
                  change wpAnyH _ _ _ _ _ _ _ (Act.put _ (some 118) (undef)) _
                  simp only [Act.put, List.setIfInBounds_toArray, List.set_cons_zero, List.set_cons_succ]
                  refine wpAnyH_take (i := 48) (v := undef) rfl (by kernel_rfl) (by kernel_rfl) (by kernel_rfl) (fun _ _ _ h => h) (Or.inr ⟨by rfl, rfl⟩) hS2 ?_
                  change wpAnyH _ _ _ _ _ _ _ (Act.put _ (some 119) (undef)) _
                  simp only [Act.put, List.setIfInBounds_toArray, List.set_cons_zero, List.set_cons_succ]
                  refine wpAnyH_take (i := 49) (v := .bool false) rfl (by kernel_rfl) (by kernel_rfl) (by kernel_rfl) (fun _ _ _ h => h) (Or.inl ⟨by rfl, fun w' hS' => by go_simp⟩) hS2 ?_
                  change wpAnyH _ _ _ _ _ _ _ (Act.put _ (some 120) (.bool false)) _
                  simp only [Act.put, List.setIfInBounds_toArray, List.set_cons_zero, List.set_cons_succ]
                  refine wpAnyH_take (i := 50) (v := .bool false) rfl (by kernel_rfl) (by kernel_rfl) (by kernel_rfl) (fun _ _ _ h => h) (Or.inl ⟨by rfl, fun w' hS' => by go_simp⟩) hS2 ?_
                  change wpAnyH _ _ _ _ _ _ _ (Act.put _ (some 121) (.bool false)) _
                  simp only [Act.put, List.setIfInBounds_toArray, List.set_cons_zero, List.set_cons_succ]
                  refine wpAnyH_done (by kernel_rfl) ?_ _
                  refine NoPanic.normal ?_
                  have HEND := Lib.hid hS2
                  go_wp2_with fail
                  go_roundw
                  case rel => exact ⟨k + 1, by omega, by go_num, Lib.hid (HW4.out.trans (HEND.out.mono HW4.out.size))⟩
                  case measure => simp [intOf]; omega
            | true =>
              have HT1 := Lib.hid t1
              clear t1
              cases t2 : (x.right.toList == r.toList) with
              | false =>
                have HT2 := Lib.hid t2
                have HGX : Hid (G[k]? = some x) := Lib.hid (HBG.out.other k x HX.out fun e => text_ne t2 (congrArg Prod.snd e))
                clear t2
                go_wp2_with fail
                refine wp_region_noPanic ?_
                refine wp_region_held_drew (S := fun W => Below v3.heap.size v3 W) (by kernel_rfl) ((Below.refl v3.heap.size v3).drew) (fun hS0 => ?_)
                change wpAnyH _ _ _ _ _ 21 #[false, false, false, false, false, false, false, false, false, false, false, false, false, false, false, false, false, false, false, false, false] _ (World.drew _)
                refine wpAnyH_take (i := 0) (v := .slice (some af) n2 c2) rfl (by kernel_rfl) (by kernel_rfl) (by kernel_rfl) (fun _ _ _ h => h) (Or.inl ⟨by rfl, fun w' hS' => by go_simp⟩) hS0 ?_
                change wpAnyH _ _ _ _ _ _ _ (Act.put _ (some 51) (.slice (some af) n2 c2)) _
                simp only [Act.put, List.setIfInBounds_toArray, List.set_cons_zero, List.set_cons_succ]
                refine wpAnyH_take (i := 1) (v := .int .i64 (k : Int)) rfl (by kernel_rfl) (by kernel_rfl) (by kernel_rfl) (fun _ _ _ h => h) (Or.inl ⟨by rfl, fun w' hS' => by go_simp⟩) hS0 ?_
                change wpAnyH _ _ _ _ _ _ _ (Act.put _ (some 52) (.int .i64 (k : Int))) _
                simp only [Act.put, List.setIfInBounds_toArray, List.set_cons_zero, List.set_cons_succ]
                refine wpAnyH_take (i := 2) (v := .pointer (some (af.add (k * 4)))) rfl (by kernel_rfl) (by kernel_rfl) (by kernel_rfl) (fun _ _ _ h => h) (Or.inl ⟨by rfl, fun w' hS' => by go_simp⟩) hS0 ?_
                change wpAnyH _ _ _ _ _ _ _ (Act.put _ (some 53) (.pointer (some (af.add (k * 4))))) _
                simp only [Act.put, List.setIfInBounds_toArray, List.set_cons_zero, List.set_cons_succ]
                refine wpAnyH_take (i := 3) (v := .pointer (some (af.add (k * 4)))) rfl (by kernel_rfl) (by kernel_rfl) (by kernel_rfl) (fun _ _ _ h => h) (Or.inl ⟨by rfl, fun w' hS' => by go_simp⟩) hS0 ?_
                change wpAnyH _ _ _ _ _ _ _ (Act.put _ (some 54) (.pointer (some (af.add (k * 4))))) _
                simp only [Act.put, List.setIfInBounds_toArray, List.set_cons_zero, List.set_cons_succ]
                refine wpAnyH_take (i := 4) (v := .string x.left) rfl (by kernel_rfl) (by kernel_rfl) (by kernel_rfl) (fun _ _ _ h => h) (Or.inl ⟨by rfl, fun w' hS' => by obtain ⟨f0, f1, f2, f3⟩ := HFC.out w' hS'; go_simp⟩) hS0 ?_
                change wpAnyH _ _ _ _ _ _ _ (Act.put _ (some 55) (.string x.left)) _
                simp only [Act.put, List.setIfInBounds_toArray, List.set_cons_zero, List.set_cons_succ]
                refine wpAnyH_take (i := 5) (v := .pointer (some ⟨gk, 0, none⟩)) rfl (by kernel_rfl) (by kernel_rfl) (by kernel_rfl) (fun _ _ _ h => h) (Or.inl ⟨by rfl, fun w' hS' => by go_simp⟩) hS0 ?_
                change wpAnyH _ _ _ _ _ _ _ (Act.put _ (some 56) (.pointer (some ⟨gk, 0, none⟩))) _
                simp only [Act.put, List.setIfInBounds_toArray, List.set_cons_zero, List.set_cons_succ]
                refine wpAnyH_take (i := 6) (v := .int .i64 k0) rfl (by kernel_rfl) (by kernel_rfl) (by kernel_rfl) (fun _ _ _ h => h) (Or.inl ⟨by rfl, fun w' hS' => by have u0 := HKC.out w' hS'; obtain ⟨u0, u1⟩ := u0; go_simp⟩) hS0 ?_
                change wpAnyH _ _ _ _ _ _ _ (Act.put _ (some 57) (.int .i64 k0)) _
                simp only [Act.put, List.setIfInBounds_toArray, List.set_cons_zero, List.set_cons_succ]
                refine wpAnyH_ready (rs := [7]) (by kernel_rfl) (by simp) (AllReadyH.cons rfl (fun K hK => ?_) (AllReadyH.nil))
                · skip
                  go_simp
                  refine (text_v k0 l HL.out _ HK0.out).mono ?_
                  rintro e W1 ⟨rfl, hb3⟩
                  refine hK.out _ _ (hS0.trans (hb3.mono hS0.size)) (fun hS2 => ?_)
                  clear hK K
                  simp only [List.setIfInBounds_toArray, List.set_cons_zero, List.set_cons_succ]
                  refine wpAnyH_take (i := 8) (v := .bool true) rfl (by kernel_rfl) (by kernel_rfl) (by kernel_rfl) (fun _ _ _ h => h) (Or.inl ⟨by rfl, fun w' hS' => by have t1 := HT1.out; go_simp⟩) hS2 ?_
                  change wpAnyH _ _ _ _ _ _ _ (Act.put _ (some 59) (.bool true)) _
                  simp only [Act.put, List.setIfInBounds_toArray, List.set_cons_zero, List.set_cons_succ]
                  refine wpAnyH_take (i := 9) (v := .bool true) rfl (by kernel_rfl) (by kernel_rfl) (by kernel_rfl) (fun _ _ _ h => h) (Or.inl ⟨by rfl, fun w' hS' => by go_simp⟩) hS2 ?_
                  change wpAnyH _ _ _ _ _ _ _ (Act.put _ (some 60) (.bool true)) _
                  simp only [Act.put, List.setIfInBounds_toArray, List.set_cons_zero, List.set_cons_succ]
                  refine wpAnyH_take (i := 10) (v := .slice (some af) n2 c2) rfl (by kernel_rfl) (by kernel_rfl) (by kernel_rfl) (fun _ _ _ h => h) (Or.inl ⟨by rfl, fun w' hS' => by go_simp⟩) hS2 ?_
                  change wpAnyH _ _ _ _ _ _ _ (Act.put _ (some 61) (.slice (some af) n2 c2)) _
                  simp only [Act.put, List.setIfInBounds_toArray, List.set_cons_zero, List.set_cons_succ]
                  refine wpAnyH_take (i := 11) (v := .int .i64 (k : Int)) rfl (by kernel_rfl) (by kernel_rfl) (by kernel_rfl) (fun _ _ _ h => h) (Or.inl ⟨by rfl, fun w' hS' => by go_simp⟩) hS2 ?_
                  change wpAnyH _ _ _ _ _ _ _ (Act.put _ (some 62) (.int .i64 (k : Int))) _
                  simp only [Act.put, List.setIfInBounds_toArray, List.set_cons_zero, List.set_cons_succ]
                  refine wpAnyH_take (i := 12) (v := .pointer (some (af.add (k * 4)))) rfl (by kernel_rfl) (by kernel_rfl) (by kernel_rfl) (fun _ _ _ h => h) (Or.inl ⟨by rfl, fun w' hS' => by go_simp⟩) hS2 ?_
                  change wpAnyH _ _ _ _ _ _ _ (Act.put _ (some 63) (.pointer (some (af.add (k * 4))))) _
                  simp only [Act.put, List.setIfInBounds_toArray, List.set_cons_zero, List.set_cons_succ]
                  refine wpAnyH_take (i := 13) (v := .pointer (some ⟨(af.add (k * 4)).block, (af.add (k * 4)).off + 1, none⟩)) rfl (by kernel_rfl) (by kernel_rfl) (by kernel_rfl) (fun _ _ _ h => h) (Or.inl ⟨by rfl, fun w' hS' => by go_simp⟩) hS2 ?_
                  change wpAnyH _ _ _ _ _ _ _ (Act.put _ (some 64) (.pointer (some ⟨(af.add (k * 4)).block, (af.add (k * 4)).off + 1, none⟩))) _
                  simp only [Act.put, List.setIfInBounds_toArray, List.set_cons_zero, List.set_cons_succ]
                  refine wpAnyH_take (i := 14) (v := .string x.right) rfl (by kernel_rfl) (by kernel_rfl) (by kernel_rfl) (fun _ _ _ h => h) (Or.inl ⟨by rfl, fun w' hS' => by obtain ⟨f0, f1, f2, f3⟩ := HFC.out w' hS'; go_simp⟩) hS2 ?_
                  change wpAnyH _ _ _ _ _ _ _ (Act.put _ (some 65) (.string x.right)) _
                  simp only [Act.put, List.setIfInBounds_toArray, List.set_cons_zero, List.set_cons_succ]
                  refine wpAnyH_take (i := 15) (v := .pointer (some ⟨gk, 1, none⟩)) rfl (by kernel_rfl) (by kernel_rfl) (by kernel_rfl) (fun _ _ _ h => h) (Or.inl ⟨by rfl, fun w' hS' => by go_simp⟩) hS2 ?_
                  change wpAnyH _ _ _ _ _ _ _ (Act.put _ (some 66) (.pointer (some ⟨gk, 1, none⟩))) _
                  simp only [Act.put, List.setIfInBounds_toArray, List.set_cons_zero, List.set_cons_succ]
                  refine wpAnyH_take (i := 16) (v := .int .i64 k1) rfl (by kernel_rfl) (by kernel_rfl) (by kernel_rfl) (fun _ _ _ h => h) (Or.inl ⟨by rfl, fun w' hS' => by have u1 := HKC.out w' hS'; obtain ⟨u0, u1⟩ := u1; go_simp⟩) hS2 ?_
                  change wpAnyH _ _ _ _ _ _ _ (Act.put _ (some 67) (.int .i64 k1)) _
                  simp only [Act.put, List.setIfInBounds_toArray, List.set_cons_zero, List.set_cons_succ]
                  refine wpAnyH_ready (rs := [17]) (by kernel_rfl) (by simp) (AllReadyH.cons rfl (fun K hK => ?_) (AllReadyH.nil))
                  · skip
                    go_simp
                    refine (text_v k1 r HR.out _ HK1.out).mono ?_
                    rintro e W4 ⟨rfl, hb6⟩
                    refine hK.out _ _ (hS2.trans (hb6.mono hS2.size)) (fun hS5 => ?_)
                    clear hK K
                    simp only [List.setIfInBounds_toArray, List.set_cons_zero, List.set_cons_succ]
                    refine wpAnyH_take (i := 18) (v := .bool false) rfl (by kernel_rfl) (by kernel_rfl) (by kernel_rfl) (fun _ _ _ h => h) (Or.inl ⟨by rfl, fun w' hS' => by have t2 := HT2.out; go_simp⟩) hS5 ?_
                    change wpAnyH _ _ _ _ _ _ _ (Act.put _ (some 69) (.bool false)) _
                    simp only [Act.put, List.setIfInBounds_toArray, List.set_cons_zero, List.set_cons_succ]
                    refine wpAnyH_take (i := 19) (v := .bool false) rfl (by kernel_rfl) (by kernel_rfl) (by kernel_rfl) (fun _ _ _ h => h) (Or.inl ⟨by rfl, fun w' hS' => by go_simp⟩) hS5 ?_
                    change wpAnyH _ _ _ _ _ _ _ (Act.put _ (some 70) (.bool false)) _
                    simp only [Act.put, List.setIfInBounds_toArray, List.set_cons_zero, List.set_cons_succ]
                    refine wpAnyH_take (i := 20) (v := .bool false) rfl (by kernel_rfl) (by kernel_rfl) (by kernel_rfl) (fun _ _ _ h => h) (Or.inl ⟨by rfl, fun w' hS' => by go_simp⟩) hS5 ?_
                    change wpAnyH _ _ _ _ _ _ _ (Act.put _ (some 11) (.bool false)) _
                    simp only [Act.put, List.setIfInBounds_toArray, List.set_cons_zero, List.set_cons_succ]
                    refine wpAnyH_done (by kernel_rfl) ?_ _
                    refine NoPanic.normal ?_
                    have HEN := Lib.hid hS5
                    obtain ⟨v4, hv4⟩ : ∃ v, v = W4 := ⟨_, rfl⟩
                    rw [← hv4] at HEN ⊢
                    clear hv4
                    go_wp2_with fail
                    have HW4 : Hid (Below v5.heap.size v5 v4) := Lib.hid (HW3.out.trans (HEN.out.mono HW3.out.size))
                    have HFC : Hid (∀ W, Below v4.heap.size v4 W → W.cell? (af.add (k * 4)) = some (.string x.left) ∧ W.cell? ⟨(af.add (k * 4)).block, (af.add (k * 4)).off + 1, none⟩ = some (.string x.right) ∧ W.cell? ⟨(af.add (k * 4)).block, (af.add (k * 4)).off + 2, none⟩ = some (.int .i64 x.by_) ∧ W.cell? ⟨(af.add (k * 4)).block, (af.add (k * 4)).off + 3, none⟩ = some (.slice fB m fcw)) := Lib.hid fun W hW => HFC.out W (HEN.out.trans (hW.mono HEN.out.size))
                    have HG1 : Hid (FillsAt v4 (some (ag.add (k * 4))) [x]) := Lib.hid ((fills_one HFG.out HGX.out (by rw [HGN.out]; exact HGC2.out)).up HW4.out)
                    have HF1 : Hid (FillsAt v4 (some (af.add (k * 4))) [x]) := Lib.hid ((fills_one HFF.out HX.out (by rw [HFN.out]; exact HFC2.out)).up HW4.out)
                    have HFX : Hid (FitF [x]) := Lib.hid (HGF.out.fit.sub (by rw [List.length_singleton]; have := (List.getElem?_eq_some_iff.1 HX.out).1; omega) (fun y hy => by rw [List.mem_singleton.1 hy]; exact List.mem_of_getElem? HX.out))
                    refine wp_region_noPanic ?_
                    refine wp_region_held_drew (S := fun W => Below v4.heap.size v4 W) (by kernel_rfl) ((Below.refl v4.heap.size v4).drew) (fun hS0 => ?_)
                    change wpAnyH _ _ _ _ _ 51 #[false, false, false, false, false, false, false, false, false, false, false, false, false, false, false, false, false, false, false, false, false, false, false, false, false, false, false, false, false, false, false, false, false, false, false, false, false, false, false, false, false, false, false, false, false, false, false, false, false, false, false] _ (World.drew _)
                    refine wpAnyH_take (i := 0) (v := .bool false) rfl (by kernel_rfl) (by kernel_rfl) (by kernel_rfl) (fun _ _ _ h => h) (Or.inl ⟨by rfl, fun w' hS' => by go_simp⟩) hS0 ?_
                    change wpAnyH _ _ _ _ _ _ _ (Act.put _ (some 71) (.bool false)) _
                    simp only [Act.put, List.setIfInBounds_toArray, List.set_cons_zero, List.set_cons_succ]
                    refine wpAnyH_take (i := 1) (v := .bool true) rfl (by kernel_rfl) (by kernel_rfl) (by kernel_rfl) (fun _ _ _ h => h) (Or.inl ⟨by rfl, fun w' hS' => by go_simp⟩) hS0 ?_
                    change wpAnyH _ _ _ _ _ _ _ (Act.put _ (some 72) (.bool true)) _
                    simp only [Act.put, List.setIfInBounds_toArray, List.set_cons_zero, List.set_cons_succ]
                    refine wpAnyH_take (i := 2) (v := .bool true) rfl (by kernel_rfl) (by kernel_rfl) (by kernel_rfl) (fun _ _ _ h => h) (Or.inl ⟨by rfl, fun w' hS' => by go_simp⟩) hS0 ?_
                    change wpAnyH _ _ _ _ _ _ _ (Act.put _ (some 73) (.bool true)) _
                    simp only [Act.put, List.setIfInBounds_toArray, List.set_cons_zero, List.set_cons_succ]
                    refine wpAnyH_take (i := 3) (v := .slice (some ag) gn gc) rfl (by kernel_rfl) (by kernel_rfl) (by kernel_rfl) (fun _ _ _ h => h) (Or.inl ⟨by rfl, fun w' hS' => by go_simp⟩) hS0 ?_
                    change wpAnyH _ _ _ _ _ _ _ (Act.put _ (some 74) (.slice (some ag) gn gc)) _
                    simp only [Act.put, List.setIfInBounds_toArray, List.set_cons_zero, List.set_cons_succ]
                    refine wpAnyH_take (i := 4) (v := .int .i64 (k : Int)) rfl (by kernel_rfl) (by kernel_rfl) (by kernel_rfl) (fun _ _ _ h => h) (Or.inl ⟨by rfl, fun w' hS' => by go_simp⟩) hS0 ?_
                    change wpAnyH _ _ _ _ _ _ _ (Act.put _ (some 75) (.int .i64 (k : Int))) _
                    simp only [Act.put, List.setIfInBounds_toArray, List.set_cons_zero, List.set_cons_succ]
                    refine wpAnyH_take (i := 5) (v := .int .i64 (k : Int)) rfl (by kernel_rfl) (by kernel_rfl) (by kernel_rfl) (fun _ _ _ h => h) (Or.inl ⟨by rfl, fun w' hS' => by go_simp⟩) hS0 ?_
                    change wpAnyH _ _ _ _ _ _ _ (Act.put _ (some 76) (.int .i64 (k : Int))) _
                    simp only [Act.put, List.setIfInBounds_toArray, List.set_cons_zero, List.set_cons_succ]
                    refine wpAnyH_take (i := 6) (v := .int .i64 ((k : Int) + 1)) rfl (by kernel_rfl) (by kernel_rfl) (by kernel_rfl) (fun _ _ _ h => h) (Or.inl ⟨by rfl, fun w' hS' => by have i1 := HI1.out; go_simp; try exact i1⟩) hS0 ?_
                    change wpAnyH _ _ _ _ _ _ _ (Act.put _ (some 77) (.int .i64 ((k : Int) + 1))) _
                    simp only [Act.put, List.setIfInBounds_toArray, List.set_cons_zero, List.set_cons_succ]
                    refine wpAnyH_take (i := 7) (v := .slice (some (ag.add (k * 4))) 1 (gc - k)) rfl (by kernel_rfl) (by kernel_rfl) (by kernel_rfl) (fun _ _ _ h => h) (Or.inl ⟨by rfl, fun w' hS' => by exact op_one_of rfl rfl rfl rfl rfl rfl (by have := HKG.out; omega) HGC2.out⟩) hS0 ?_
                    change wpAnyH _ _ _ _ _ _ _ (Act.put _ (some 78) (.slice (some (ag.add (k * 4))) 1 (gc - k))) _
                    simp only [Act.put, List.setIfInBounds_toArray, List.set_cons_zero, List.set_cons_succ]
                    refine wpAnyH_take (i := 8) (v := .slice (some af) n2 c2) rfl (by kernel_rfl) (by kernel_rfl) (by kernel_rfl) (fun _ _ _ h => h) (Or.inl ⟨by rfl, fun w' hS' => by go_simp⟩) hS0 ?_
                    change wpAnyH _ _ _ _ _ _ _ (Act.put _ (some 79) (.slice (some af) n2 c2)) _
                    simp only [Act.put, List.setIfInBounds_toArray, List.set_cons_zero, List.set_cons_succ]
                    refine wpAnyH_take (i := 9) (v := .int .i64 (k : Int)) rfl (by kernel_rfl) (by kernel_rfl) (by kernel_rfl) (fun _ _ _ h => h) (Or.inl ⟨by rfl, fun w' hS' => by go_simp⟩) hS0 ?_
                    change wpAnyH _ _ _ _ _ _ _ (Act.put _ (some 80) (.int .i64 (k : Int))) _
                    simp only [Act.put, List.setIfInBounds_toArray, List.set_cons_zero, List.set_cons_succ]
                    refine wpAnyH_take (i := 10) (v := .int .i64 (k : Int)) rfl (by kernel_rfl) (by kernel_rfl) (by kernel_rfl) (fun _ _ _ h => h) (Or.inl ⟨by rfl, fun w' hS' => by go_simp⟩) hS0 ?_
                    change wpAnyH _ _ _ _ _ _ _ (Act.put _ (some 81) (.int .i64 (k : Int))) _
                    simp only [Act.put, List.setIfInBounds_toArray, List.set_cons_zero, List.set_cons_succ]
                    refine wpAnyH_take (i := 11) (v := .int .i64 ((k : Int) + 1)) rfl (by kernel_rfl) (by kernel_rfl) (by kernel_rfl) (fun _ _ _ h => h) (Or.inl ⟨by rfl, fun w' hS' => by have i1 := HI1.out; go_simp; try exact i1⟩) hS0 ?_
                    change wpAnyH _ _ _ _ _ _ _ (Act.put _ (some 82) (.int .i64 ((k : Int) + 1))) _
                    simp only [Act.put, List.setIfInBounds_toArray, List.set_cons_zero, List.set_cons_succ]
                    refine wpAnyH_take (i := 12) (v := .slice (some (af.add (k * 4))) 1 (c2 - k)) rfl (by kernel_rfl) (by kernel_rfl) (by kernel_rfl) (fun _ _ _ h => h) (Or.inl ⟨by rfl, fun w' hS' => by exact op_one_of rfl rfl rfl rfl rfl rfl (by have := HKF.out; omega) HFC2.out⟩) hS0 ?_
                    change wpAnyH _ _ _ _ _ _ _ (Act.put _ (some 83) (.slice (some (af.add (k * 4))) 1 (c2 - k))) _
                    simp only [Act.put, List.setIfInBounds_toArray, List.set_cons_zero, List.set_cons_succ]
                    refine wpAnyH_ready (rs := [13]) (by kernel_rfl) (by simp) (AllReadyH.cons rfl (fun K hK => ?_) (AllReadyH.nil))
                    · skip
                      go_simp
                      refine (rsame_any (some (ag.add (k * 4))) (some (af.add (k * 4))) [x] 1 1 (gc - k) (c2 - k) _ (HG1.out.up hS0) (HF1.out.up hS0) rfl rfl HFX.out).mono ?_
                      rintro e W1 ⟨rfl, hq⟩
                      refine hK.out _ _ (hS0.trans ((Drew.below hq).mono hS0.size)) (fun hS2 => ?_)
                      clear hK K
                      simp only [List.setIfInBounds_toArray, List.set_cons_zero, List.set_cons_succ]
                      refine wpAnyH_take (i := 14) (v := .bool false) rfl (by kernel_rfl) (by kernel_rfl) (by kernel_rfl) (fun _ _ _ h => h) (Or.inl ⟨by rfl, fun w' hS' => by go_simp⟩) hS2 ?_
                      change wpAnyH _ _ _ _ _ _ _ (Act.put _ (some 85) (.bool false)) _
                      simp only [Act.put, List.setIfInBounds_toArray, List.set_cons_zero, List.set_cons_succ]
                      refine wpAnyH_take (i := 15) (v := .bool false) rfl (by kernel_rfl) (by kernel_rfl) (by kernel_rfl) (fun _ _ _ h => h) (Or.inl ⟨by rfl, fun w' hS' => by go_simp⟩) hS2 ?_
                      change wpAnyH _ _ _ _ _ _ _ (Act.put _ (some 86) (.bool false)) _
                      simp only [Act.put, List.setIfInBounds_toArray, List.set_cons_zero, List.set_cons_succ]
                      refine wpAnyH_take (i := 16) (v := .bool false) rfl (by kernel_rfl) (by kernel_rfl) (by kernel_rfl) (fun _ _ _ h => h) (Or.inl ⟨by rfl, fun w' hS' => by go_simp⟩) hS2 ?_
                      change wpAnyH _ _ _ _ _ _ _ (Act.put _ (some 87) (.bool false)) _
                      simp only [Act.put, List.setIfInBounds_toArray, List.set_cons_zero, List.set_cons_succ]
                      refine wpAnyH_take (i := 17) (v := .bool false) rfl (by kernel_rfl) (by kernel_rfl) (by kernel_rfl) (fun _ _ _ h => h) (Or.inl ⟨by rfl, fun w' hS' => by go_simp⟩) hS2 ?_
                      change wpAnyH _ _ _ _ _ _ _ (Act.put _ (some 88) (.bool false)) _
                      simp only [Act.put, List.setIfInBounds_toArray, List.set_cons_zero, List.set_cons_succ]
                      refine wpAnyH_take (i := 18) (v := .bool false) rfl (by kernel_rfl) (by kernel_rfl) (by kernel_rfl) (fun _ _ _ h => h) (Or.inl ⟨by rfl, fun w' hS' => by go_simp⟩) hS2 ?_
                      change wpAnyH _ _ _ _ _ _ _ (Act.put _ (some 89) (.bool false)) _
                      simp only [Act.put, List.setIfInBounds_toArray, List.set_cons_zero, List.set_cons_succ]
                      refine wpAnyH_take (i := 19) (v := undef) rfl (by kernel_rfl) (by kernel_rfl) (by kernel_rfl) (fun _ _ _ h => h) (Or.inr ⟨by rfl, rfl⟩) hS2 ?_
                      change wpAnyH _ _ _ _ _ _ _ (Act.put _ (some 90) (undef)) _
                      simp only [Act.put, List.setIfInBounds_toArray, List.set_cons_zero, List.set_cons_succ]
                      refine wpAnyH_take (i := 20) (v := undef) rfl (by kernel_rfl) (by kernel_rfl) (by kernel_rfl) (fun _ _ _ h => h) (Or.inr ⟨by rfl, rfl⟩) hS2 ?_
                      change wpAnyH _ _ _ _ _ _ _ (Act.put _ (some 91) (undef)) _
                      simp only [Act.put, List.setIfInBounds_toArray, List.set_cons_zero, List.set_cons_succ]
                      refine wpAnyH_take (i := 21) (v := undef) rfl (by kernel_rfl) (by kernel_rfl) (by kernel_rfl) (fun _ _ _ h => h) (Or.inr ⟨by rfl, rfl⟩) hS2 ?_
                      change wpAnyH _ _ _ _ _ _ _ (Act.put _ (some 92) (undef)) _
                      simp only [Act.put, List.setIfInBounds_toArray, List.set_cons_zero, List.set_cons_succ]
                      refine wpAnyH_take (i := 22) (v := undef) rfl (by kernel_rfl) (by kernel_rfl) (by kernel_rfl) (fun _ _ _ h => h) (Or.inr ⟨by rfl, rfl⟩) hS2 ?_
                      change wpAnyH _ _ _ _ _ _ _ (Act.put _ (some 93) (undef)) _
                      simp only [Act.put, List.setIfInBounds_toArray, List.set_cons_zero, List.set_cons_succ]
                      refine wpAnyH_take (i := 23) (v := undef) rfl (by kernel_rfl) (by kernel_rfl) (by kernel_rfl) (fun _ _ _ h => h) (Or.inr ⟨by rfl, rfl⟩) hS2 ?_
                      change wpAnyH _ _ _ _ _ _ _ (Act.put _ (some 94) (undef)) _
                      simp only [Act.put, List.setIfInBounds_toArray, List.set_cons_zero, List.set_cons_succ]
                      refine wpAnyH_take (i := 24) (v := undef) rfl (by kernel_rfl) (by kernel_rfl) (by kernel_rfl) (fun _ _ _ h => h) (Or.inr ⟨by rfl, rfl⟩) hS2 ?_
                      change wpAnyH _ _ _ _ _ _ _ (Act.put _ (some 95) (undef)) _
                      simp only [Act.put, List.setIfInBounds_toArray, List.set_cons_zero, List.set_cons_succ]
                      refine wpAnyH_take (i := 25) (v := undef) rfl (by kernel_rfl) (by kernel_rfl) (by kernel_rfl) (fun _ _ _ h => h) (Or.inr ⟨by rfl, rfl⟩) hS2 ?_
                      change wpAnyH _ _ _ _ _ _ _ (Act.put _ (some 96) (undef)) _
                      simp only [Act.put, List.setIfInBounds_toArray, List.set_cons_zero, List.set_cons_succ]
                      refine wpAnyH_take (i := 26) (v := undef) rfl (by kernel_rfl) (by kernel_rfl) (by kernel_rfl) (fun _ _ _ h => h) (Or.inr ⟨by rfl, rfl⟩) hS2 ?_
                      change wpAnyH _ _ _ _ _ _ _ (Act.put _ (some 97) (undef)) _
                      simp only [Act.put, List.setIfInBounds_toArray, List.set_cons_zero, List.set_cons_succ]
                      refine wpAnyH_take (i := 27) (v := undef) rfl (by kernel_rfl) (by kernel_rfl) (by kernel_rfl) (fun _ _ _ h => h) (Or.inr ⟨by rfl, rfl⟩) hS2 ?_
                      change wpAnyH _ _ _ _ _ _ _ (Act.put _ (some 98) (undef)) _
                      simp only [Act.put, List.setIfInBounds_toArray, List.set_cons_zero, List.set_cons_succ]
                      refine wpAnyH_take (i := 28) (v := undef) rfl (by kernel_rfl) (by kernel_rfl) (by kernel_rfl) (fun _ _ _ h => h) (Or.inr ⟨by rfl, rfl⟩) hS2 ?_
                      change wpAnyH _ _ _ _ _ _ _ (Act.put _ (some 99) (undef)) _
                      simp only [Act.put, List.setIfInBounds_toArray, List.set_cons_zero, List.set_cons_succ]
                      refine wpAnyH_take (i := 29) (v := undef) rfl (by kernel_rfl) (by kernel_rfl) (by kernel_rfl) (fun _ _ _ h => h) (Or.inr ⟨by rfl, rfl⟩) hS2 ?_
                      change wpAnyH _ _ _ _ _ _ _ (Act.put _ (some 100) (undef)) _
                      simp only [Act.put, List.setIfInBounds_toArray, List.set_cons_zero, List.set_cons_succ]
                      refine wpAnyH_take (i := 30) (v := undef) rfl (by kernel_rfl) (by kernel_rfl) (by kernel_rfl) (fun _ _ _ h => h) (Or.inr ⟨by rfl, rfl⟩) hS2 ?_
                      change wpAnyH _ _ _ _ _ _ _ (Act.put _ (some 101) (undef)) _
                      simp only [Act.put, List.setIfInBounds_toArray, List.set_cons_zero, List.set_cons_succ]
                      refine wpAnyH_take (i := 31) (v := undef) rfl (by kernel_rfl) (by kernel_rfl) (by kernel_rfl) (fun _ _ _ h => h) (Or.inr ⟨by rfl, rfl⟩) hS2 ?_
                      change wpAnyH _ _ _ _ _ _ _ (Act.put _ (some 102) (undef)) _
                      simp only [Act.put, List.setIfInBounds_toArray, List.set_cons_zero, List.set_cons_succ]
                      refine wpAnyH_take (i := 32) (v := undef) rfl (by kernel_rfl) (by kernel_rfl) (by kernel_rfl) (fun _ _ _ h => h) (Or.inr ⟨by rfl, rfl⟩) hS2 ?_
                      change wpAnyH _ _ _ _ _ _ _ (Act.put _ (some 103) (undef)) _
                      simp only [Act.put, List.setIfInBounds_toArray, List.set_cons_zero, List.set_cons_succ]
                      refine wpAnyH_take (i := 33) (v := undef) rfl (by kernel_rfl) (by kernel_rfl) (by kernel_rfl) (fun _ _ _ h => h) (Or.inr ⟨by rfl, rfl⟩) hS2 ?_
                      change wpAnyH _ _ _ _ _ _ _ (Act.put _ (some 104) (undef)) _
                      simp only [Act.put, List.setIfInBounds_toArray, List.set_cons_zero, List.set_cons_succ]
                      refine wpAnyH_take (i := 34) (v := undef) rfl (by kernel_rfl) (by kernel_rfl) (by kernel_rfl) (fun _ _ _ h => h) (Or.inr ⟨by rfl, rfl⟩) hS2 ?_
                      change wpAnyH _ _ _ _ _ _ _ (Act.put _ (some 105) (undef)) _
                      simp only [Act.put, List.setIfInBounds_toArray, List.set_cons_zero, List.set_cons_succ]
                      refine wpAnyH_take (i := 35) (v := undef) rfl (by kernel_rfl) (by kernel_rfl) (by kernel_rfl) (fun _ _ _ h => h) (Or.inr ⟨by rfl, rfl⟩) hS2 ?_
                      change wpAnyH _ _ _ _ _ _ _ (Act.put _ (some 106) (undef)) _
                      simp only [Act.put, List.setIfInBounds_toArray, List.set_cons_zero, List.set_cons_succ]
                      refine wpAnyH_take (i := 36) (v := undef) rfl (by kernel_rfl) (by kernel_rfl) (by kernel_rfl) (fun _ _ _ h => h) (Or.inr ⟨by rfl, rfl⟩) hS2 ?_
                      change wpAnyH _ _ _ _ _ _ _ (Act.put _ (some 107) (undef)) _
                      simp only [Act.put, List.setIfInBounds_toArray, List.set_cons_zero, List.set_cons_succ]
                      refine wpAnyH_take (i := 37) (v := undef) rfl (by kernel_rfl) (by kernel_rfl) (by kernel_rfl) (fun _ _ _ h => h) (Or.inr ⟨by rfl, rfl⟩) hS2 ?_
                      change wpAnyH _ _ _ _ _ _ _ (Act.put _ (some 108) (undef)) _
                      simp only [Act.put, List.setIfInBounds_toArray, List.set_cons_zero, List.set_cons_succ]
                      refine wpAnyH_take (i := 38) (v := undef) rfl (by kernel_rfl) (by kernel_rfl) (by kernel_rfl) (fun _ _ _ h => h) (Or.inr ⟨by rfl, rfl⟩) hS2 ?_
                      change wpAnyH _ _ _ _ _ _ _ (Act.put _ (some 109) (undef)) _
                      simp only [Act.put, List.setIfInBounds_toArray, List.set_cons_zero, List.set_cons_succ]
                      refine wpAnyH_take (i := 39) (v := undef) rfl (by kernel_rfl) (by kernel_rfl) (by kernel_rfl) (fun _ _ _ h => h) (Or.inr ⟨by rfl, rfl⟩) hS2 ?_
                      change wpAnyH _ _ _ _ _ _ _ (Act.put _ (some 110) (undef)) _
                      simp only [Act.put, List.setIfInBounds_toArray, List.set_cons_zero, List.set_cons_succ]
                      refine wpAnyH_take (i := 40) (v := undef) rfl (by kernel_rfl) (by kernel_rfl) (by kernel_rfl) (fun _ _ _ h => h) (Or.inr ⟨by rfl, rfl⟩) hS2 ?_
                      change wpAnyH _ _ _ _ _ _ _ (Act.put _ (some 111) (undef)) _
                      simp only [Act.put, List.setIfInBounds_toArray, List.set_cons_zero, List.set_cons_succ]
                      refine wpAnyH_take (i := 41) (v := undef) rfl (by kernel_rfl) (by kernel_rfl) (by kernel_rfl) (fun _ _ _ h => h) (Or.inr ⟨by rfl, rfl⟩) hS2 ?_
                      change wpAnyH _ _ _ _ _ _ _ (Act.put _ (some 112) (undef)) _
                      simp only [Act.put, List.setIfInBounds_toArray, List.set_cons_zero, List.set_cons_succ]
                      refine wpAnyH_take (i := 42) (v := undef) rfl (by kernel_rfl) (by kernel_rfl) (by kernel_rfl) (fun _ _ _ h => h) (Or.inr ⟨by rfl, rfl⟩) hS2 ?_
                      change wpAnyH _ _ _ _ _ _ _ (Act.put _ (some 113) (undef)) _
                      simp only [Act.put, List.setIfInBounds_toArray, List.set_cons_zero, List.set_cons_succ]
                      refine wpAnyH_take (i := 43) (v := undef) rfl (by kernel_rfl) (by kernel_rfl) (by kernel_rfl) (fun _ _ _ h => h) (Or.inr ⟨by rfl, rfl⟩) hS2 ?_
                      change wpAnyH _ _ _ _ _ _ _ (Act.put _ (some 114) (undef)) _
                      simp only [Act.put, List.setIfInBounds_toArray, List.set_cons_zero, List.set_cons_succ]
                      refine wpAnyH_take (i := 44) (v := undef) rfl (by kernel_rfl) (by kernel_rfl) (by kernel_rfl) (fun _ _ _ h => h) (Or.inr ⟨by rfl, rfl⟩) hS2 ?_
                      change wpAnyH _ _ _ _ _ _ _ (Act.put _ (some 115) (undef)) _
                      simp only [Act.put, List.setIfInBounds_toArray, List.set_cons_zero, List.set_cons_succ]
                      refine wpAnyH_take (i := 45) (v := undef) rfl (by kernel_rfl) (by kernel_rfl) (by kernel_rfl) (fun _ _ _ h => h) (Or.inr ⟨by rfl, rfl⟩) hS2 ?_
                      change wpAnyH _ _ _ _ _ _ _ (Act.put _ (some 116) (undef)) _
                      simp only [Act.put, List.setIfInBounds_toArray, List.set_cons_zero, List.set_cons_succ]
                      refine wpAnyH_take (i := 46) (v := undef) rfl (by kernel_rfl) (by kernel_rfl) (by kernel_rfl) (fun _ _ _ h => h) (Or.inr ⟨by rfl, rfl⟩) hS2 ?_
                      change wpAnyH _ _ _ _ _ _ _ (Act.put _ (some 117) (undef)) _
                      simp only [Act.put, List.setIfInBounds_toArray, List.set_cons_zero, List.set_cons_succ]
                      refine wpAnyH_take (i := 47) (v := undef) rfl (by kernel_rfl) (by kernel_rfl) (by kernel_rfl) (fun _ _ _ h => h) (Or.inr ⟨by rfl, rfl⟩) hS2 ?_
                      change wpAnyH _ _ _ _ _ _ _ (Act.put _ (some 118) (undef)) _
                      simp only [Act.put, List.setIfInBounds_toArray, List.set_cons_zero, List.set_cons_succ]
                      refine wpAnyH_take (i := 48) (v := undef) rfl (by kernel_rfl) (by kernel_rfl) (by kernel_rfl) (fun _ _ _ h => h) (Or.inr ⟨by rfl, rfl⟩) hS2 ?_
                      change wpAnyH _ _ _ _ _ _ _ (Act.put _ (some 119) (undef)) _
                      simp only [Act.put, List.setIfInBounds_toArray, List.set_cons_zero, List.set_cons_succ]
                      refine wpAnyH_take (i := 49) (v := .bool false) rfl (by kernel_rfl) (by kernel_rfl) (by kernel_rfl) (fun _ _ _ h => h) (Or.inl ⟨by rfl, fun w' hS' => by go_simp⟩) hS2 ?_
                      change wpAnyH _ _ _ _ _ _ _ (Act.put _ (some 120) (.bool false)) _
                      simp only [Act.put, List.setIfInBounds_toArray, List.set_cons_zero, List.set_cons_succ]
                      refine wpAnyH_take (i := 50) (v := .bool false) rfl (by kernel_rfl) (by kernel_rfl) (by kernel_rfl) (fun _ _ _ h => h) (Or.inl ⟨by rfl, fun w' hS' => by go_simp⟩) hS2 ?_
                      change wpAnyH _ _ _ _ _ _ _ (Act.put _ (some 121) (.bool false)) _
                      simp only [Act.put, List.setIfInBounds_toArray, List.set_cons_zero, List.set_cons_succ]
                      refine wpAnyH_done (by kernel_rfl) ?_ _
                      refine NoPanic.normal ?_
                      have HEND := Lib.hid hS2
                      go_wp2_with fail
                      go_roundw
                      case rel => exact ⟨k + 1, by omega, by go_num, Lib.hid (HW4.out.trans (HEND.out.mono HW4.out.size))⟩
                      case measure => simp [intOf]; omega
              | true =>
                have HT2 := Lib.hid t2
                have hmine := HBG.out.mine k x HX.out (by unfold Fl.txt; rw [text_eq HT1.out, text_eq t2])
                have HGX := Lib.hid hmine.1
                have HAF := Lib.hid hmine.2
                clear t2 hmine
                go_wp2_with fail
                refine wp_region_noPanic ?_
                refine wp_region_held_drew (S := fun W => Below v3.heap.size v3 W) (by kernel_rfl) ((Below.refl v3.heap.size v3).drew) (fun hS0 => ?_)
                change wpAnyH _ _ _ _ _ 21 #[false, false, false, false, false, false, false, false, false, false, false, false, false, false, false, false, false, false, false, false, false] _ (World.drew _)
                refine wpAnyH_take (i := 0) (v := .slice (some af) n2 c2) rfl (by kernel_rfl) (by kernel_rfl) (by kernel_rfl) (fun _ _ _ h => h) (Or.inl ⟨by rfl, fun w' hS' => by go_simp⟩) hS0 ?_
                change wpAnyH _ _ _ _ _ _ _ (Act.put _ (some 51) (.slice (some af) n2 c2)) _
                simp only [Act.put, List.setIfInBounds_toArray, List.set_cons_zero, List.set_cons_succ]
                refine wpAnyH_take (i := 1) (v := .int .i64 (k : Int)) rfl (by kernel_rfl) (by kernel_rfl) (by kernel_rfl) (fun _ _ _ h => h) (Or.inl ⟨by rfl, fun w' hS' => by go_simp⟩) hS0 ?_
                change wpAnyH _ _ _ _ _ _ _ (Act.put _ (some 52) (.int .i64 (k : Int))) _
                simp only [Act.put, List.setIfInBounds_toArray, List.set_cons_zero, List.set_cons_succ]
                refine wpAnyH_take (i := 2) (v := .pointer (some (af.add (k * 4)))) rfl (by kernel_rfl) (by kernel_rfl) (by kernel_rfl) (fun _ _ _ h => h) (Or.inl ⟨by rfl, fun w' hS' => by go_simp⟩) hS0 ?_
                change wpAnyH _ _ _ _ _ _ _ (Act.put _ (some 53) (.pointer (some (af.add (k * 4))))) _
                simp only [Act.put, List.setIfInBounds_toArray, List.set_cons_zero, List.set_cons_succ]
                refine wpAnyH_take (i := 3) (v := .pointer (some (af.add (k * 4)))) rfl (by kernel_rfl) (by kernel_rfl) (by kernel_rfl) (fun _ _ _ h => h) (Or.inl ⟨by rfl, fun w' hS' => by go_simp⟩) hS0 ?_
                change wpAnyH _ _ _ _ _ _ _ (Act.put _ (some 54) (.pointer (some (af.add (k * 4))))) _
                simp only [Act.put, List.setIfInBounds_toArray, List.set_cons_zero, List.set_cons_succ]
                refine wpAnyH_take (i := 4) (v := .string x.left) rfl (by kernel_rfl) (by kernel_rfl) (by kernel_rfl) (fun _ _ _ h => h) (Or.inl ⟨by rfl, fun w' hS' => by obtain ⟨f0, f1, f2, f3⟩ := HFC.out w' hS'; go_simp⟩) hS0 ?_
                change wpAnyH _ _ _ _ _ _ _ (Act.put _ (some 55) (.string x.left)) _
                simp only [Act.put, List.setIfInBounds_toArray, List.set_cons_zero, List.set_cons_succ]
                refine wpAnyH_take (i := 5) (v := .pointer (some ⟨gk, 0, none⟩)) rfl (by kernel_rfl) (by kernel_rfl) (by kernel_rfl) (fun _ _ _ h => h) (Or.inl ⟨by rfl, fun w' hS' => by go_simp⟩) hS0 ?_
                change wpAnyH _ _ _ _ _ _ _ (Act.put _ (some 56) (.pointer (some ⟨gk, 0, none⟩))) _
                simp only [Act.put, List.setIfInBounds_toArray, List.set_cons_zero, List.set_cons_succ]
                refine wpAnyH_take (i := 6) (v := .int .i64 k0) rfl (by kernel_rfl) (by kernel_rfl) (by kernel_rfl) (fun _ _ _ h => h) (Or.inl ⟨by rfl, fun w' hS' => by have u0 := HKC.out w' hS'; obtain ⟨u0, u1⟩ := u0; go_simp⟩) hS0 ?_
                change wpAnyH _ _ _ _ _ _ _ (Act.put _ (some 57) (.int .i64 k0)) _
                simp only [Act.put, List.setIfInBounds_toArray, List.set_cons_zero, List.set_cons_succ]
                refine wpAnyH_ready (rs := [7]) (by kernel_rfl) (by simp) (AllReadyH.cons rfl (fun K hK => ?_) (AllReadyH.nil))
                · skip
                  go_simp
                  refine (text_v k0 l HL.out _ HK0.out).mono ?_
                  rintro e W1 ⟨rfl, hb3⟩
                  refine hK.out _ _ (hS0.trans (hb3.mono hS0.size)) (fun hS2 => ?_)
                  clear hK K
                  simp only [List.setIfInBounds_toArray, List.set_cons_zero, List.set_cons_succ]
                  refine wpAnyH_take (i := 8) (v := .bool true) rfl (by kernel_rfl) (by kernel_rfl) (by kernel_rfl) (fun _ _ _ h => h) (Or.inl ⟨by rfl, fun w' hS' => by have t1 := HT1.out; go_simp⟩) hS2 ?_
                  change wpAnyH _ _ _ _ _ _ _ (Act.put _ (some 59) (.bool true)) _
                  simp only [Act.put, List.setIfInBounds_toArray, List.set_cons_zero, List.set_cons_succ]
                  refine wpAnyH_take (i := 9) (v := .bool true) rfl (by kernel_rfl) (by kernel_rfl) (by kernel_rfl) (fun _ _ _ h => h) (Or.inl ⟨by rfl, fun w' hS' => by go_simp⟩) hS2 ?_
                  change wpAnyH _ _ _ _ _ _ _ (Act.put _ (some 60) (.bool true)) _
                  simp only [Act.put, List.setIfInBounds_toArray, List.set_cons_zero, List.set_cons_succ]
                  refine wpAnyH_take (i := 10) (v := .slice (some af) n2 c2) rfl (by kernel_rfl) (by kernel_rfl) (by kernel_rfl) (fun _ _ _ h => h) (Or.inl ⟨by rfl, fun w' hS' => by go_simp⟩) hS2 ?_
                  change wpAnyH _ _ _ _ _ _ _ (Act.put _ (some 61) (.slice (some af) n2 c2)) _
                  simp only [Act.put, List.setIfInBounds_toArray, List.set_cons_zero, List.set_cons_succ]
                  refine wpAnyH_take (i := 11) (v := .int .i64 (k : Int)) rfl (by kernel_rfl) (by kernel_rfl) (by kernel_rfl) (fun _ _ _ h => h) (Or.inl ⟨by rfl, fun w' hS' => by go_simp⟩) hS2 ?_
                  change wpAnyH _ _ _ _ _ _ _ (Act.put _ (some 62) (.int .i64 (k : Int))) _
                  simp only [Act.put, List.setIfInBounds_toArray, List.set_cons_zero, List.set_cons_succ]
                  refine wpAnyH_take (i := 12) (v := .pointer (some (af.add (k * 4)))) rfl (by kernel_rfl) (by kernel_rfl) (by kernel_rfl) (fun _ _ _ h => h) (Or.inl ⟨by rfl, fun w' hS' => by go_simp⟩) hS2 ?_
                  change wpAnyH _ _ _ _ _ _ _ (Act.put _ (some 63) (.pointer (some (af.add (k * 4))))) _
                  simp only [Act.put, List.setIfInBounds_toArray, List.set_cons_zero, List.set_cons_succ]
                  refine wpAnyH_take (i := 13) (v := .pointer (some ⟨(af.add (k * 4)).block, (af.add (k * 4)).off + 1, none⟩)) rfl (by kernel_rfl) (by kernel_rfl) (by kernel_rfl) (fun _ _ _ h => h) (Or.inl ⟨by rfl, fun w' hS' => by go_simp⟩) hS2 ?_
                  change wpAnyH _ _ _ _ _ _ _ (Act.put _ (some 64) (.pointer (some ⟨(af.add (k * 4)).block, (af.add (k * 4)).off + 1, none⟩))) _
                  simp only [Act.put, List.setIfInBounds_toArray, List.set_cons_zero, List.set_cons_succ]
                  refine wpAnyH_take (i := 14) (v := .string x.right) rfl (by kernel_rfl) (by kernel_rfl) (by kernel_rfl) (fun _ _ _ h => h) (Or.inl ⟨by rfl, fun w' hS' => by obtain ⟨f0, f1, f2, f3⟩ := HFC.out w' hS'; go_simp⟩) hS2 ?_
                  change wpAnyH _ _ _ _ _ _ _ (Act.put _ (some 65) (.string x.right)) _
                  simp only [Act.put, List.setIfInBounds_toArray, List.set_cons_zero, List.set_cons_succ]
                  refine wpAnyH_take (i := 15) (v := .pointer (some ⟨gk, 1, none⟩)) rfl (by kernel_rfl) (by kernel_rfl) (by kernel_rfl) (fun _ _ _ h => h) (Or.inl ⟨by rfl, fun w' hS' => by go_simp⟩) hS2 ?_
                  change wpAnyH _ _ _ _ _ _ _ (Act.put _ (some 66) (.pointer (some ⟨gk, 1, none⟩))) _
                  simp only [Act.put, List.setIfInBounds_toArray, List.set_cons_zero, List.set_cons_succ]
                  refine wpAnyH_take (i := 16) (v := .int .i64 k1) rfl (by kernel_rfl) (by kernel_rfl) (by kernel_rfl) (fun _ _ _ h => h) (Or.inl ⟨by rfl, fun w' hS' => by have u1 := HKC.out w' hS'; obtain ⟨u0, u1⟩ := u1; go_simp⟩) hS2 ?_
                  change wpAnyH _ _ _ _ _ _ _ (Act.put _ (some 67) (.int .i64 k1)) _
                  simp only [Act.put, List.setIfInBounds_toArray, List.set_cons_zero, List.set_cons_succ]
                  refine wpAnyH_ready (rs := [17]) (by kernel_rfl) (by simp) (AllReadyH.cons rfl (fun K hK => ?_) (AllReadyH.nil))
                  · skip
                    go_simp
                    refine (text_v k1 r HR.out _ HK1.out).mono ?_
                    rintro e W4 ⟨rfl, hb6⟩
                    refine hK.out _ _ (hS2.trans (hb6.mono hS2.size)) (fun hS5 => ?_)
                    clear hK K
                    simp only [List.setIfInBounds_toArray, List.set_cons_zero, List.set_cons_succ]
                    refine wpAnyH_take (i := 18) (v := .bool true) rfl (by kernel_rfl) (by kernel_rfl) (by kernel_rfl) (fun _ _ _ h => h) (Or.inl ⟨by rfl, fun w' hS' => by have t2 := HT2.out; go_simp⟩) hS5 ?_
                    change wpAnyH _ _ _ _ _ _ _ (Act.put _ (some 69) (.bool true)) _
                    simp only [Act.put, List.setIfInBounds_toArray, List.set_cons_zero, List.set_cons_succ]
                    refine wpAnyH_take (i := 19) (v := .bool true) rfl (by kernel_rfl) (by kernel_rfl) (by kernel_rfl) (fun _ _ _ h => h) (Or.inl ⟨by rfl, fun w' hS' => by go_simp⟩) hS5 ?_
                    change wpAnyH _ _ _ _ _ _ _ (Act.put _ (some 70) (.bool true)) _
                    simp only [Act.put, List.setIfInBounds_toArray, List.set_cons_zero, List.set_cons_succ]
                    refine wpAnyH_take (i := 20) (v := .bool true) rfl (by kernel_rfl) (by kernel_rfl) (by kernel_rfl) (fun _ _ _ h => h) (Or.inl ⟨by rfl, fun w' hS' => by go_simp⟩) hS5 ?_
                    change wpAnyH _ _ _ _ _ _ _ (Act.put _ (some 11) (.bool true)) _
                    simp only [Act.put, List.setIfInBounds_toArray, List.set_cons_zero, List.set_cons_succ]
                    refine wpAnyH_done (by kernel_rfl) ?_ _
                    refine NoPanic.normal ?_
                    have HEN := Lib.hid hS5
                    obtain ⟨v4, hv4⟩ : ∃ v, v = W4 := ⟨_, rfl⟩
                    rw [← hv4] at HEN ⊢
                    clear hv4
                    go_wp2_with fail
                    have HW4 : Hid (Below v5.heap.size v5 v4) := Lib.hid (HW3.out.trans (HEN.out.mono HW3.out.size))
                    have HFC : Hid (∀ W, Below v4.heap.size v4 W → W.cell? (af.add (k * 4)) = some (.string x.left) ∧ W.cell? ⟨(af.add (k * 4)).block, (af.add (k * 4)).off + 1, none⟩ = some (.string x.right) ∧ W.cell? ⟨(af.add (k * 4)).block, (af.add (k * 4)).off + 2, none⟩ = some (.int .i64 x.by_) ∧ W.cell? ⟨(af.add (k * 4)).block, (af.add (k * 4)).off + 3, none⟩ = some (.slice fB m fcw)) := Lib.hid fun W hW => HFC.out W (HEN.out.trans (hW.mono HEN.out.size))
                    obtain ⟨gB, gcw, hgc⟩ : ∃ (gB : Option Addr) (gcw : Nat), ∀ W, Below v4.heap.size v4 W → W.cell? (ag.add (k * 4)) = some (.string x.left) ∧ W.cell? ⟨(ag.add (k * 4)).block, (ag.add (k * 4)).off + 1, none⟩ = some (.string x.right) ∧ W.cell? ⟨(ag.add (k * 4)).block, (ag.add (k * 4)).off + 2, none⟩ = some (.int .i64 x.by_) ∧ W.cell? ⟨(ag.add (k * 4)).block, (ag.add (k * 4)).off + 3, none⟩ = some (.slice gB (m + 1) gcw) := by
                      obtain ⟨b, gB, gcw, e, hbl, p0, p1, p2, p3, _, _⟩ := (HFG.out.up HW4.out).at_ HGX.out
                      injection e with e
                      subst e
                      refine ⟨gB, gcw, fun W hW => ⟨(hW.cell (by rw [add_block]; exact hbl)).trans p0, (hW.cell (by show (ag.add (k * 4)).block < _; rw [add_block]; exact hbl)).trans p1, (hW.cell (by show (ag.add (k * 4)).block < _; rw [add_block]; exact hbl)).trans p2, ?_⟩⟩
                      have hm9 : (x.wait ++ [(50 : Int)]).length = m + 1 := by rw [List.length_append, HM.out]; rfl
                      have p4 := (hW.cell (by show (ag.add (k * 4)).block < _; rw [add_block]; exact hbl)).trans p3
                      rw [← hm9]
                      exact p4
                    have HGC := Lib.hid hgc
                    have HI2 : Hid (IntKind.i64.wrap ((m : Int) + 1) = (m : Int) + 1) := Lib.hid (IntWalk.i64_in _ (by have := HM8.out; omega))
                    have ha := HAF.out
                    subst ha
                    clear hgc
                    refine wp_region_noPanic ?_
                    refine wp_region_held_drew (S := fun W => Below v4.heap.size v4 W) (by kernel_rfl) ((Below.refl v4.heap.size v4).drew) (fun hS0 => ?_)
                    change wpAnyH _ _ _ _ _ 51 #[false, false, false, false, false, false, false, false, false, false, false, false, false, false, false, false, false, false, false, false, false, false, false, false, false, false, false, false, false, false, false, false, false, false, false, false, false, false, false, false, false, false, false, false, false, false, false, false, false, false, false] _ (World.drew _)
                    refine wpAnyH_take (i := 0) (v := .bool true) rfl (by kernel_rfl) (by kernel_rfl) (by kernel_rfl) (fun _ _ _ h => h) (Or.inl ⟨by rfl, fun w' hS' => by go_simp⟩) hS0 ?_
                    change wpAnyH _ _ _ _ _ _ _ (Act.put _ (some 71) (.bool true)) _
                    simp only [Act.put, List.setIfInBounds_toArray, List.set_cons_zero, List.set_cons_succ]
                    refine wpAnyH_take (i := 1) (v := .bool false) rfl (by kernel_rfl) (by kernel_rfl) (by kernel_rfl) (fun _ _ _ h => h) (Or.inl ⟨by rfl, fun w' hS' => by go_simp⟩) hS0 ?_
                    change wpAnyH _ _ _ _ _ _ _ (Act.put _ (some 72) (.bool false)) _
                    simp only [Act.put, List.setIfInBounds_toArray, List.set_cons_zero, List.set_cons_succ]
                    refine wpAnyH_take (i := 2) (v := .bool false) rfl (by kernel_rfl) (by kernel_rfl) (by kernel_rfl) (fun _ _ _ h => h) (Or.inl ⟨by rfl, fun w' hS' => by go_simp⟩) hS0 ?_
                    change wpAnyH _ _ _ _ _ _ _ (Act.put _ (some 73) (.bool false)) _
                    simp only [Act.put, List.setIfInBounds_toArray, List.set_cons_zero, List.set_cons_succ]
                    refine wpAnyH_take (i := 3) (v := undef) rfl (by kernel_rfl) (by kernel_rfl) (by kernel_rfl) (fun _ _ _ h => h) (Or.inr ⟨by rfl, rfl⟩) hS0 ?_
                    change wpAnyH _ _ _ _ _ _ _ (Act.put _ (some 74) (undef)) _
                    simp only [Act.put, List.setIfInBounds_toArray, List.set_cons_zero, List.set_cons_succ]
                    refine wpAnyH_take (i := 4) (v := undef) rfl (by kernel_rfl) (by kernel_rfl) (by kernel_rfl) (fun _ _ _ h => h) (Or.inr ⟨by rfl, rfl⟩) hS0 ?_
                    change wpAnyH _ _ _ _ _ _ _ (Act.put _ (some 75) (undef)) _
                    simp only [Act.put, List.setIfInBounds_toArray, List.set_cons_zero, List.set_cons_succ]
                    refine wpAnyH_take (i := 5) (v := undef) rfl (by kernel_rfl) (by kernel_rfl) (by kernel_rfl) (fun _ _ _ h => h) (Or.inr ⟨by rfl, rfl⟩) hS0 ?_
                    change wpAnyH _ _ _ _ _ _ _ (Act.put _ (some 76) (undef)) _
                    simp only [Act.put, List.setIfInBounds_toArray, List.set_cons_zero, List.set_cons_succ]
                    refine wpAnyH_take (i := 6) (v := undef) rfl (by kernel_rfl) (by kernel_rfl) (by kernel_rfl) (fun _ _ _ h => h) (Or.inr ⟨by rfl, rfl⟩) hS0 ?_
                    change wpAnyH _ _ _ _ _ _ _ (Act.put _ (some 77) (undef)) _
                    simp only [Act.put, List.setIfInBounds_toArray, List.set_cons_zero, List.set_cons_succ]
                    refine wpAnyH_take (i := 7) (v := undef) rfl (by kernel_rfl) (by kernel_rfl) (by kernel_rfl) (fun _ _ _ h => h) (Or.inr ⟨by rfl, rfl⟩) hS0 ?_
                    change wpAnyH _ _ _ _ _ _ _ (Act.put _ (some 78) (undef)) _
                    simp only [Act.put, List.setIfInBounds_toArray, List.set_cons_zero, List.set_cons_succ]
                    refine wpAnyH_take (i := 8) (v := undef) rfl (by kernel_rfl) (by kernel_rfl) (by kernel_rfl) (fun _ _ _ h => h) (Or.inr ⟨by rfl, rfl⟩) hS0 ?_
                    change wpAnyH _ _ _ _ _ _ _ (Act.put _ (some 79) (undef)) _
                    simp only [Act.put, List.setIfInBounds_toArray, List.set_cons_zero, List.set_cons_succ]
                    refine wpAnyH_take (i := 9) (v := undef) rfl (by kernel_rfl) (by kernel_rfl) (by kernel_rfl) (fun _ _ _ h => h) (Or.inr ⟨by rfl, rfl⟩) hS0 ?_
                    change wpAnyH _ _ _ _ _ _ _ (Act.put _ (some 80) (undef)) _
                    simp only [Act.put, List.setIfInBounds_toArray, List.set_cons_zero, List.set_cons_succ]
                    refine wpAnyH_take (i := 10) (v := undef) rfl (by kernel_rfl) (by kernel_rfl) (by kernel_rfl) (fun _ _ _ h => h) (Or.inr ⟨by rfl, rfl⟩) hS0 ?_
                    change wpAnyH _ _ _ _ _ _ _ (Act.put _ (some 81) (undef)) _
                    simp only [Act.put, List.setIfInBounds_toArray, List.set_cons_zero, List.set_cons_succ]
                    refine wpAnyH_take (i := 11) (v := undef) rfl (by kernel_rfl) (by kernel_rfl) (by kernel_rfl) (fun _ _ _ h => h) (Or.inr ⟨by rfl, rfl⟩) hS0 ?_
                    change wpAnyH _ _ _ _ _ _ _ (Act.put _ (some 82) (undef)) _
                    simp only [Act.put, List.setIfInBounds_toArray, List.set_cons_zero, List.set_cons_succ]
                    refine wpAnyH_take (i := 12) (v := undef) rfl (by kernel_rfl) (by kernel_rfl) (by kernel_rfl) (fun _ _ _ h => h) (Or.inr ⟨by rfl, rfl⟩) hS0 ?_
                    change wpAnyH _ _ _ _ _ _ _ (Act.put _ (some 83) (undef)) _
                    simp only [Act.put, List.setIfInBounds_toArray, List.set_cons_zero, List.set_cons_succ]
                    refine wpAnyH_take (i := 13) (v := undef) rfl (by kernel_rfl) (by kernel_rfl) (by kernel_rfl) (fun _ _ _ h => h) (Or.inr ⟨by rfl, rfl⟩) hS0 ?_
                    change wpAnyH _ _ _ _ _ _ _ (Act.put _ (some 84) (undef)) _
                    simp only [Act.put, List.setIfInBounds_toArray, List.set_cons_zero, List.set_cons_succ]
                    refine wpAnyH_take (i := 14) (v := undef) rfl (by kernel_rfl) (by kernel_rfl) (by kernel_rfl) (fun _ _ _ h => h) (Or.inr ⟨by rfl, rfl⟩) hS0 ?_
                    change wpAnyH _ _ _ _ _ _ _ (Act.put _ (some 85) (undef)) _
                    simp only [Act.put, List.setIfInBounds_toArray, List.set_cons_zero, List.set_cons_succ]
                    refine wpAnyH_take (i := 15) (v := .bool false) rfl (by kernel_rfl) (by kernel_rfl) (by kernel_rfl) (fun _ _ _ h => h) (Or.inl ⟨by rfl, fun w' hS' => by go_simp⟩) hS0 ?_
                    change wpAnyH _ _ _ _ _ _ _ (Act.put _ (some 86) (.bool false)) _
                    simp only [Act.put, List.setIfInBounds_toArray, List.set_cons_zero, List.set_cons_succ]
                    refine wpAnyH_take (i := 16) (v := .bool false) rfl (by kernel_rfl) (by kernel_rfl) (by kernel_rfl) (fun _ _ _ h => h) (Or.inl ⟨by rfl, fun w' hS' => by go_simp⟩) hS0 ?_
                    change wpAnyH _ _ _ _ _ _ _ (Act.put _ (some 87) (.bool false)) _
                    simp only [Act.put, List.setIfInBounds_toArray, List.set_cons_zero, List.set_cons_succ]
                    refine wpAnyH_take (i := 17) (v := .bool true) rfl (by kernel_rfl) (by kernel_rfl) (by kernel_rfl) (fun _ _ _ h => h) (Or.inl ⟨by rfl, fun w' hS' => by go_simp⟩) hS0 ?_
                    change wpAnyH _ _ _ _ _ _ _ (Act.put _ (some 88) (.bool true)) _
                    simp only [Act.put, List.setIfInBounds_toArray, List.set_cons_zero, List.set_cons_succ]
                    refine wpAnyH_take (i := 18) (v := .bool true) rfl (by kernel_rfl) (by kernel_rfl) (by kernel_rfl) (fun _ _ _ h => h) (Or.inl ⟨by rfl, fun w' hS' => by go_simp⟩) hS0 ?_
                    change wpAnyH _ _ _ _ _ _ _ (Act.put _ (some 89) (.bool true)) _
                    simp only [Act.put, List.setIfInBounds_toArray, List.set_cons_zero, List.set_cons_succ]
                    refine wpAnyH_take (i := 19) (v := .bool false) rfl (by kernel_rfl) (by kernel_rfl) (by kernel_rfl) (fun _ _ _ h => h) (Or.inl ⟨by rfl, fun w' hS' => by go_simp⟩) hS0 ?_
                    change wpAnyH _ _ _ _ _ _ _ (Act.put _ (some 90) (.bool false)) _
                    simp only [Act.put, List.setIfInBounds_toArray, List.set_cons_zero, List.set_cons_succ]
                    refine wpAnyH_take (i := 20) (v := .bool false) rfl (by kernel_rfl) (by kernel_rfl) (by kernel_rfl) (fun _ _ _ h => h) (Or.inl ⟨by rfl, fun w' hS' => by go_simp⟩) hS0 ?_
                    change wpAnyH _ _ _ _ _ _ _ (Act.put _ (some 91) (.bool false)) _
                    simp only [Act.put, List.setIfInBounds_toArray, List.set_cons_zero, List.set_cons_succ]
                    refine wpAnyH_take (i := 21) (v := .slice (some ag) gn gc) rfl (by kernel_rfl) (by kernel_rfl) (by kernel_rfl) (fun _ _ _ h => h) (Or.inl ⟨by rfl, fun w' hS' => by go_simp⟩) hS0 ?_
                    change wpAnyH _ _ _ _ _ _ _ (Act.put _ (some 92) (.slice (some ag) gn gc)) _
                    simp only [Act.put, List.setIfInBounds_toArray, List.set_cons_zero, List.set_cons_succ]
                    refine wpAnyH_take (i := 22) (v := .int .i64 (k : Int)) rfl (by kernel_rfl) (by kernel_rfl) (by kernel_rfl) (fun _ _ _ h => h) (Or.inl ⟨by rfl, fun w' hS' => by go_simp⟩) hS0 ?_
                    change wpAnyH _ _ _ _ _ _ _ (Act.put _ (some 93) (.int .i64 (k : Int))) _
                    simp only [Act.put, List.setIfInBounds_toArray, List.set_cons_zero, List.set_cons_succ]
                    refine wpAnyH_take (i := 23) (v := .pointer (some (ag.add (k * 4)))) rfl (by kernel_rfl) (by kernel_rfl) (by kernel_rfl) (fun _ _ _ h => h) (Or.inl ⟨by rfl, fun w' hS' => by have hk9 := HKG.out; go_simp⟩) hS0 ?_
                    change wpAnyH _ _ _ _ _ _ _ (Act.put _ (some 94) (.pointer (some (ag.add (k * 4))))) _
                    simp only [Act.put, List.setIfInBounds_toArray, List.set_cons_zero, List.set_cons_succ]
                    refine wpAnyH_take (i := 24) (v := .pointer (some ⟨(ag.add (k * 4)).block, (ag.add (k * 4)).off + 2, none⟩)) rfl (by kernel_rfl) (by kernel_rfl) (by kernel_rfl) (fun _ _ _ h => h) (Or.inl ⟨by rfl, fun w' hS' => by go_simp⟩) hS0 ?_
                    change wpAnyH _ _ _ _ _ _ _ (Act.put _ (some 95) (.pointer (some ⟨(ag.add (k * 4)).block, (ag.add (k * 4)).off + 2, none⟩))) _
                    simp only [Act.put, List.setIfInBounds_toArray, List.set_cons_zero, List.set_cons_succ]
                    refine wpAnyH_take (i := 25) (v := .int .i64 x.by_) rfl (by kernel_rfl) (by kernel_rfl) (by kernel_rfl) (fun _ _ _ h => h) (Or.inl ⟨by rfl, fun w' hS' => by obtain ⟨g0, g1, g2, g3⟩ := HGC.out w' hS'; go_simp⟩) hS0 ?_
                    change wpAnyH _ _ _ _ _ _ _ (Act.put _ (some 96) (.int .i64 x.by_)) _
                    simp only [Act.put, List.setIfInBounds_toArray, List.set_cons_zero, List.set_cons_succ]
                    refine wpAnyH_take (i := 26) (v := .slice (some af) n2 c2) rfl (by kernel_rfl) (by kernel_rfl) (by kernel_rfl) (fun _ _ _ h => h) (Or.inl ⟨by rfl, fun w' hS' => by go_simp⟩) hS0 ?_
                    change wpAnyH _ _ _ _ _ _ _ (Act.put _ (some 97) (.slice (some af) n2 c2)) _
                    simp only [Act.put, List.setIfInBounds_toArray, List.set_cons_zero, List.set_cons_succ]
                    refine wpAnyH_take (i := 27) (v := .int .i64 (k : Int)) rfl (by kernel_rfl) (by kernel_rfl) (by kernel_rfl) (fun _ _ _ h => h) (Or.inl ⟨by rfl, fun w' hS' => by go_simp⟩) hS0 ?_
                    change wpAnyH _ _ _ _ _ _ _ (Act.put _ (some 98) (.int .i64 (k : Int))) _
                    simp only [Act.put, List.setIfInBounds_toArray, List.set_cons_zero, List.set_cons_succ]
                    refine wpAnyH_take (i := 28) (v := .pointer (some (af.add (k * 4)))) rfl (by kernel_rfl) (by kernel_rfl) (by kernel_rfl) (fun _ _ _ h => h) (Or.inl ⟨by rfl, fun w' hS' => by have hk9 := HKF.out; go_simp⟩) hS0 ?_
                    change wpAnyH _ _ _ _ _ _ _ (Act.put _ (some 99) (.pointer (some (af.add (k * 4))))) _
                    simp only [Act.put, List.setIfInBounds_toArray, List.set_cons_zero, List.set_cons_succ]
                    refine wpAnyH_take (i := 29) (v := .pointer (some ⟨(af.add (k * 4)).block, (af.add (k * 4)).off + 2, none⟩)) rfl (by kernel_rfl) (by kernel_rfl) (by kernel_rfl) (fun _ _ _ h => h) (Or.inl ⟨by rfl, fun w' hS' => by go_simp⟩) hS0 ?_
                    change wpAnyH _ _ _ _ _ _ _ (Act.put _ (some 100) (.pointer (some ⟨(af.add (k * 4)).block, (af.add (k * 4)).off + 2, none⟩))) _
                    simp only [Act.put, List.setIfInBounds_toArray, List.set_cons_zero, List.set_cons_succ]
                    refine wpAnyH_take (i := 30) (v := .int .i64 x.by_) rfl (by kernel_rfl) (by kernel_rfl) (by kernel_rfl) (fun _ _ _ h => h) (Or.inl ⟨by rfl, fun w' hS' => by obtain ⟨f0, f1, f2, f3⟩ := HFC.out w' hS'; go_simp⟩) hS0 ?_
                    change wpAnyH _ _ _ _ _ _ _ (Act.put _ (some 101) (.int .i64 x.by_)) _
                    simp only [Act.put, List.setIfInBounds_toArray, List.set_cons_zero, List.set_cons_succ]
                    refine wpAnyH_take (i := 31) (v := .bool false) rfl (by kernel_rfl) (by kernel_rfl) (by kernel_rfl) (fun _ _ _ h => h) (Or.inl ⟨by rfl, fun w' hS' => by go_simp⟩) hS0 ?_
                    change wpAnyH _ _ _ _ _ _ _ (Act.put _ (some 102) (.bool false)) _
                    simp only [Act.put, List.setIfInBounds_toArray, List.set_cons_zero, List.set_cons_succ]
                    refine wpAnyH_take (i := 32) (v := .bool false) rfl (by kernel_rfl) (by kernel_rfl) (by kernel_rfl) (fun _ _ _ h => h) (Or.inl ⟨by rfl, fun w' hS' => by go_simp⟩) hS0 ?_
                    change wpAnyH _ _ _ _ _ _ _ (Act.put _ (some 103) (.bool false)) _
                    simp only [Act.put, List.setIfInBounds_toArray, List.set_cons_zero, List.set_cons_succ]
                    refine wpAnyH_take (i := 33) (v := .bool false) rfl (by kernel_rfl) (by kernel_rfl) (by kernel_rfl) (fun _ _ _ h => h) (Or.inl ⟨by rfl, fun w' hS' => by go_simp⟩) hS0 ?_
                    change wpAnyH _ _ _ _ _ _ _ (Act.put _ (some 104) (.bool false)) _
                    simp only [Act.put, List.setIfInBounds_toArray, List.set_cons_zero, List.set_cons_succ]
                    refine wpAnyH_take (i := 34) (v := .slice (some ag) gn gc) rfl (by kernel_rfl) (by kernel_rfl) (by kernel_rfl) (fun _ _ _ h => h) (Or.inl ⟨by rfl, fun w' hS' => by go_simp⟩) hS0 ?_
                    change wpAnyH _ _ _ _ _ _ _ (Act.put _ (some 105) (.slice (some ag) gn gc)) _
                    simp only [Act.put, List.setIfInBounds_toArray, List.set_cons_zero, List.set_cons_succ]
                    refine wpAnyH_take (i := 35) (v := .int .i64 (k : Int)) rfl (by kernel_rfl) (by kernel_rfl) (by kernel_rfl) (fun _ _ _ h => h) (Or.inl ⟨by rfl, fun w' hS' => by go_simp⟩) hS0 ?_
                    change wpAnyH _ _ _ _ _ _ _ (Act.put _ (some 106) (.int .i64 (k : Int))) _
                    simp only [Act.put, List.setIfInBounds_toArray, List.set_cons_zero, List.set_cons_succ]
                    refine wpAnyH_take (i := 36) (v := .pointer (some (ag.add (k * 4)))) rfl (by kernel_rfl) (by kernel_rfl) (by kernel_rfl) (fun _ _ _ h => h) (Or.inl ⟨by rfl, fun w' hS' => by have hk9 := HKG.out; go_simp⟩) hS0 ?_
                    change wpAnyH _ _ _ _ _ _ _ (Act.put _ (some 107) (.pointer (some (ag.add (k * 4))))) _
                    simp only [Act.put, List.setIfInBounds_toArray, List.set_cons_zero, List.set_cons_succ]
                    refine wpAnyH_take (i := 37) (v := .pointer (some ⟨(ag.add (k * 4)).block, (ag.add (k * 4)).off + 3, none⟩)) rfl (by kernel_rfl) (by kernel_rfl) (by kernel_rfl) (fun _ _ _ h => h) (Or.inl ⟨by rfl, fun w' hS' => by go_simp⟩) hS0 ?_
                    change wpAnyH _ _ _ _ _ _ _ (Act.put _ (some 108) (.pointer (some ⟨(ag.add (k * 4)).block, (ag.add (k * 4)).off + 3, none⟩))) _
                    simp only [Act.put, List.setIfInBounds_toArray, List.set_cons_zero, List.set_cons_succ]
                    refine wpAnyH_take (i := 38) (v := .slice gB (m + 1) gcw) rfl (by kernel_rfl) (by kernel_rfl) (by kernel_rfl) (fun _ _ _ h => h) (Or.inl ⟨by rfl, fun w' hS' => by obtain ⟨g0, g1, g2, g3⟩ := HGC.out w' hS'; go_simp⟩) hS0 ?_
                    change wpAnyH _ _ _ _ _ _ _ (Act.put _ (some 109) (.slice gB (m + 1) gcw)) _
                    simp only [Act.put, List.setIfInBounds_toArray, List.set_cons_zero, List.set_cons_succ]
                    refine wpAnyH_take (i := 39) (v := .int .i64 ((m + 1 : Nat) : Int)) rfl (by kernel_rfl) (by kernel_rfl) (by kernel_rfl) (fun _ _ _ h => h) (Or.inl ⟨by rfl, fun w' hS' => by go_simp⟩) hS0 ?_
                    change wpAnyH _ _ _ _ _ _ _ (Act.put _ (some 110) (.int .i64 ((m + 1 : Nat) : Int))) _
                    simp only [Act.put, List.setIfInBounds_toArray, List.set_cons_zero, List.set_cons_succ]
                    refine wpAnyH_take (i := 40) (v := .slice (some af) n2 c2) rfl (by kernel_rfl) (by kernel_rfl) (by kernel_rfl) (fun _ _ _ h => h) (Or.inl ⟨by rfl, fun w' hS' => by go_simp⟩) hS0 ?_
                    change wpAnyH _ _ _ _ _ _ _ (Act.put _ (some 111) (.slice (some af) n2 c2)) _
                    simp only [Act.put, List.setIfInBounds_toArray, List.set_cons_zero, List.set_cons_succ]
                    refine wpAnyH_take (i := 41) (v := .int .i64 (k : Int)) rfl (by kernel_rfl) (by kernel_rfl) (by kernel_rfl) (fun _ _ _ h => h) (Or.inl ⟨by rfl, fun w' hS' => by go_simp⟩) hS0 ?_
                    change wpAnyH _ _ _ _ _ _ _ (Act.put _ (some 112) (.int .i64 (k : Int))) _
                    simp only [Act.put, List.setIfInBounds_toArray, List.set_cons_zero, List.set_cons_succ]
                    refine wpAnyH_take (i := 42) (v := .pointer (some (af.add (k * 4)))) rfl (by kernel_rfl) (by kernel_rfl) (by kernel_rfl) (fun _ _ _ h => h) (Or.inl ⟨by rfl, fun w' hS' => by have hk9 := HKF.out; go_simp⟩) hS0 ?_
                    change wpAnyH _ _ _ _ _ _ _ (Act.put _ (some 113) (.pointer (some (af.add (k * 4))))) _
                    simp only [Act.put, List.setIfInBounds_toArray, List.set_cons_zero, List.set_cons_succ]
                    refine wpAnyH_take (i := 43) (v := .pointer (some ⟨(af.add (k * 4)).block, (af.add (k * 4)).off + 3, none⟩)) rfl (by kernel_rfl) (by kernel_rfl) (by kernel_rfl) (fun _ _ _ h => h) (Or.inl ⟨by rfl, fun w' hS' => by go_simp⟩) hS0 ?_
                    change wpAnyH _ _ _ _ _ _ _ (Act.put _ (some 114) (.pointer (some ⟨(af.add (k * 4)).block, (af.add (k * 4)).off + 3, none⟩))) _
                    simp only [Act.put, List.setIfInBounds_toArray, List.set_cons_zero, List.set_cons_succ]
                    refine wpAnyH_take (i := 44) (v := .slice fB m fcw) rfl (by kernel_rfl) (by kernel_rfl) (by kernel_rfl) (fun _ _ _ h => h) (Or.inl ⟨by rfl, fun w' hS' => by obtain ⟨f0, f1, f2, f3⟩ := HFC.out w' hS'; go_simp⟩) hS0 ?_
                    change wpAnyH _ _ _ _ _ _ _ (Act.put _ (some 115) (.slice fB m fcw)) _
                    simp only [Act.put, List.setIfInBounds_toArray, List.set_cons_zero, List.set_cons_succ]
                    refine wpAnyH_take (i := 45) (v := .int .i64 ((m : Nat) : Int)) rfl (by kernel_rfl) (by kernel_rfl) (by kernel_rfl) (fun _ _ _ h => h) (Or.inl ⟨by rfl, fun w' hS' => by go_simp⟩) hS0 ?_
                    change wpAnyH _ _ _ _ _ _ _ (Act.put _ (some 116) (.int .i64 ((m : Nat) : Int))) _
                    simp only [Act.put, List.setIfInBounds_toArray, List.set_cons_zero, List.set_cons_succ]
                    refine wpAnyH_take (i := 46) (v := .int .i64 ((m + 1 : Nat) : Int)) rfl (by kernel_rfl) (by kernel_rfl) (by kernel_rfl) (fun _ _ _ h => h) (Or.inl ⟨by rfl, fun w' hS' => by have i2 := HI2.out; go_simp; try (first | exact i2 | omega)⟩) hS0 ?_
                    change wpAnyH _ _ _ _ _ _ _ (Act.put _ (some 117) (.int .i64 ((m + 1 : Nat) : Int))) _
                    simp only [Act.put, List.setIfInBounds_toArray, List.set_cons_zero, List.set_cons_succ]
                    refine wpAnyH_take (i := 47) (v := .bool false) rfl (by kernel_rfl) (by kernel_rfl) (by kernel_rfl) (fun _ _ _ h => h) (Or.inl ⟨by rfl, fun w' hS' => by go_simp⟩) hS0 ?_
                    change wpAnyH _ _ _ _ _ _ _ (Act.put _ (some 118) (.bool false)) _
                    simp only [Act.put, List.setIfInBounds_toArray, List.set_cons_zero, List.set_cons_succ]
                    refine wpAnyH_take (i := 48) (v := .bool false) rfl (by kernel_rfl) (by kernel_rfl) (by kernel_rfl) (fun _ _ _ h => h) (Or.inl ⟨by rfl, fun w' hS' => by go_simp⟩) hS0 ?_
                    change wpAnyH _ _ _ _ _ _ _ (Act.put _ (some 119) (.bool false)) _
                    simp only [Act.put, List.setIfInBounds_toArray, List.set_cons_zero, List.set_cons_succ]
                    refine wpAnyH_take (i := 49) (v := .bool false) rfl (by kernel_rfl) (by kernel_rfl) (by kernel_rfl) (fun _ _ _ h => h) (Or.inl ⟨by rfl, fun w' hS' => by go_simp⟩) hS0 ?_
                    change wpAnyH _ _ _ _ _ _ _ (Act.put _ (some 120) (.bool false)) _
                    simp only [Act.put, List.setIfInBounds_toArray, List.set_cons_zero, List.set_cons_succ]
                    refine wpAnyH_take (i := 50) (v := .bool false) rfl (by kernel_rfl) (by kernel_rfl) (by kernel_rfl) (fun _ _ _ h => h) (Or.inl ⟨by rfl, fun w' hS' => by go_simp⟩) hS0 ?_
                    change wpAnyH _ _ _ _ _ _ _ (Act.put _ (some 121) (.bool false)) _
                    simp only [Act.put, List.setIfInBounds_toArray, List.set_cons_zero, List.set_cons_succ]
                    refine wpAnyH_done (by kernel_rfl) ?_ _
                    refine NoPanic.normal ?_
                    have HEND := Lib.hid hS0
                    go_wp2_with fail
                    go_roundw
                    case rel => exact ⟨k + 1, by omega, by go_num, Lib.hid (HW4.out.trans (HEND.out.mono HW4.out.size))⟩
                    case measure => simp [intOf]; omega
          · obtain rfl : k = n2 := by omega
            cases a with
            | true =>
              have hd := HBG.out.done rfl
              have HD := Lib.hid hd
              clear hd
              go_wp2_with fail
              refine (idone3 gA G gn gc 50 _ F 0 [] HD.out (HFG.out.up HW3.out) HGN.out HBG.out.fit ⟨by omega, by omega⟩).mono ?_
              rintro e v8 ⟨tB, tm, td, hA, hn, hc, rfl, htm, _, _, hhn, _, hhf, hhb⟩
              obtain rfl : tm = 0 := htm.symm
              have HFH := Lib.hid hhf
              have HHN := Lib.hid hhn
              have HW8 := Lib.hid (below_step HW3.out hhb)
              have HKC : Hid (∀ W, Below v8.heap.size v8 W → W.cell? ⟨gk, 0, none⟩ = some (.int .i64 k0) ∧ W.cell? ⟨gk, 1, none⟩ = some (.int .i64 k1)) := Lib.hid fun W hW => HKC.out W (HW8.out.trans (hW.mono HW8.out.size))
              clear htm hhn hhf hhb
              go_wp2_with fail
              refine wp_region_noPanic ?_
              refine wp_region_held_drew (S := fun W => Below v8.heap.size v8 W) (by kernel_rfl) ((Below.refl v8.heap.size v8).drew) (fun hS0 => ?_)
              change wpAnyH _ _ _ _ _ 15 #[false, false, false, false, false, false, false, false, false, false, false, false, false, false, false] _ (World.drew _)
              refine wpAnyH_take (i := 0) (v := .slice hA hn hc) rfl (by kernel_rfl) (by kernel_rfl) (by kernel_rfl) (fun _ _ _ h => h) (Or.inl ⟨by rfl, fun w' hS' => by go_simp⟩) hS0 ?_
              change wpAnyH _ _ _ _ _ _ _ (Act.put _ (some 146) (.slice hA hn hc)) _
              simp only [Act.put, List.setIfInBounds_toArray, List.set_cons_zero, List.set_cons_succ]
              refine wpAnyH_take (i := 1) (v := .pointer (some ⟨gk, 0, none⟩)) rfl (by kernel_rfl) (by kernel_rfl) (by kernel_rfl) (fun _ _ _ h => h) (Or.inl ⟨by rfl, fun w' hS' => by go_simp⟩) hS0 ?_
              change wpAnyH _ _ _ _ _ _ _ (Act.put _ (some 147) (.pointer (some ⟨gk, 0, none⟩))) _
              simp only [Act.put, List.setIfInBounds_toArray, List.set_cons_zero, List.set_cons_succ]
              refine wpAnyH_take (i := 2) (v := .int .i64 k0) rfl (by kernel_rfl) (by kernel_rfl) (by kernel_rfl) (fun _ _ _ h => h) (Or.inl ⟨by rfl, fun w' hS' => by have u0 := HKC.out w' hS'; obtain ⟨u0, u1⟩ := u0; go_simp⟩) hS0 ?_
              change wpAnyH _ _ _ _ _ _ _ (Act.put _ (some 148) (.int .i64 k0)) _
              simp only [Act.put, List.setIfInBounds_toArray, List.set_cons_zero, List.set_cons_succ]
              refine wpAnyH_take (i := 4) (v := .pointer (some ⟨gk, 1, none⟩)) rfl (by kernel_rfl) (by kernel_rfl) (by kernel_rfl) (fun _ _ _ h => h) (Or.inl ⟨by rfl, fun w' hS' => by go_simp⟩) hS0 ?_
              change wpAnyH _ _ _ _ _ _ _ (Act.put _ (some 150) (.pointer (some ⟨gk, 1, none⟩))) _
              simp only [Act.put, List.setIfInBounds_toArray, List.set_cons_zero, List.set_cons_succ]
              refine wpAnyH_take (i := 5) (v := .int .i64 k1) rfl (by kernel_rfl) (by kernel_rfl) (by kernel_rfl) (fun _ _ _ h => h) (Or.inl ⟨by rfl, fun w' hS' => by have u1 := HKC.out w' hS'; obtain ⟨u0, u1⟩ := u1; go_simp⟩) hS0 ?_
              change wpAnyH _ _ _ _ _ _ _ (Act.put _ (some 151) (.int .i64 k1)) _
              simp only [Act.put, List.setIfInBounds_toArray, List.set_cons_zero, List.set_cons_succ]
              refine wpAnyH_ready (rs := [3]) (by kernel_rfl) (by simp) (AllReadyH.cons rfl (fun K hK => ?_) (AllReadyH.nil))
              · skip
                go_simp
                refine (text_v k0 l HL.out _ HK0.out).mono ?_
                rintro e W1 ⟨rfl, hb3⟩
                refine hK.out _ _ (hS0.trans (hb3.mono hS0.size)) (fun hS2 => ?_)
                clear hK K
                simp only [List.setIfInBounds_toArray, List.set_cons_zero, List.set_cons_succ]
                refine wpAnyH_ready (rs := [6]) (by kernel_rfl) (by simp) (AllReadyH.cons rfl (fun K hK => ?_) (AllReadyH.nil))
                · skip
                  go_simp
                  refine (text_v k1 r HR.out _ HK1.out).mono ?_
                  rintro e W4 ⟨rfl, hb6⟩
                  refine hK.out _ _ (hS2.trans (hb6.mono hS2.size)) (fun hS5 => ?_)
                  clear hK K
                  simp only [List.setIfInBounds_toArray, List.set_cons_zero, List.set_cons_succ]
                  refine wpAnyH_ready (rs := [7]) (by kernel_rfl) (by simp) (AllReadyH.cons rfl (fun K hK => ?_) (AllReadyH.nil))
                  · skip
                    go_simp
                    refine (ibegin3 hA F hn hc l r 50 _ G 0 true HBG.out.beg (HFH.out.up hS5) HHN.out HGF.out.fit ⟨by omega, by omega⟩ HLS.out HRS.out).mono ?_
                    rintro e W7 ⟨bA, bn, bc, rfl, bhn, bhc, bhf, bhb⟩
                    refine hK.out _ _ (hS5.trans (bhb.mono hS5.size)) (fun hS8 => ?_)
                    clear hK K
                    simp only [List.setIfInBounds_toArray, List.set_cons_zero, List.set_cons_succ]
                    refine wpAnyH_take (i := 8) (v := .tuple #[.bool true, .slice bA bn bc, .int .i64 0]) rfl (by kernel_rfl) (by kernel_rfl) (by kernel_rfl) (fun _ _ _ h => h) (Or.inl ⟨by rfl, fun w' hS' => by go_simp⟩) hS8 ?_
                    change wpAnyH _ _ _ _ _ _ _ (Act.put _ (some 145) (.tuple #[.bool true, .slice bA bn bc, .int .i64 0])) _
                    simp only [Act.put, List.setIfInBounds_toArray, List.set_cons_zero, List.set_cons_succ]
                    refine wpAnyH_take (i := 9) (v := .bool true) rfl (by kernel_rfl) (by kernel_rfl) (by kernel_rfl) (fun _ _ _ h => h) (Or.inl ⟨by rfl, fun w' hS' => by go_simp⟩) hS8 ?_
                    change wpAnyH _ _ _ _ _ _ _ (Act.put _ (some 154) (.bool true)) _
                    simp only [Act.put, List.setIfInBounds_toArray, List.set_cons_zero, List.set_cons_succ]
                    refine wpAnyH_take (i := 10) (v := .slice bA bn bc) rfl (by kernel_rfl) (by kernel_rfl) (by kernel_rfl) (fun _ _ _ h => h) (Or.inl ⟨by rfl, fun w' hS' => by go_simp⟩) hS8 ?_
                    change wpAnyH _ _ _ _ _ _ _ (Act.put _ (some 155) (.slice bA bn bc)) _
                    simp only [Act.put, List.setIfInBounds_toArray, List.set_cons_zero, List.set_cons_succ]
                    refine wpAnyH_take (i := 11) (v := .int .i64 0) rfl (by kernel_rfl) (by kernel_rfl) (by kernel_rfl) (fun _ _ _ h => h) (Or.inl ⟨by rfl, fun w' hS' => by go_simp⟩) hS8 ?_
                    change wpAnyH _ _ _ _ _ _ _ (Act.put _ (some 156) (.int .i64 0)) _
                    simp only [Act.put, List.setIfInBounds_toArray, List.set_cons_zero, List.set_cons_succ]
                    refine wpAnyH_take (i := 12) (v := .bool true) rfl (by kernel_rfl) (by kernel_rfl) (by kernel_rfl) (fun _ _ _ h => h) (Or.inl ⟨by rfl, fun w' hS' => by go_simp⟩) hS8 ?_
                    change wpAnyH _ _ _ _ _ _ _ (Act.put _ (some 18) (.bool true)) _
                    simp only [Act.put, List.setIfInBounds_toArray, List.set_cons_zero, List.set_cons_succ]
                    refine wpAnyH_take (i := 13) (v := .slice bA bn bc) rfl (by kernel_rfl) (by kernel_rfl) (by kernel_rfl) (fun _ _ _ h => h) (Or.inl ⟨by rfl, fun w' hS' => by go_simp⟩) hS8 ?_
                    change wpAnyH _ _ _ _ _ _ _ (Act.put _ (some 19) (.slice bA bn bc)) _
                    simp only [Act.put, List.setIfInBounds_toArray, List.set_cons_zero, List.set_cons_succ]
                    refine wpAnyH_take (i := 14) (v := .int .i64 0) rfl (by kernel_rfl) (by kernel_rfl) (by kernel_rfl) (fun _ _ _ h => h) (Or.inl ⟨by rfl, fun w' hS' => by go_simp⟩) hS8 ?_
                    change wpAnyH _ _ _ _ _ _ _ (Act.put _ (some 20) (.int .i64 0)) _
                    simp only [Act.put, List.setIfInBounds_toArray, List.set_cons_zero, List.set_cons_succ]
                    refine wpAnyH_done (by kernel_rfl) ?_ _
                    refine NoPanic.normal ?_
                    have HEN := Lib.hid hS8
                    obtain ⟨v9, hv9⟩ : ∃ v, v = W7 := ⟨_, rfl⟩
                    rw [← hv9] at HEN bhf ⊢
                    clear hv9 bhn bhc bhf bhb
                    go_wp2_with fail
                    refine (rsame_any hA A2 F hn k hc c2 _ (HFH.out.up HEN.out) ((HFF.out.up HW8.out).up HEN.out) HHN.out HFN.out HGF.out.fit).mono ?_
                    rintro e v10 ⟨rfl, hq⟩
                    have HW10 := Lib.hid (below_step (below_step (below_step HW.out HW8.out) HEN.out) (Drew.below hq))
                    clear hq
                    go_wp2_with fail
                    go_ret
                    exact ⟨rfl, HW10.out⟩
            | false =>
              have hd := HBG.out.leave rfl
              have HD := Lib.hid hd
              clear hd
              go_wp2_with fail
              refine (ileave3 gA G gn gc 50 _ F 0 HD.out (HFG.out.up HW3.out) HGN.out HBG.out.fit ⟨by omega, by omega⟩).mono ?_
              rintro e v8 ⟨hA, hn, hc, rfl, hhn, _, hhf, hhb⟩
              have HFH := Lib.hid hhf
              have HHN := Lib.hid hhn
              have HW8 := Lib.hid (below_step HW3.out hhb)
              have HKC : Hid (∀ W, Below v8.heap.size v8 W → W.cell? ⟨gk, 0, none⟩ = some (.int .i64 k0) ∧ W.cell? ⟨gk, 1, none⟩ = some (.int .i64 k1)) := Lib.hid fun W hW => HKC.out W (HW8.out.trans (hW.mono HW8.out.size))
              clear hhn hhf hhb
              go_wp2_with fail
              refine wp_region_noPanic ?_
              refine wp_region_held_drew (S := fun W => Below v8.heap.size v8 W) (by kernel_rfl) ((Below.refl v8.heap.size v8).drew) (fun hS0 => ?_)
              change wpAnyH _ _ _ _ _ 15 #[false, false, false, false, false, false, false, false, false, false, false, false, false, false, false] _ (World.drew _)
              refine wpAnyH_take (i := 0) (v := .slice hA hn hc) rfl (by kernel_rfl) (by kernel_rfl) (by kernel_rfl) (fun _ _ _ h => h) (Or.inl ⟨by rfl, fun w' hS' => by go_simp⟩) hS0 ?_
              change wpAnyH _ _ _ _ _ _ _ (Act.put _ (some 146) (.slice hA hn hc)) _
              simp only [Act.put, List.setIfInBounds_toArray, List.set_cons_zero, List.set_cons_succ]
              refine wpAnyH_take (i := 1) (v := .pointer (some ⟨gk, 0, none⟩)) rfl (by kernel_rfl) (by kernel_rfl) (by kernel_rfl) (fun _ _ _ h => h) (Or.inl ⟨by rfl, fun w' hS' => by go_simp⟩) hS0 ?_
              change wpAnyH _ _ _ _ _ _ _ (Act.put _ (some 147) (.pointer (some ⟨gk, 0, none⟩))) _
              simp only [Act.put, List.setIfInBounds_toArray, List.set_cons_zero, List.set_cons_succ]
              refine wpAnyH_take (i := 2) (v := .int .i64 k0) rfl (by kernel_rfl) (by kernel_rfl) (by kernel_rfl) (fun _ _ _ h => h) (Or.inl ⟨by rfl, fun w' hS' => by have u0 := HKC.out w' hS'; obtain ⟨u0, u1⟩ := u0; go_simp⟩) hS0 ?_
              change wpAnyH _ _ _ _ _ _ _ (Act.put _ (some 148) (.int .i64 k0)) _
              simp only [Act.put, List.setIfInBounds_toArray, List.set_cons_zero, List.set_cons_succ]
              refine wpAnyH_take (i := 4) (v := .pointer (some ⟨gk, 1, none⟩)) rfl (by kernel_rfl) (by kernel_rfl) (by kernel_rfl) (fun _ _ _ h => h) (Or.inl ⟨by rfl, fun w' hS' => by go_simp⟩) hS0 ?_
              change wpAnyH _ _ _ _ _ _ _ (Act.put _ (some 150) (.pointer (some ⟨gk, 1, none⟩))) _
              simp only [Act.put, List.setIfInBounds_toArray, List.set_cons_zero, List.set_cons_succ]
              refine wpAnyH_take (i := 5) (v := .int .i64 k1) rfl (by kernel_rfl) (by kernel_rfl) (by kernel_rfl) (fun _ _ _ h => h) (Or.inl ⟨by rfl, fun w' hS' => by have u1 := HKC.out w' hS'; obtain ⟨u0, u1⟩ := u1; go_simp⟩) hS0 ?_
              change wpAnyH _ _ _ _ _ _ _ (Act.put _ (some 151) (.int .i64 k1)) _
              simp only [Act.put, List.setIfInBounds_toArray, List.set_cons_zero, List.set_cons_succ]
              refine wpAnyH_ready (rs := [3]) (by kernel_rfl) (by simp) (AllReadyH.cons rfl (fun K hK => ?_) (AllReadyH.nil))
              · skip
                go_simp
                refine (text_v k0 l HL.out _ HK0.out).mono ?_
                rintro e W1 ⟨rfl, hb3⟩
                refine hK.out _ _ (hS0.trans (hb3.mono hS0.size)) (fun hS2 => ?_)
                clear hK K
                simp only [List.setIfInBounds_toArray, List.set_cons_zero, List.set_cons_succ]
                refine wpAnyH_ready (rs := [6]) (by kernel_rfl) (by simp) (AllReadyH.cons rfl (fun K hK => ?_) (AllReadyH.nil))
                · skip
                  go_simp
                  refine (text_v k1 r HR.out _ HK1.out).mono ?_
                  rintro e W4 ⟨rfl, hb6⟩
                  refine hK.out _ _ (hS2.trans (hb6.mono hS2.size)) (fun hS5 => ?_)
                  clear hK K
                  simp only [List.setIfInBounds_toArray, List.set_cons_zero, List.set_cons_succ]
                  refine wpAnyH_ready (rs := [7]) (by kernel_rfl) (by simp) (AllReadyH.cons rfl (fun K hK => ?_) (AllReadyH.nil))
                  · skip
                    go_simp
                    refine (ibegin3 hA F hn hc l r 50 _ G 0 false HBG.out.beg (HFH.out.up hS5) HHN.out HGF.out.fit ⟨by omega, by omega⟩ HLS.out HRS.out).mono ?_
                    rintro e W7 ⟨bA, bn, bc, rfl, bhn, bhc, bhf, bhb⟩
                    refine hK.out _ _ (hS5.trans (bhb.mono hS5.size)) (fun hS8 => ?_)
                    clear hK K
                    simp only [List.setIfInBounds_toArray, List.set_cons_zero, List.set_cons_succ]
                    refine wpAnyH_take (i := 8) (v := .tuple #[.bool false, .slice bA bn bc, .int .i64 0]) rfl (by kernel_rfl) (by kernel_rfl) (by kernel_rfl) (fun _ _ _ h => h) (Or.inl ⟨by rfl, fun w' hS' => by go_simp⟩) hS8 ?_
                    change wpAnyH _ _ _ _ _ _ _ (Act.put _ (some 145) (.tuple #[.bool false, .slice bA bn bc, .int .i64 0])) _
                    simp only [Act.put, List.setIfInBounds_toArray, List.set_cons_zero, List.set_cons_succ]
                    refine wpAnyH_take (i := 9) (v := .bool false) rfl (by kernel_rfl) (by kernel_rfl) (by kernel_rfl) (fun _ _ _ h => h) (Or.inl ⟨by rfl, fun w' hS' => by go_simp⟩) hS8 ?_
                    change wpAnyH _ _ _ _ _ _ _ (Act.put _ (some 154) (.bool false)) _
                    simp only [Act.put, List.setIfInBounds_toArray, List.set_cons_zero, List.set_cons_succ]
                    refine wpAnyH_take (i := 10) (v := .slice bA bn bc) rfl (by kernel_rfl) (by kernel_rfl) (by kernel_rfl) (fun _ _ _ h => h) (Or.inl ⟨by rfl, fun w' hS' => by go_simp⟩) hS8 ?_
                    change wpAnyH _ _ _ _ _ _ _ (Act.put _ (some 155) (.slice bA bn bc)) _
                    simp only [Act.put, List.setIfInBounds_toArray, List.set_cons_zero, List.set_cons_succ]
                    refine wpAnyH_take (i := 11) (v := .int .i64 0) rfl (by kernel_rfl) (by kernel_rfl) (by kernel_rfl) (fun _ _ _ h => h) (Or.inl ⟨by rfl, fun w' hS' => by go_simp⟩) hS8 ?_
                    change wpAnyH _ _ _ _ _ _ _ (Act.put _ (some 156) (.int .i64 0)) _
                    simp only [Act.put, List.setIfInBounds_toArray, List.set_cons_zero, List.set_cons_succ]
                    refine wpAnyH_take (i := 12) (v := .bool false) rfl (by kernel_rfl) (by kernel_rfl) (by kernel_rfl) (fun _ _ _ h => h) (Or.inl ⟨by rfl, fun w' hS' => by go_simp⟩) hS8 ?_
                    change wpAnyH _ _ _ _ _ _ _ (Act.put _ (some 18) (.bool false)) _
                    simp only [Act.put, List.setIfInBounds_toArray, List.set_cons_zero, List.set_cons_succ]
                    refine wpAnyH_take (i := 13) (v := .slice bA bn bc) rfl (by kernel_rfl) (by kernel_rfl) (by kernel_rfl) (fun _ _ _ h => h) (Or.inl ⟨by rfl, fun w' hS' => by go_simp⟩) hS8 ?_
                    change wpAnyH _ _ _ _ _ _ _ (Act.put _ (some 19) (.slice bA bn bc)) _
                    simp only [Act.put, List.setIfInBounds_toArray, List.set_cons_zero, List.set_cons_succ]
                    refine wpAnyH_take (i := 14) (v := .int .i64 0) rfl (by kernel_rfl) (by kernel_rfl) (by kernel_rfl) (fun _ _ _ h => h) (Or.inl ⟨by rfl, fun w' hS' => by go_simp⟩) hS8 ?_
                    change wpAnyH _ _ _ _ _ _ _ (Act.put _ (some 20) (.int .i64 0)) _
                    simp only [Act.put, List.setIfInBounds_toArray, List.set_cons_zero, List.set_cons_succ]
                    refine wpAnyH_done (by kernel_rfl) ?_ _
                    refine NoPanic.normal ?_
                    have HEN := Lib.hid hS8
                    obtain ⟨v9, hv9⟩ : ∃ v, v = W7 := ⟨_, rfl⟩
                    rw [← hv9] at HEN bhf ⊢
                    clear hv9 bhn bhc bhf bhb
                    go_wp2_with fail
                    refine (rsame_any hA A2 F hn k hc c2 _ (HFH.out.up HEN.out) ((HFF.out.up HW8.out).up HEN.out) HHN.out HFN.out HGF.out.fit).mono ?_
                    rintro e v10 ⟨rfl, hq⟩
                    have HW10 := Lib.hid (below_step (below_step (below_step HW.out HW8.out) HEN.out) (Drew.below hq))
                    clear hq
                    go_wp2_with fail
                    go_ret
                    exact ⟨rfl, HW10.out⟩

end Go.Proofs.Ytllkegonhghkcaa
