/-
  collatorlaw15.FlightTells returns true: which fills may be, who finds out, who is told, and who leaves, is as the document says. Nothing that was there is changed.
-/
import Derived.Test.YtllkegonhghkcaaTlp
import Derived.Test.YtllkegonhghkcaaApt
import Derived.Lib.MinMax
namespace Go.Proofs.Ytllkegonhghkcaa
open Go.RowKit P15

theorem op_texts2 (l r t0 t1 : ByteArray) (W : World) : ∃ g W1, (∀ (o : Oper) (a : Act) (p q : Nat), o.op = Op.buildSlice 35 2 #[(0, .tmp p), (1, .tmp q)] → a.eval (.tmp p) = .agg #[.string l, .string r] → a.eval (.tmp q) = .agg #[.string t0, .string t1] → (execOp a.eval o).run Try.prog W = .ok (.value (.slice (some ⟨g, 0, none⟩) 2 2)) W1) ∧
    Blk W1 g 33 #[.string l, .string r, .string t0, .string t1] ∧ Below W.heap.size W W1 := by
  refine ⟨W.heap.size, W.alloc (.cells #[.string l, .string r, .string t0, .string t1] 33), fun o a p q ho hp hq => ?_, Blk.new W _ _, (Below.refl _ _).alloc (Nat.le_refl _) _⟩
  have hp' : a.tmps[p]?.getD undef = .agg #[.string l, .string r] := by simpa [Act.eval] using hp
  have hq' : a.tmps[q]?.getD undef = .agg #[.string t0, .string t1] := by simpa [Act.eval] using hq
  simp only [execOp, ho]
  go_simp
theorem OwnC.nil' {w w1 : World} (h : Below w.heap.size w w1) : OwnC w w1 (.slice none 0 0) [] := ⟨[], OwnR.nil' h, fun x hx => (by cases hx), rfl⟩
theorem cut_snoc {R : List Fw} {k : Nat} {x : Fw} (h : R[k]? = some x) : (R.take (k + 1)).map cutF = (R.take k).map cutF ++ [⟨x.left, x.right, x.by_, x.wait.take 6⟩] := by
  rw [take_snoc h, List.map_append]; rfl

set_option maxHeartbeats 16000000 in
set_option maxRecDepth 100000 in
theorem tells_any (A : Option Addr) (R : List Fw) (n c : Nat) (B : Option Addr) (zs : List Tri) (zn zc : Nat) (l r : ByteArray) (k0 k1 who : Int) (w : World) (ha : RawG w A R) (hn : R.length = n) (hc : n ≤ c) (_hcm : c ≤ 9223372036854775807) (hz : TrisAt w B zs) (hzn : zs.length = zn) (hz1 : zn ≤ 9223372036854775807) (hzf : ∀ z ∈ zs, TriFit z) (hl : Txt l) (hr : Txt r) (hk0 : I64 k0) (hk1 : I64 k1) (hw : I64 who) :
    Calls Try.prog 3 #[.slice A n c, .slice B zn zc, .string l, .string r, .agg #[.int .i64 k0, .int .i64 k1], .int .i64 who] w fun e w' => e = .returned (.bool true) ∧ Below w.heap.size w w' := by
  subst hn hzn
  have HA := Lib.hid ha
  have HZ := Lib.hid hz
  have HZF := Lib.hid hzf
  have HTXL := Lib.hid hl
  have HTXR := Lib.hid hr
  have HK0 := Lib.hid hk0
  have HK1 := Lib.hid hk1
  have HWHO := Lib.hid hw
  have HLO := Lib.hid (odd_lim ha)
  obtain ⟨t0, ht0⟩ : ∃ t, textOf k0 = t := ⟨_, rfl⟩
  obtain ⟨t1, ht1⟩ : ∃ t, textOf k1 = t := ⟨_, rfl⟩
  have HT0 := Lib.hid ht0
  have HT1 := Lib.hid ht1
  obtain ⟨p9, hp9⟩ : ∃ p, pickI who 9 = p := ⟨_, rfl⟩
  have HP9 := Lib.hid hp9
  have HP9I : Hid (I64 p9) := Lib.hid (by rw [← hp9]; have := pickI_range who 9 (by omega); exact ⟨by omega, by omega⟩)
  clear ha hz hzf hl hr hk0 hk1 hw ht0 ht1 hp9
  go_enter Try.func3, Try.ntmps3
  go_upto_region 1 with (fail)
  obtain ⟨gk, w1, hgk, hw1, hbk, hbe1⟩ := box_new w 24 #[.int .i64 k0, .int .i64 k1]
  rw [← hw1, ← hgk]
  have HKC : Hid (∀ W, Below w1.heap.size w1 W → W.cell? ⟨gk, 0, none⟩ = some (.int .i64 k0) ∧ W.cell? ⟨gk, 1, none⟩ = some (.int .i64 k1)) := Lib.hid fun W hW => ⟨(Blk.below hbk hW hbk.lt).cell 0, (Blk.below hbk hW hbk.lt).cell 1⟩
  have HW := Lib.hid hbe1
  clear hgk hw1 hbk hbe1
  go_wp2_with fail
  refine (awake_any _).mono ?_
  rintro e wa ⟨rfl, hb⟩
  have HW := Lib.hid (below_step HW.out hb)
  have HKC : Hid (∀ W, Below wa.heap.size wa W → W.cell? ⟨gk, 0, none⟩ = some (.int .i64 k0) ∧ W.cell? ⟨gk, 1, none⟩ = some (.int .i64 k1)) := Lib.hid fun W hW => HKC.out W (below_step hb hW)
  clear hb
  go_wp2_with fail
  go_loopw [14, 15] (fun v i wr => ∃ (k : Nat) (Ao : Option Addr) (co : Nat), k ≤ R.length ∧ k ≤ 6 ∧ v = .slice Ao k co ∧ i = .int .i64 k ∧ Hid (OwnC wa wr (.slice Ao k co) ((R.take k).map cutF)) ∧ Hid (Below wa.heap.size wa wr)) (fun _ i _ => 6 - (intOf i).toNat)
  case atStart => exact ⟨0, none, 0, Nat.zero_le _, Nat.zero_le _, rfl, rfl, Lib.hid (OwnC.nil wa), Lib.hid (Below.refl _ _)⟩
  case round =>
    obtain ⟨k, Ao, co, hk, hk6, rfl, rfl, HO, HWR⟩ := hrel
    obtain ⟨v3, rfl⟩ : ∃ w3, w3 = wr := ⟨_, rfl⟩
    by_cases gend : k < R.length ∧ k < 6
    · obtain ⟨g1, g2⟩ := gend
      have t9 : decide ((k : Int) < 6) = true := decide_eq_true (by omega)
      obtain ⟨x, hx⟩ : ∃ x, R[k]? = some x := ⟨_, List.getElem?_eq_getElem g1⟩
      have hrow := HA.out.row.up (HW.out)
      have hrow := hrow.up HWR.out
      obtain ⟨a, rfl, hal, hcell⟩ := hrow.at_ hx
      have hwt := (HA.out.wait x (List.mem_of_getElem? hx)).up HW.out
      have c0 : v3.cell? (a.add (k * 4)) = some (.string x.left) := hcell 0 _ rfl
      have c1 : v3.cell? ⟨(a.add (k * 4)).block, (a.add (k * 4)).off + 1, none⟩ = some (.string x.right) := by rw [field_at _ _ 1 (by decide)]; exact hcell 1 _ rfl
      have c2 : v3.cell? ⟨(a.add (k * 4)).block, (a.add (k * 4)).off + 2, none⟩ = some (.int .i64 x.by_) := by rw [field_at _ _ 2 (by decide)]; exact hcell 2 _ rfl
      have c3 : v3.cell? ⟨(a.add (k * 4)).block, (a.add (k * 4)).off + 3, none⟩ = some (.slice x.adr x.wait.length x.cap) := by rw [field_at _ _ 3 (by decide)]; exact hcell 3 _ rfl
      obtain ⟨m, hm⟩ : ∃ m, m = x.wait.length := ⟨_, rfl⟩
      obtain ⟨xa, hxa⟩ : ∃ xa, xa = x.adr := ⟨_, rfl⟩
      obtain ⟨xc, hxc⟩ : ∃ xc, xc = x.cap := ⟨_, rfl⟩
      rw [← hm, ← hxa, ← hxc] at c3
      have HX := Lib.hid hx
      have hmc : m ≤ xc := by rw [hm, hxc]; exact hwt.cap
      have hxcm : xc ≤ 9223372036854775807 := by
        have := (HA.out.fit x (List.mem_of_getElem? hx)).2.2.2.2
        rw [hxc]; unfold maxLen at this; omega
      have HWI : Hid (IntsAt wa xa x.wait) := Lib.hid (by rw [hxa]; exact hwt.ints)
      have HM := Lib.hid hm
      clear hx hrow hcell hwt hm hxa hxc
      go_upto_region 7 with (fail)
      obtain ⟨g4, v4, hg4, hv4, hb4, hbe4⟩ := box_new v3 28 #[.string x.left, .string x.right, .int .i64 x.by_, .slice xa m xc]
      rw [← hv4, ← hg4]
      have HB4 := Lib.hid hb4
      have HBE4 := Lib.hid hbe4
      have HG4 : Hid (v3.heap.size ≤ g4) := Lib.hid (by omega)
      clear c0 c1 c2 c3 hg4 hv4 hb4 hbe4
      obtain ⟨y0, y1, y2, y3⟩ := blk4 HB4.out
      have q3 := Blk.frozen HB4.out 3
      go_upto_region 8 with (fail)
      obtain ⟨j, hj⟩ : ∃ j, (min (m : Int) 6).toNat = j := ⟨_, rfl⟩
      have hjm : j = min m 6 := by omega
      rw [hj]
      have hb5 := Blk.set_ HB4.out 3 (.slice xa j xc)
      have hbe5 : Below v3.heap.size v3 (v4.setCell ⟨g4, 3, none⟩ (.slice xa j xc)) := HBE4.out.setCell HG4.out _
      obtain ⟨v5, hv5⟩ : ∃ v, v = v4.setCell ⟨g4, 3, none⟩ (.slice xa j xc) := ⟨_, rfl⟩
      rw [← hv5] at hb5 hbe5 ⊢
      have hlj : (x.wait.take 6).length = j := by rw [List.length_take, ← HM.out, hjm]; omega
      obtain ⟨A7, c7, v7, hr7, ho7, hg7⟩ := (HO.out.up hbe5).push x.left x.right x.by_ (x.wait.take 6) xa xc ⟨HWI.out.take 6, by show (x.wait.take 6).length ≤ xc; rw [hlj]; omega⟩ j hlj (k + 1) (by rw [List.length_map, List.length_take]; omega) (by omega)
      have HR7 := Lib.hid hr7
      have HO7 := Lib.hid ho7
      clear y0 y1 y2 y3 q3 hj hjm hbe5 hv5 hlj hr7 ho7 hg7
      obtain ⟨y0, y1, y2, y3⟩ : v5.cell? ⟨g4, 0, none⟩ = some (.string x.left) ∧ v5.cell? ⟨g4, 1, none⟩ = some (.string x.right) ∧ v5.cell? ⟨g4, 2, none⟩ = some (.int .i64 x.by_) ∧ v5.cell? ⟨g4, 3, none⟩ = some (.slice xa j xc) := ⟨hb5.cell 0, hb5.cell 1, hb5.cell 2, hb5.cell 3⟩
      clear hb5
      go_wp2_with (at_builtin; refine wpList_append_run rfl rfl (by simp [Region.wanted]) rfl rfl HR7.out ?_; clear HR7)
      go_roundw
      case rel => exact ⟨k + 1, A7, c7, by omega, by omega, rfl, by go_num, Lib.hid (by rw [cut_snoc HX.out]; exact HO7.out), Lib.hid HO7.out.below⟩
      case measure => simp [intOf]; omega
    · have hodd : (R.take k).map cutF = oddF R := by
        unfold oddF
        rcases (show R.length ≤ k ∨ k = 6 from by omega) with h | h
        · rw [List.take_of_length_le h, List.take_of_length_le (by omega)]
        · rw [h]
      have HOD : Hid (OwnC wa v3 (.slice Ao k co) (oddF R)) := Lib.hid (by rw [← hodd]; exact HO.out)
      have hat := HOD.out.at_
      have HNO := Lib.hid hat.1
      have HCO := Lib.hid hat.2.1
      have HFO := Lib.hid hat.2.2
      have HW := Lib.hid (below_step HW.out HWR.out)
      have HKC : Hid (∀ W, Below v3.heap.size v3 W → W.cell? ⟨gk, 0, none⟩ = some (.int .i64 k0) ∧ W.cell? ⟨gk, 1, none⟩ = some (.int .i64 k1)) := Lib.hid fun W hW => HKC.out W (below_step HWR.out hW)
      clear hodd hat HO
      by_cases g1 : k < R.length
      · have t9 : decide ((k : Int) < 6) = false := decide_eq_false (by omega)
        clear gend
        go_wp2_with fail
        refine (fills_any B zs zs.length zc _ (HZ.out.up HW.out) rfl hz1 HZF.out).mono ?_
        rintro e v8 ⟨A8, n8, c8, rfl, hn8, hc8, hf8, hb⟩
        have HN8 := Lib.hid hn8
        have HC8 := Lib.hid hc8
        have HF8 := Lib.hid hf8
        have HL8 : Hid (Lim (fillsOf zs) 8) := Lib.hid (fillsOf_good zs).lim
        have HFO := Lib.hid (HFO.out.up hb)
        have HW := Lib.hid (below_step HW.out hb)
        have HKC : Hid (∀ W, Below v8.heap.size v8 W → W.cell? ⟨gk, 0, none⟩ = some (.int .i64 k0) ∧ W.cell? ⟨gk, 1, none⟩ = some (.int .i64 k1)) := Lib.hid fun W hW => HKC.out W (below_step hb hW)
        clear hn8 hc8 hf8 hb
        go_upto_region 10 with (fail)
        obtain ⟨g30, v9, hg30, hv9, hb30, hbe30⟩ := box_new v8 22 #[.slice Ao k co, .slice A8 n8 c8]
        rw [← hv9, ← hg30]
        have HB30 := Lib.hid hb30
        have HFO := Lib.hid (HFO.out.up hbe30)
        have HF8 := Lib.hid (HF8.out.up hbe30)
        have HW := Lib.hid (below_step HW.out hbe30)
        have HKC : Hid (∀ W, Below v9.heap.size v9 W → W.cell? ⟨gk, 0, none⟩ = some (.int .i64 k0) ∧ W.cell? ⟨gk, 1, none⟩ = some (.int .i64 k1)) := Lib.hid fun W hW => HKC.out W (below_step hbe30 hW)
        clear hg30 hv9 hb30 hbe30
        go_wp2_with fail
        go_loopw [71] (fun i wr => ∃ j : Nat, j ≤ 2 ∧ i = .int .i64 j ∧ Hid (Below v9.heap.size v9 wr)) (fun i _ => 2 - (intOf i).toNat)
        case atStart => exact ⟨0, Nat.zero_le _, rfl, Lib.hid (Below.refl _ _)⟩
        case round =>
          obtain ⟨j1, hj1, rfl, HW9⟩ := hrel
          obtain ⟨v10, rfl⟩ : ∃ w3, w3 = wr := ⟨_, rfl⟩
          by_cases g1 : j1 < 2
          · have t9 : decide ((j1 : Int) < 2) = true := decide_eq_true (by omega)
            obtain ⟨Lf, Af, nf, cf, HFL, HNF, HCF, HLIM, c0⟩ : ∃ (Lf : List Fl) (Af : Option Addr) (nf cf : Nat), Hid (FillsAt v10 Af Lf) ∧ Hid (Lf.length = nf) ∧ Hid (nf ≤ cf) ∧ Hid (Lim Lf 8) ∧ v10.cell? ⟨g30, j1, none⟩ = some (.slice Af nf cf) := by
              have hb := Blk.below HB30.out HW9.out HB30.out.lt
              rcases (show j1 = 0 ∨ j1 = 1 from by omega) with rfl | rfl
              · exact ⟨oddF R, Ao, k, co, Lib.hid (HFO.out.up HW9.out), HNO, HCO, HLO, hb.cell 0⟩
              · exact ⟨fillsOf zs, A8, n8, c8, Lib.hid (HF8.out.up HW9.out), HN8, HC8, HL8, hb.cell 1⟩
            have hadd1 := add_zero_block g30 j1
            obtain ⟨bR, hbR⟩ : ∃ bR, rightB Lf = bR := ⟨_, rfl⟩
            have HBR := Lib.hid hbR
            clear hbR
            go_wp2_with fail
            refine (iright_any Af Lf nf cf bR HBR.out _ HFL.out HNF.out (HLIM.out.fit (by omega))).mono ?_
            rintro e v11 ⟨rfl, hb⟩
            have HFL := Lib.hid (HFL.out.up hb)
            have HE11 := Lib.hid hb
            clear hb c0 hadd1
            go_wp2_with fail
            refine (rright_any Af Lf nf cf bR HBR.out _ HFL.out HNF.out (HLIM.out.fit (by omega))).mono ?_
            rintro e va ⟨rfl, hb⟩
            have HFL := Lib.hid (HFL.out.up hb)
            have HE11 := Lib.hid (below_step HE11.out hb)
            clear hb
            have hbb : (bR != bR) = false := by simp
            go_wp2_with fail
            refine (pick15_v who 9 p9 HP9.out _ HWHO.out (by omega) (by omega)).mono ?_
            rintro e w' ⟨rfl, rfl⟩
            go_upto_region 15 with (fail)
            obtain ⟨g26, v12, hg26, hv12, hb26, hbe26⟩ := box_new va 3 #[.int .i64 who, .int .i64 p9]
            rw [← hv12, ← hg26]
            have HB26 := Lib.hid hb26
            have HFL12 := Lib.hid (HFL.out.up hbe26)
            have HE12 := Lib.hid (below_step HE11.out hbe26)
            have HKC : Hid (∀ W, Below v12.heap.size v12 W → W.cell? ⟨gk, 0, none⟩ = some (.int .i64 k0) ∧ W.cell? ⟨gk, 1, none⟩ = some (.int .i64 k1)) := Lib.hid (by
              have h2 := below_step HW9.out (below_step HE11.out hbe26)
              exact fun W hW => HKC.out W (below_step h2 hW))
            clear hbb hg26 hv12 hb26 hbe26
            go_wp2_with fail
            go_loopw [85] (fun i wr => ∃ j : Nat, j ≤ 2 ∧ i = .int .i64 j ∧ Hid (Below v12.heap.size v12 wr)) (fun i _ => 2 - (intOf i).toNat)
            case atStart => exact ⟨0, Nat.zero_le _, rfl, Lib.hid (Below.refl _ _)⟩
            case round =>
              obtain ⟨j2, hj2, rfl, HW12⟩ := hrel
              obtain ⟨v13, rfl⟩ : ∃ w3, w3 = wr := ⟨_, rfl⟩
              by_cases g2 : j2 < 2
              · have t9 : decide ((j2 : Int) < 2) = true := decide_eq_true (by omega)
                obtain ⟨wv, HWV, c0⟩ : ∃ wv, Hid (I64 wv) ∧ v13.cell? ⟨g26, j2, none⟩ = some (.int .i64 wv) := by
                  have hb := Blk.below HB26.out HW12.out HB26.out.lt
                  rcases (show j2 = 0 ∨ j2 = 1 from by omega) with rfl | rfl
                  · exact ⟨who, HWHO, hb.cell 0⟩
                  · exact ⟨p9, HP9I, hb.cell 1⟩
                have hadd2 := add_zero_block g26 j2
                have HKC : Hid (∀ W, Below v13.heap.size v13 W → W.cell? ⟨gk, 0, none⟩ = some (.int .i64 k0) ∧ W.cell? ⟨gk, 1, none⟩ = some (.int .i64 k1)) := Lib.hid fun W hW => HKC.out W (below_step HW12.out hW)
                have HFL13 := Lib.hid (HFL12.out.up HW12.out)
                go_wp2_with fail
                clear c0 hadd2
                refine wp_region_noPanic ?_
                refine wp_region_held_drew (S := fun W => Below v13.heap.size v13 W) (by kernel_rfl) ((Below.refl v13.heap.size v13).drew) (fun hS0 => ?_)
                change wpAnyH _ _ _ _ _ 13 #[false, false, false, false, false, false, false, false, false, false, false, false, false] _ (World.drew _)
                refine wpAnyH_take (i := 0) (v := .string l) rfl (by kernel_rfl) (by kernel_rfl) (by kernel_rfl) (fun _ _ _ h => h) (Or.inl ⟨by rfl, fun w' hS' => by go_simp⟩) hS0 ?_
                change wpAnyH _ _ _ _ _ _ _ (Act.put _ (some 89) (.string l)) _
                simp only [Act.put, List.setIfInBounds_toArray, List.set_cons_zero, List.set_cons_succ]
                refine wpAnyH_take (i := 1) (v := .string r) rfl (by kernel_rfl) (by kernel_rfl) (by kernel_rfl) (fun _ _ _ h => h) (Or.inl ⟨by rfl, fun w' hS' => by go_simp⟩) hS0 ?_
                change wpAnyH _ _ _ _ _ _ _ (Act.put _ (some 90) (.string r)) _
                simp only [Act.put, List.setIfInBounds_toArray, List.set_cons_zero, List.set_cons_succ]
                refine wpAnyH_take (i := 2) (v := .agg #[.string l, .string r]) rfl (by kernel_rfl) (by kernel_rfl) (by kernel_rfl) (fun _ _ _ h => h) (Or.inl ⟨by rfl, fun w' hS' => by go_simp⟩) hS0 ?_
                change wpAnyH _ _ _ _ _ _ _ (Act.put _ (some 91) (.agg #[.string l, .string r])) _
                simp only [Act.put, List.setIfInBounds_toArray, List.set_cons_zero, List.set_cons_succ]
                refine wpAnyH_take (i := 3) (v := .pointer (some ⟨gk, 0, none⟩)) rfl (by kernel_rfl) (by kernel_rfl) (by kernel_rfl) (fun _ _ _ h => h) (Or.inl ⟨by rfl, fun w' hS' => by go_simp⟩) hS0 ?_
                change wpAnyH _ _ _ _ _ _ _ (Act.put _ (some 92) (.pointer (some ⟨gk, 0, none⟩))) _
                simp only [Act.put, List.setIfInBounds_toArray, List.set_cons_zero, List.set_cons_succ]
                refine wpAnyH_take (i := 4) (v := .int .i64 k0) rfl (by kernel_rfl) (by kernel_rfl) (by kernel_rfl) (fun _ _ _ h => h) (Or.inl ⟨by rfl, fun w' hS' => by obtain ⟨u0, u1⟩ := HKC.out w' hS'; go_simp⟩) hS0 ?_
                change wpAnyH _ _ _ _ _ _ _ (Act.put _ (some 93) (.int .i64 k0)) _
                simp only [Act.put, List.setIfInBounds_toArray, List.set_cons_zero, List.set_cons_succ]
                refine wpAnyH_take (i := 6) (v := .pointer (some ⟨gk, 1, none⟩)) rfl (by kernel_rfl) (by kernel_rfl) (by kernel_rfl) (fun _ _ _ h => h) (Or.inl ⟨by rfl, fun w' hS' => by go_simp⟩) hS0 ?_
                change wpAnyH _ _ _ _ _ _ _ (Act.put _ (some 95) (.pointer (some ⟨gk, 1, none⟩))) _
                simp only [Act.put, List.setIfInBounds_toArray, List.set_cons_zero, List.set_cons_succ]
                refine wpAnyH_take (i := 7) (v := .int .i64 k1) rfl (by kernel_rfl) (by kernel_rfl) (by kernel_rfl) (fun _ _ _ h => h) (Or.inl ⟨by rfl, fun w' hS' => by obtain ⟨u0, u1⟩ := HKC.out w' hS'; go_simp⟩) hS0 ?_
                change wpAnyH _ _ _ _ _ _ _ (Act.put _ (some 96) (.int .i64 k1)) _
                simp only [Act.put, List.setIfInBounds_toArray, List.set_cons_zero, List.set_cons_succ]
                refine wpAnyH_take (i := 12) (v := .int .i64 0) rfl (by kernel_rfl) (by kernel_rfl) (by kernel_rfl) (fun _ _ _ h => h) (Or.inl ⟨by rfl, fun w' hS' => by go_simp⟩) hS0 ?_
                change wpAnyH _ _ _ _ _ _ _ (Act.put _ (some 101) (.int .i64 0)) _
                simp only [Act.put, List.setIfInBounds_toArray, List.set_cons_zero, List.set_cons_succ]
                refine wpAnyH_ready (rs := [5]) (by kernel_rfl) (by simp) (AllReadyH.cons rfl (fun K hK => ?_) (AllReadyH.nil))
                · skip
                  go_simp
                  refine (text_v k0 t0 HT0.out _ HK0.out).mono ?_
                  rintro e W1 ⟨rfl, hb3⟩
                  refine hK.out _ _ (hS0.trans (hb3.mono hS0.size)) (fun hS2 => ?_)
                  clear hK K
                  simp only [List.setIfInBounds_toArray, List.set_cons_zero, List.set_cons_succ]
                  refine wpAnyH_ready (rs := [8]) (by kernel_rfl) (by simp) (AllReadyH.cons rfl (fun K hK => ?_) (AllReadyH.nil))
                  · skip
                    go_simp
                    refine (text_v k1 t1 HT1.out _ HK1.out).mono ?_
                    rintro e W4 ⟨rfl, hb6⟩
                    refine hK.out _ _ (hS2.trans (hb6.mono hS2.size)) (fun hS5 => ?_)
                    clear hK K
                    simp only [List.setIfInBounds_toArray, List.set_cons_zero, List.set_cons_succ]
                    refine wpAnyH_take (i := 9) (v := .agg #[.string t0, .string t1]) rfl (by kernel_rfl) (by kernel_rfl) (by kernel_rfl) (fun _ _ _ h => h) (Or.inl ⟨by rfl, fun w' hS' => by go_simp⟩) hS5 ?_
                    change wpAnyH _ _ _ _ _ _ _ (Act.put _ (some 98) (.agg #[.string t0, .string t1])) _
                    simp only [Act.put, List.setIfInBounds_toArray, List.set_cons_zero, List.set_cons_succ]
                    refine wpAnyH_ready (rs := [10]) (by kernel_rfl) (by simp) (AllReadyH.cons rfl (fun K hK => ?_) (AllReadyH.nil))
                    · skip
                      obtain ⟨g35, W35, hr35, hb35, hbe35⟩ := op_texts2 l r t0 t1 W4
                      refine step_op_run (hr35 _ _ _ _ rfl rfl rfl) rfl ?_
                      refine hK.out _ _ (hS5.trans (hbe35.mono hS5.size)) (fun hS7 => ?_)
                      clear hK K
                      change wpAnyH _ _ _ _ _ _ _ (Act.put _ (some 99) (.slice (some ⟨g35, 0, none⟩) 2 2)) _
                      simp only [Act.put, List.setIfInBounds_toArray, List.set_cons_zero, List.set_cons_succ]
                      refine wpAnyH_take (i := 11) (v := .int .i64 2) rfl (by kernel_rfl) (by kernel_rfl) (by kernel_rfl) (fun _ _ _ h => h) (Or.inl ⟨by rfl, fun w' hS' => by go_simp⟩) hS7 ?_
                      change wpAnyH _ _ _ _ _ _ _ (Act.put _ (some 100) (.int .i64 2)) _
                      simp only [Act.put, List.setIfInBounds_toArray, List.set_cons_zero, List.set_cons_succ]
                      refine wpAnyH_done (by kernel_rfl) ?_ _
                      refine NoPanic.normal ?_
                      have HEN := Lib.hid hS7
                      have HB35 := Lib.hid hb35
                      obtain ⟨v14, hv14⟩ : ∃ v, v = W35 := ⟨_, rfl⟩
                      rw [← hv14] at HEN HB35 ⊢
                      clear hv14 hb35 hbe35
                      go_wp2_with fail
                      have HFL14 := Lib.hid (HFL13.out.up HEN.out)
                      go_loopw [101] (fun i wr => ∃ j : Nat, j ≤ 2 ∧ i = .int .i64 j ∧ Hid (Below v14.heap.size v14 wr)) (fun i _ => 2 - (intOf i).toNat)
                      case atStart => exact ⟨0, Nat.zero_le _, rfl, Lib.hid (Below.refl _ _)⟩
                      case round =>
                        obtain ⟨j3, hj3, rfl, HW14⟩ := hrel
                        obtain ⟨v15, rfl⟩ : ∃ w3, w3 = wr := ⟨_, rfl⟩
                        by_cases g3 : j3 < 2
                        · have t9 : decide ((j3 : Int) < 2) = true := decide_eq_true (by omega)
                          obtain ⟨tl, tr, HTL, HTR, c0, c1⟩ : ∃ tl tr, Hid (Txt tl) ∧ Hid (Txt tr) ∧ v15.cell? ⟨g35, j3 * 2, none⟩ = some (.string tl) ∧ v15.cell? ⟨g35, j3 * 2 + 1, none⟩ = some (.string tr) := by
                            have hb := Blk.below HB35.out HW14.out HB35.out.lt
                            rcases (show j3 = 0 ∨ j3 = 1 from by omega) with rfl | rfl
                            · exact ⟨l, r, HTXL, HTXR, hb.cell 0, hb.cell 1⟩
                            · exact ⟨t0, t1, Lib.hid (by rw [← HT0.out]; exact textOf_txt _), Lib.hid (by rw [← HT1.out]; exact textOf_txt _), hb.cell 2, hb.cell 3⟩
                          have hadd3 := add_zero_block g35 (j3 * 2)
                          obtain ⟨b0, N0, e0, hbg⟩ : ∃ b0 N0 e0, beginF Lf tl tr wv = (b0, N0, e0) := ⟨_, _, _, rfl⟩
                          have HBG := Lib.hid hbg
                          have HNL := Lib.hid (HLIM.out.begin hbg HWV.out HTL.out HTR.out)
                          clear hbg
                          go_upto_region 20 with (fail)
                          obtain ⟨g22, v16, hg22, hv16, hb22, hbe22⟩ := box_new v15 33 #[.string tl, .string tr]
                          rw [← hv16, ← hg22]
                          have HFL := Lib.hid (HFL14.out.up HW14.out)
                          have HFL := Lib.hid (HFL.out.up hbe22)
                          have HB22 := Lib.hid hb22
                          have HW16 := Lib.hid (below_step HW14.out hbe22)
                          clear c0 c1 hadd3 hg22 hv16 hb22 hbe22
                          have d0 := Blk.cell HB22.out 0
                          have d1 := Blk.cell HB22.out 1
                          simp only [List.getElem?_toArray, List.getElem?_cons_zero, List.getElem?_cons_succ] at d0 d1
                          go_wp2_with fail
                          refine (ibegin3 Af Lf nf cf tl tr wv _ N0 e0 b0 HBG.out HFL.out HNF.out (HLIM.out.fit (by omega)) HWV.out HTL.out HTR.out).mono ?_
                          rintro e v17 ⟨A7, n7, c7, rfl, hn7, _, hf7, hb7⟩
                          have HN7 := Lib.hid hn7
                          have HF7 := Lib.hid hf7
                          have HFL := Lib.hid (HFL.out.up hb7)
                          have HB22 := Lib.hid (Blk.below HB22.out hb7 HB22.out.lt)
                          have HW17 := Lib.hid (below_step HW16.out hb7)
                          clear hn7 hf7 hb7 d0 d1
                          have d0 := Blk.cell HB22.out 0
                          have d1 := Blk.cell HB22.out 1
                          simp only [List.getElem?_toArray, List.getElem?_cons_zero, List.getElem?_cons_succ] at d0 d1
                          go_wp2_with fail
                          refine (rbegin3 Af Lf nf cf tl tr wv _ N0 e0 b0 HBG.out HFL.out HNF.out (HLIM.out.fit (by omega))).mono ?_
                          rintro e v18 ⟨A8, n8, c8, rfl, hn8, _, hf8, hb8⟩
                          have HN8 := Lib.hid hn8
                          have HF8 := Lib.hid hf8
                          have HF7 := Lib.hid (HF7.out.up hb8)
                          have HW18 := Lib.hid (below_step HW17.out hb8)
                          clear hn8 hf8 hb8 d0 d1
                          go_wp2_with fail
                          refine (rsame_any A7 A8 N0 n7 n8 c7 c8 _ HF7.out HF8.out HN7.out HN8.out (HNL.out.fit (by omega))).mono ?_
                          rintro e v19 ⟨rfl, hq⟩
                          have HW19 := Lib.hid (below_step HW18.out (Drew.below hq))
                          clear hq
                          go_wp2_with fail
                          go_roundw
                          case rel => exact ⟨j3 + 1, by omega, by go_num, HW19⟩
                          case measure => simp [intOf]; omega
                        · obtain rfl : j3 = 2 := by omega
                          obtain ⟨l0, N0, e0, hdn⟩ : ∃ l0 N0 e0, doneF Lf wv = (l0, N0, e0) := ⟨_, _, _, rfl⟩
                          have HDN := Lib.hid hdn
                          have HDL := Lib.hid (HLIM.out.done hdn)
                          obtain ⟨M0, f0, hlv⟩ : ∃ M0 f0, leaveF Lf wv = (M0, f0) := ⟨_, _, rfl⟩
                          have HLV := Lib.hid hlv
                          have HLL := Lib.hid (HLIM.out.leave hlv)
                          have HFL := Lib.hid (HFL14.out.up HW14.out)
                          clear hdn hlv
                          go_wp2_with fail
                          refine (idone3 Af Lf nf cf wv _ N0 e0 l0 HDN.out HFL.out HNF.out (HLIM.out.fit (by omega)) HWV.out).mono ?_
                          rintro e v20 ⟨B1, m1, d1, A1, n1, c1, rfl, hm1, _, hi1, hn1, _, hf1, hb1⟩
                          have HM1 := Lib.hid hm1
                          have HI1 := Lib.hid hi1
                          have HN1 := Lib.hid hn1
                          have HF1 := Lib.hid hf1
                          have HFL := Lib.hid (HFL.out.up hb1)
                          have HW20 := Lib.hid (below_step HW14.out hb1)
                          clear hm1 hi1 hn1 hf1 hb1
                          go_wp2_with fail
                          refine (rdone3 Af Lf nf cf wv _ N0 e0 l0 HDN.out HFL.out HNF.out HCF.out (HLIM.out.fit (by omega))).mono ?_
                          rintro e v21 ⟨B2, m2, d2, A2, n2, c2, rfl, hm2, _, hi2, hn2, _, hf2, hb2⟩
                          have HM2 := Lib.hid hm2
                          have HI2 := Lib.hid hi2
                          have HN2 := Lib.hid hn2
                          have HF2 := Lib.hid hf2
                          have HFL := Lib.hid (HFL.out.up hb2)
                          have HI1 := Lib.hid (HI1.out.up hb2)
                          have HF1 := Lib.hid (HF1.out.up hb2)
                          have HW21 := Lib.hid (below_step HW20.out hb2)
                          clear hm2 hi2 hn2 hf2 hb2
                          go_wp2_with fail
                          refine (ileave3 Af Lf nf cf wv _ M0 f0 HLV.out HFL.out HNF.out (HLIM.out.fit (by omega)) HWV.out).mono ?_
                          rintro e v22 ⟨A3, n3, c3, rfl, hn3, _, hf3, hb3⟩
                          have HN3 := Lib.hid hn3
                          have HF3 := Lib.hid hf3
                          have HFL := Lib.hid (HFL.out.up hb3)
                          have HI1 := Lib.hid (HI1.out.up hb3)
                          have HF1 := Lib.hid (HF1.out.up hb3)
                          have HI2 := Lib.hid (HI2.out.up hb3)
                          have HF2 := Lib.hid (HF2.out.up hb3)
                          have HW22 := Lib.hid (below_step HW21.out hb3)
                          clear hn3 hf3 hb3
                          go_wp2_with fail
                          refine (rleave3 Af Lf nf cf wv _ M0 f0 HLV.out HFL.out HNF.out (HLIM.out.fit (by omega))).mono ?_
                          rintro e v23 ⟨A4, n4, c4, rfl, hn4, _, hf4, hb4⟩
                          have HN4 := Lib.hid hn4
                          have HF4 := Lib.hid hf4
                          have HI1 := Lib.hid (HI1.out.up hb4)
                          have HF1 := Lib.hid (HF1.out.up hb4)
                          have HI2 := Lib.hid (HI2.out.up hb4)
                          have HF2 := Lib.hid (HF2.out.up hb4)
                          have HF3 := Lib.hid (HF3.out.up hb4)
                          have HW23 := Lib.hid (below_step HW22.out hb4)
                          have HL0 : Hid (l0.length ≤ 140737488355328) := Lib.hid (by have := HDL.out.2; omega)
                          clear hn4 hf4 hb4
                          go_wp2_with fail
                          refine (rints_any B1 B2 l0 l0 m1 m2 d1 d2 true (decide_eq_true rfl) _ HI1.out HI2.out HM1.out HM2.out HL0.out HL0.out).mono ?_
                          rintro e v24 ⟨rfl, hq⟩
                          have hb := Drew.below hq
                          have HF1 := Lib.hid (HF1.out.up hb)
                          have HF2 := Lib.hid (HF2.out.up hb)
                          have HF3 := Lib.hid (HF3.out.up hb)
                          have HF4 := Lib.hid (HF4.out.up hb)
                          have HW24 := Lib.hid (below_step HW23.out hb)
                          clear hq hb
                          go_wp2_with fail
                          refine (rsame_any A1 A2 N0 n1 n2 c1 c2 _ HF1.out HF2.out HN1.out HN2.out (HDL.out.1.fit (by omega))).mono ?_
                          rintro e v25 ⟨rfl, hq⟩
                          have hb := Drew.below hq
                          have HF3 := Lib.hid (HF3.out.up hb)
                          have HF4 := Lib.hid (HF4.out.up hb)
                          have HW25 := Lib.hid (below_step HW24.out hb)
                          clear hq hb
                          go_wp2_with fail
                          refine (rsame_any A3 A4 M0 n3 n4 c3 c4 _ HF3.out HF4.out HN3.out HN4.out (HLL.out.fit (by omega))).mono ?_
                          rintro e v26 ⟨rfl, hq⟩
                          have HW26 := Lib.hid (below_step HW25.out (Drew.below hq))
                          clear hq
                          go_wp2_with fail
                          go_roundw
                          case rel => exact ⟨j2 + 1, by omega, by go_num, Lib.hid (below_step HW12.out (below_step HEN.out HW26.out))⟩
                          case measure => simp [intOf]; omega
              · obtain rfl : j2 = 2 := by omega
                go_wp2_with fail
                go_roundw
                case rel => exact ⟨j1 + 1, by omega, by go_num, Lib.hid (below_step HW9.out (below_step HE12.out HW12.out))⟩
                case measure => simp [intOf]; omega
          · obtain rfl : j1 = 2 := by omega
            go_wp2_with fail
            go_ret
            exact ⟨rfl, below_step HW.out HW9.out⟩
      · clear gend
        go_wp2_with fail
        refine (fills_any B zs zs.length zc _ (HZ.out.up HW.out) rfl hz1 HZF.out).mono ?_
        rintro e v8 ⟨A8, n8, c8, rfl, hn8, hc8, hf8, hb⟩
        have HN8 := Lib.hid hn8
        have HC8 := Lib.hid hc8
        have HF8 := Lib.hid hf8
        have HL8 : Hid (Lim (fillsOf zs) 8) := Lib.hid (fillsOf_good zs).lim
        have HFO := Lib.hid (HFO.out.up hb)
        have HW := Lib.hid (below_step HW.out hb)
        have HKC : Hid (∀ W, Below v8.heap.size v8 W → W.cell? ⟨gk, 0, none⟩ = some (.int .i64 k0) ∧ W.cell? ⟨gk, 1, none⟩ = some (.int .i64 k1)) := Lib.hid fun W hW => HKC.out W (below_step hb hW)
        clear hn8 hc8 hf8 hb
        go_upto_region 10 with (fail)
        obtain ⟨g30, v9, hg30, hv9, hb30, hbe30⟩ := box_new v8 22 #[.slice Ao k co, .slice A8 n8 c8]
        rw [← hv9, ← hg30]
        have HB30 := Lib.hid hb30
        have HFO := Lib.hid (HFO.out.up hbe30)
        have HF8 := Lib.hid (HF8.out.up hbe30)
        have HW := Lib.hid (below_step HW.out hbe30)
        have HKC : Hid (∀ W, Below v9.heap.size v9 W → W.cell? ⟨gk, 0, none⟩ = some (.int .i64 k0) ∧ W.cell? ⟨gk, 1, none⟩ = some (.int .i64 k1)) := Lib.hid fun W hW => HKC.out W (below_step hbe30 hW)
        clear hg30 hv9 hb30 hbe30
        go_wp2_with fail
        go_loopw [71] (fun i wr => ∃ j : Nat, j ≤ 2 ∧ i = .int .i64 j ∧ Hid (Below v9.heap.size v9 wr)) (fun i _ => 2 - (intOf i).toNat)
        case atStart => exact ⟨0, Nat.zero_le _, rfl, Lib.hid (Below.refl _ _)⟩
        case round =>
          obtain ⟨j1, hj1, rfl, HW9⟩ := hrel
          obtain ⟨v10, rfl⟩ : ∃ w3, w3 = wr := ⟨_, rfl⟩
          by_cases g1 : j1 < 2
          · have t9 : decide ((j1 : Int) < 2) = true := decide_eq_true (by omega)
            obtain ⟨Lf, Af, nf, cf, HFL, HNF, HCF, HLIM, c0⟩ : ∃ (Lf : List Fl) (Af : Option Addr) (nf cf : Nat), Hid (FillsAt v10 Af Lf) ∧ Hid (Lf.length = nf) ∧ Hid (nf ≤ cf) ∧ Hid (Lim Lf 8) ∧ v10.cell? ⟨g30, j1, none⟩ = some (.slice Af nf cf) := by
              have hb := Blk.below HB30.out HW9.out HB30.out.lt
              rcases (show j1 = 0 ∨ j1 = 1 from by omega) with rfl | rfl
              · exact ⟨oddF R, Ao, k, co, Lib.hid (HFO.out.up HW9.out), HNO, HCO, HLO, hb.cell 0⟩
              · exact ⟨fillsOf zs, A8, n8, c8, Lib.hid (HF8.out.up HW9.out), HN8, HC8, HL8, hb.cell 1⟩
            have hadd1 := add_zero_block g30 j1
            obtain ⟨bR, hbR⟩ : ∃ bR, rightB Lf = bR := ⟨_, rfl⟩
            have HBR := Lib.hid hbR
            clear hbR
            go_wp2_with fail
            refine (iright_any Af Lf nf cf bR HBR.out _ HFL.out HNF.out (HLIM.out.fit (by omega))).mono ?_
            rintro e v11 ⟨rfl, hb⟩
            have HFL := Lib.hid (HFL.out.up hb)
            have HE11 := Lib.hid hb
            clear hb c0 hadd1
            go_wp2_with fail
            refine (rright_any Af Lf nf cf bR HBR.out _ HFL.out HNF.out (HLIM.out.fit (by omega))).mono ?_
            rintro e va ⟨rfl, hb⟩
            have HFL := Lib.hid (HFL.out.up hb)
            have HE11 := Lib.hid (below_step HE11.out hb)
            clear hb
            have hbb : (bR != bR) = false := by simp
            go_wp2_with fail
            refine (pick15_v who 9 p9 HP9.out _ HWHO.out (by omega) (by omega)).mono ?_
            rintro e w' ⟨rfl, rfl⟩
            go_upto_region 15 with (fail)
            obtain ⟨g26, v12, hg26, hv12, hb26, hbe26⟩ := box_new va 3 #[.int .i64 who, .int .i64 p9]
            rw [← hv12, ← hg26]
            have HB26 := Lib.hid hb26
            have HFL12 := Lib.hid (HFL.out.up hbe26)
            have HE12 := Lib.hid (below_step HE11.out hbe26)
            have HKC : Hid (∀ W, Below v12.heap.size v12 W → W.cell? ⟨gk, 0, none⟩ = some (.int .i64 k0) ∧ W.cell? ⟨gk, 1, none⟩ = some (.int .i64 k1)) := Lib.hid (by
              have h2 := below_step HW9.out (below_step HE11.out hbe26)
              exact fun W hW => HKC.out W (below_step h2 hW))
            clear hbb hg26 hv12 hb26 hbe26
            go_wp2_with fail
            go_loopw [85] (fun i wr => ∃ j : Nat, j ≤ 2 ∧ i = .int .i64 j ∧ Hid (Below v12.heap.size v12 wr)) (fun i _ => 2 - (intOf i).toNat)
            case atStart => exact ⟨0, Nat.zero_le _, rfl, Lib.hid (Below.refl _ _)⟩
            case round =>
              obtain ⟨j2, hj2, rfl, HW12⟩ := hrel
              obtain ⟨v13, rfl⟩ : ∃ w3, w3 = wr := ⟨_, rfl⟩
              by_cases g2 : j2 < 2
              · have t9 : decide ((j2 : Int) < 2) = true := decide_eq_true (by omega)
                obtain ⟨wv, HWV, c0⟩ : ∃ wv, Hid (I64 wv) ∧ v13.cell? ⟨g26, j2, none⟩ = some (.int .i64 wv) := by
                  have hb := Blk.below HB26.out HW12.out HB26.out.lt
                  rcases (show j2 = 0 ∨ j2 = 1 from by omega) with rfl | rfl
                  · exact ⟨who, HWHO, hb.cell 0⟩
                  · exact ⟨p9, HP9I, hb.cell 1⟩
                have hadd2 := add_zero_block g26 j2
                have HKC : Hid (∀ W, Below v13.heap.size v13 W → W.cell? ⟨gk, 0, none⟩ = some (.int .i64 k0) ∧ W.cell? ⟨gk, 1, none⟩ = some (.int .i64 k1)) := Lib.hid fun W hW => HKC.out W (below_step HW12.out hW)
                have HFL13 := Lib.hid (HFL12.out.up HW12.out)
                go_wp2_with fail
                clear c0 hadd2
                refine wp_region_noPanic ?_
                refine wp_region_held_drew (S := fun W => Below v13.heap.size v13 W) (by kernel_rfl) ((Below.refl v13.heap.size v13).drew) (fun hS0 => ?_)
                change wpAnyH _ _ _ _ _ 13 #[false, false, false, false, false, false, false, false, false, false, false, false, false] _ (World.drew _)
                refine wpAnyH_take (i := 0) (v := .string l) rfl (by kernel_rfl) (by kernel_rfl) (by kernel_rfl) (fun _ _ _ h => h) (Or.inl ⟨by rfl, fun w' hS' => by go_simp⟩) hS0 ?_
                change wpAnyH _ _ _ _ _ _ _ (Act.put _ (some 89) (.string l)) _
                simp only [Act.put, List.setIfInBounds_toArray, List.set_cons_zero, List.set_cons_succ]
                refine wpAnyH_take (i := 1) (v := .string r) rfl (by kernel_rfl) (by kernel_rfl) (by kernel_rfl) (fun _ _ _ h => h) (Or.inl ⟨by rfl, fun w' hS' => by go_simp⟩) hS0 ?_
                change wpAnyH _ _ _ _ _ _ _ (Act.put _ (some 90) (.string r)) _
                simp only [Act.put, List.setIfInBounds_toArray, List.set_cons_zero, List.set_cons_succ]
                refine wpAnyH_take (i := 2) (v := .agg #[.string l, .string r]) rfl (by kernel_rfl) (by kernel_rfl) (by kernel_rfl) (fun _ _ _ h => h) (Or.inl ⟨by rfl, fun w' hS' => by go_simp⟩) hS0 ?_
                change wpAnyH _ _ _ _ _ _ _ (Act.put _ (some 91) (.agg #[.string l, .string r])) _
                simp only [Act.put, List.setIfInBounds_toArray, List.set_cons_zero, List.set_cons_succ]
                refine wpAnyH_take (i := 3) (v := .pointer (some ⟨gk, 0, none⟩)) rfl (by kernel_rfl) (by kernel_rfl) (by kernel_rfl) (fun _ _ _ h => h) (Or.inl ⟨by rfl, fun w' hS' => by go_simp⟩) hS0 ?_
                change wpAnyH _ _ _ _ _ _ _ (Act.put _ (some 92) (.pointer (some ⟨gk, 0, none⟩))) _
                simp only [Act.put, List.setIfInBounds_toArray, List.set_cons_zero, List.set_cons_succ]
                refine wpAnyH_take (i := 4) (v := .int .i64 k0) rfl (by kernel_rfl) (by kernel_rfl) (by kernel_rfl) (fun _ _ _ h => h) (Or.inl ⟨by rfl, fun w' hS' => by obtain ⟨u0, u1⟩ := HKC.out w' hS'; go_simp⟩) hS0 ?_
                change wpAnyH _ _ _ _ _ _ _ (Act.put _ (some 93) (.int .i64 k0)) _
                simp only [Act.put, List.setIfInBounds_toArray, List.set_cons_zero, List.set_cons_succ]
                refine wpAnyH_take (i := 6) (v := .pointer (some ⟨gk, 1, none⟩)) rfl (by kernel_rfl) (by kernel_rfl) (by kernel_rfl) (fun _ _ _ h => h) (Or.inl ⟨by rfl, fun w' hS' => by go_simp⟩) hS0 ?_
                change wpAnyH _ _ _ _ _ _ _ (Act.put _ (some 95) (.pointer (some ⟨gk, 1, none⟩))) _
                simp only [Act.put, List.setIfInBounds_toArray, List.set_cons_zero, List.set_cons_succ]
                refine wpAnyH_take (i := 7) (v := .int .i64 k1) rfl (by kernel_rfl) (by kernel_rfl) (by kernel_rfl) (fun _ _ _ h => h) (Or.inl ⟨by rfl, fun w' hS' => by obtain ⟨u0, u1⟩ := HKC.out w' hS'; go_simp⟩) hS0 ?_
                change wpAnyH _ _ _ _ _ _ _ (Act.put _ (some 96) (.int .i64 k1)) _
                simp only [Act.put, List.setIfInBounds_toArray, List.set_cons_zero, List.set_cons_succ]
                refine wpAnyH_take (i := 12) (v := .int .i64 0) rfl (by kernel_rfl) (by kernel_rfl) (by kernel_rfl) (fun _ _ _ h => h) (Or.inl ⟨by rfl, fun w' hS' => by go_simp⟩) hS0 ?_
                change wpAnyH _ _ _ _ _ _ _ (Act.put _ (some 101) (.int .i64 0)) _
                simp only [Act.put, List.setIfInBounds_toArray, List.set_cons_zero, List.set_cons_succ]
                refine wpAnyH_ready (rs := [5]) (by kernel_rfl) (by simp) (AllReadyH.cons rfl (fun K hK => ?_) (AllReadyH.nil))
                · skip
                  go_simp
                  refine (text_v k0 t0 HT0.out _ HK0.out).mono ?_
                  rintro e W1 ⟨rfl, hb3⟩
                  refine hK.out _ _ (hS0.trans (hb3.mono hS0.size)) (fun hS2 => ?_)
                  clear hK K
                  simp only [List.setIfInBounds_toArray, List.set_cons_zero, List.set_cons_succ]
                  refine wpAnyH_ready (rs := [8]) (by kernel_rfl) (by simp) (AllReadyH.cons rfl (fun K hK => ?_) (AllReadyH.nil))
                  · skip
                    go_simp
                    refine (text_v k1 t1 HT1.out _ HK1.out).mono ?_
                    rintro e W4 ⟨rfl, hb6⟩
                    refine hK.out _ _ (hS2.trans (hb6.mono hS2.size)) (fun hS5 => ?_)
                    clear hK K
                    simp only [List.setIfInBounds_toArray, List.set_cons_zero, List.set_cons_succ]
                    refine wpAnyH_take (i := 9) (v := .agg #[.string t0, .string t1]) rfl (by kernel_rfl) (by kernel_rfl) (by kernel_rfl) (fun _ _ _ h => h) (Or.inl ⟨by rfl, fun w' hS' => by go_simp⟩) hS5 ?_
                    change wpAnyH _ _ _ _ _ _ _ (Act.put _ (some 98) (.agg #[.string t0, .string t1])) _
                    simp only [Act.put, List.setIfInBounds_toArray, List.set_cons_zero, List.set_cons_succ]
                    refine wpAnyH_ready (rs := [10]) (by kernel_rfl) (by simp) (AllReadyH.cons rfl (fun K hK => ?_) (AllReadyH.nil))
                    · skip
                      obtain ⟨g35, W35, hr35, hb35, hbe35⟩ := op_texts2 l r t0 t1 W4
                      refine step_op_run (hr35 _ _ _ _ rfl rfl rfl) rfl ?_
                      refine hK.out _ _ (hS5.trans (hbe35.mono hS5.size)) (fun hS7 => ?_)
                      clear hK K
                      change wpAnyH _ _ _ _ _ _ _ (Act.put _ (some 99) (.slice (some ⟨g35, 0, none⟩) 2 2)) _
                      simp only [Act.put, List.setIfInBounds_toArray, List.set_cons_zero, List.set_cons_succ]
                      refine wpAnyH_take (i := 11) (v := .int .i64 2) rfl (by kernel_rfl) (by kernel_rfl) (by kernel_rfl) (fun _ _ _ h => h) (Or.inl ⟨by rfl, fun w' hS' => by go_simp⟩) hS7 ?_
                      change wpAnyH _ _ _ _ _ _ _ (Act.put _ (some 100) (.int .i64 2)) _
                      simp only [Act.put, List.setIfInBounds_toArray, List.set_cons_zero, List.set_cons_succ]
                      refine wpAnyH_done (by kernel_rfl) ?_ _
                      refine NoPanic.normal ?_
                      have HEN := Lib.hid hS7
                      have HB35 := Lib.hid hb35
                      obtain ⟨v14, hv14⟩ : ∃ v, v = W35 := ⟨_, rfl⟩
                      rw [← hv14] at HEN HB35 ⊢
                      clear hv14 hb35 hbe35
                      go_wp2_with fail
                      have HFL14 := Lib.hid (HFL13.out.up HEN.out)
                      go_loopw [101] (fun i wr => ∃ j : Nat, j ≤ 2 ∧ i = .int .i64 j ∧ Hid (Below v14.heap.size v14 wr)) (fun i _ => 2 - (intOf i).toNat)
                      case atStart => exact ⟨0, Nat.zero_le _, rfl, Lib.hid (Below.refl _ _)⟩
                      case round =>
                        obtain ⟨j3, hj3, rfl, HW14⟩ := hrel
                        obtain ⟨v15, rfl⟩ : ∃ w3, w3 = wr := ⟨_, rfl⟩
                        by_cases g3 : j3 < 2
                        · have t9 : decide ((j3 : Int) < 2) = true := decide_eq_true (by omega)
                          obtain ⟨tl, tr, HTL, HTR, c0, c1⟩ : ∃ tl tr, Hid (Txt tl) ∧ Hid (Txt tr) ∧ v15.cell? ⟨g35, j3 * 2, none⟩ = some (.string tl) ∧ v15.cell? ⟨g35, j3 * 2 + 1, none⟩ = some (.string tr) := by
                            have hb := Blk.below HB35.out HW14.out HB35.out.lt
                            rcases (show j3 = 0 ∨ j3 = 1 from by omega) with rfl | rfl
                            · exact ⟨l, r, HTXL, HTXR, hb.cell 0, hb.cell 1⟩
                            · exact ⟨t0, t1, Lib.hid (by rw [← HT0.out]; exact textOf_txt _), Lib.hid (by rw [← HT1.out]; exact textOf_txt _), hb.cell 2, hb.cell 3⟩
                          have hadd3 := add_zero_block g35 (j3 * 2)
                          obtain ⟨b0, N0, e0, hbg⟩ : ∃ b0 N0 e0, beginF Lf tl tr wv = (b0, N0, e0) := ⟨_, _, _, rfl⟩
                          have HBG := Lib.hid hbg
                          have HNL := Lib.hid (HLIM.out.begin hbg HWV.out HTL.out HTR.out)
                          clear hbg
                          go_upto_region 20 with (fail)
                          obtain ⟨g22, v16, hg22, hv16, hb22, hbe22⟩ := box_new v15 33 #[.string tl, .string tr]
                          rw [← hv16, ← hg22]
                          have HFL := Lib.hid (HFL14.out.up HW14.out)
                          have HFL := Lib.hid (HFL.out.up hbe22)
                          have HB22 := Lib.hid hb22
                          have HW16 := Lib.hid (below_step HW14.out hbe22)
                          clear c0 c1 hadd3 hg22 hv16 hb22 hbe22
                          have d0 := Blk.cell HB22.out 0
                          have d1 := Blk.cell HB22.out 1
                          simp only [List.getElem?_toArray, List.getElem?_cons_zero, List.getElem?_cons_succ] at d0 d1
                          go_wp2_with fail
                          refine (ibegin3 Af Lf nf cf tl tr wv _ N0 e0 b0 HBG.out HFL.out HNF.out (HLIM.out.fit (by omega)) HWV.out HTL.out HTR.out).mono ?_
                          rintro e v17 ⟨A7, n7, c7, rfl, hn7, _, hf7, hb7⟩
                          have HN7 := Lib.hid hn7
                          have HF7 := Lib.hid hf7
                          have HFL := Lib.hid (HFL.out.up hb7)
                          have HB22 := Lib.hid (Blk.below HB22.out hb7 HB22.out.lt)
                          have HW17 := Lib.hid (below_step HW16.out hb7)
                          clear hn7 hf7 hb7 d0 d1
                          have d0 := Blk.cell HB22.out 0
                          have d1 := Blk.cell HB22.out 1
                          simp only [List.getElem?_toArray, List.getElem?_cons_zero, List.getElem?_cons_succ] at d0 d1
                          go_wp2_with fail
                          refine (rbegin3 Af Lf nf cf tl tr wv _ N0 e0 b0 HBG.out HFL.out HNF.out (HLIM.out.fit (by omega))).mono ?_
                          rintro e v18 ⟨A8, n8, c8, rfl, hn8, _, hf8, hb8⟩
                          have HN8 := Lib.hid hn8
                          have HF8 := Lib.hid hf8
                          have HF7 := Lib.hid (HF7.out.up hb8)
                          have HW18 := Lib.hid (below_step HW17.out hb8)
                          clear hn8 hf8 hb8 d0 d1
                          go_wp2_with fail
                          refine (rsame_any A7 A8 N0 n7 n8 c7 c8 _ HF7.out HF8.out HN7.out HN8.out (HNL.out.fit (by omega))).mono ?_
                          rintro e v19 ⟨rfl, hq⟩
                          have HW19 := Lib.hid (below_step HW18.out (Drew.below hq))
                          clear hq
                          go_wp2_with fail
                          go_roundw
                          case rel => exact ⟨j3 + 1, by omega, by go_num, HW19⟩
                          case measure => simp [intOf]; omega
                        · obtain rfl : j3 = 2 := by omega
                          obtain ⟨l0, N0, e0, hdn⟩ : ∃ l0 N0 e0, doneF Lf wv = (l0, N0, e0) := ⟨_, _, _, rfl⟩
                          have HDN := Lib.hid hdn
                          have HDL := Lib.hid (HLIM.out.done hdn)
                          obtain ⟨M0, f0, hlv⟩ : ∃ M0 f0, leaveF Lf wv = (M0, f0) := ⟨_, _, rfl⟩
                          have HLV := Lib.hid hlv
                          have HLL := Lib.hid (HLIM.out.leave hlv)
                          have HFL := Lib.hid (HFL14.out.up HW14.out)
                          clear hdn hlv
                          go_wp2_with fail
                          refine (idone3 Af Lf nf cf wv _ N0 e0 l0 HDN.out HFL.out HNF.out (HLIM.out.fit (by omega)) HWV.out).mono ?_
                          rintro e v20 ⟨B1, m1, d1, A1, n1, c1, rfl, hm1, _, hi1, hn1, _, hf1, hb1⟩
                          have HM1 := Lib.hid hm1
                          have HI1 := Lib.hid hi1
                          have HN1 := Lib.hid hn1
                          have HF1 := Lib.hid hf1
                          have HFL := Lib.hid (HFL.out.up hb1)
                          have HW20 := Lib.hid (below_step HW14.out hb1)
                          clear hm1 hi1 hn1 hf1 hb1
                          go_wp2_with fail
                          refine (rdone3 Af Lf nf cf wv _ N0 e0 l0 HDN.out HFL.out HNF.out HCF.out (HLIM.out.fit (by omega))).mono ?_
                          rintro e v21 ⟨B2, m2, d2, A2, n2, c2, rfl, hm2, _, hi2, hn2, _, hf2, hb2⟩
                          have HM2 := Lib.hid hm2
                          have HI2 := Lib.hid hi2
                          have HN2 := Lib.hid hn2
                          have HF2 := Lib.hid hf2
                          have HFL := Lib.hid (HFL.out.up hb2)
                          have HI1 := Lib.hid (HI1.out.up hb2)
                          have HF1 := Lib.hid (HF1.out.up hb2)
                          have HW21 := Lib.hid (below_step HW20.out hb2)
                          clear hm2 hi2 hn2 hf2 hb2
                          go_wp2_with fail
                          refine (ileave3 Af Lf nf cf wv _ M0 f0 HLV.out HFL.out HNF.out (HLIM.out.fit (by omega)) HWV.out).mono ?_
                          rintro e v22 ⟨A3, n3, c3, rfl, hn3, _, hf3, hb3⟩
                          have HN3 := Lib.hid hn3
                          have HF3 := Lib.hid hf3
                          have HFL := Lib.hid (HFL.out.up hb3)
                          have HI1 := Lib.hid (HI1.out.up hb3)
                          have HF1 := Lib.hid (HF1.out.up hb3)
                          have HI2 := Lib.hid (HI2.out.up hb3)
                          have HF2 := Lib.hid (HF2.out.up hb3)
                          have HW22 := Lib.hid (below_step HW21.out hb3)
                          clear hn3 hf3 hb3
                          go_wp2_with fail
                          refine (rleave3 Af Lf nf cf wv _ M0 f0 HLV.out HFL.out HNF.out (HLIM.out.fit (by omega))).mono ?_
                          rintro e v23 ⟨A4, n4, c4, rfl, hn4, _, hf4, hb4⟩
                          have HN4 := Lib.hid hn4
                          have HF4 := Lib.hid hf4
                          have HI1 := Lib.hid (HI1.out.up hb4)
                          have HF1 := Lib.hid (HF1.out.up hb4)
                          have HI2 := Lib.hid (HI2.out.up hb4)
                          have HF2 := Lib.hid (HF2.out.up hb4)
                          have HF3 := Lib.hid (HF3.out.up hb4)
                          have HW23 := Lib.hid (below_step HW22.out hb4)
                          have HL0 : Hid (l0.length ≤ 140737488355328) := Lib.hid (by have := HDL.out.2; omega)
                          clear hn4 hf4 hb4
                          go_wp2_with fail
                          refine (rints_any B1 B2 l0 l0 m1 m2 d1 d2 true (decide_eq_true rfl) _ HI1.out HI2.out HM1.out HM2.out HL0.out HL0.out).mono ?_
                          rintro e v24 ⟨rfl, hq⟩
                          have hb := Drew.below hq
                          have HF1 := Lib.hid (HF1.out.up hb)
                          have HF2 := Lib.hid (HF2.out.up hb)
                          have HF3 := Lib.hid (HF3.out.up hb)
                          have HF4 := Lib.hid (HF4.out.up hb)
                          have HW24 := Lib.hid (below_step HW23.out hb)
                          clear hq hb
                          go_wp2_with fail
                          refine (rsame_any A1 A2 N0 n1 n2 c1 c2 _ HF1.out HF2.out HN1.out HN2.out (HDL.out.1.fit (by omega))).mono ?_
                          rintro e v25 ⟨rfl, hq⟩
                          have hb := Drew.below hq
                          have HF3 := Lib.hid (HF3.out.up hb)
                          have HF4 := Lib.hid (HF4.out.up hb)
                          have HW25 := Lib.hid (below_step HW24.out hb)
                          clear hq hb
                          go_wp2_with fail
                          refine (rsame_any A3 A4 M0 n3 n4 c3 c4 _ HF3.out HF4.out HN3.out HN4.out (HLL.out.fit (by omega))).mono ?_
                          rintro e v26 ⟨rfl, hq⟩
                          have HW26 := Lib.hid (below_step HW25.out (Drew.below hq))
                          clear hq
                          go_wp2_with fail
                          go_roundw
                          case rel => exact ⟨j2 + 1, by omega, by go_num, Lib.hid (below_step HW12.out (below_step HEN.out HW26.out))⟩
                          case measure => simp [intOf]; omega
              · obtain rfl : j2 = 2 := by omega
                go_wp2_with fail
                go_roundw
                case rel => exact ⟨j1 + 1, by omega, by go_num, Lib.hid (below_step HW9.out (below_step HE12.out HW12.out))⟩
                case measure => simp [intOf]; omega
          · obtain rfl : j1 = 2 := by omega
            go_wp2_with fail
            go_ret
            exact ⟨rfl, below_step HW.out HW9.out⟩

end Go.Proofs.Ytllkegonhghkcaa
