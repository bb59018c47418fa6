/-
  Package flight: each, with the closures of Leave and of Done: fills in memory of their own. Nothing that was there is changed.
-/
import Derived.Test.YtllkegonhghkcaaEab
namespace Go.Proofs.Ytllkegonhghkcaa
open Go.RowKit Go.Maps P15

theorem CapL.grown {W W' : World} {gw : Nat} {who : Int} {row : Option Nat} (h : CapL W gw who) (hg : W.grownBy W' row) (hr : ∀ g, row = some g → ∃ cs, Blk W g 28 cs) : CapL W' gw who :=
  Blk.grown h hg fun e => by
    obtain ⟨ds, hd⟩ := hr _ e.symm
    exact blk_ne h hd (by decide) rfl
theorem CapD.grown {W W' : World} {gw gt : Nat} {who : Int} {v : Value} {row : Option Nat} (h : CapD W gw gt who v) (hg : W.grownBy W' row) (hr : ∀ g, row = some g → ∃ cs, Blk W g 28 cs) : CapD W' gw gt who v :=
  ⟨CapL.grown h.who hg hr, Blk.grown h.told hg fun e => by
    obtain ⟨ds, hd⟩ := hr _ e.symm
    exact blk_ne h.told hd (by decide) rfl⟩
theorem gone_snoc (L : List Fl) (x : Fl) (who : Int) : gone (L ++ [x]) who = gone L who ++ [⟨x.left, x.right, x.by_, without x.wait who⟩] := by
  unfold gone
  rw [List.map_append]; rfl
theorem ended_eq {L : List Fl} {x : Fl} {who : Int} (h : x.by_ = who) : ended (L ++ [x]) who = ended L who := by
  unfold ended; rw [List.filter_append]; simp [h]
theorem ended_ne {L : List Fl} {x : Fl} {who : Int} (h : ¬ x.by_ = who) : ended (L ++ [x]) who = ended L who ++ [x] := by
  unfold ended; rw [List.filter_append]; simp [h]
/-- who is told, of the last fill of that one -/
def tellF (L : List Fl) (who : Int) : List Int := L.foldl (fun a x => if x.by_ = who then x.wait else a) []
theorem tellF_eq {L : List Fl} {x : Fl} {who : Int} (h : x.by_ = who) : tellF (L ++ [x]) who = x.wait := by
  unfold tellF; rw [List.foldl_append]; simp [h]
theorem tellF_ne {L : List Fl} {x : Fl} {who : Int} (h : ¬ x.by_ = who) : tellF (L ++ [x]) who = tellF L who := by
  unfold tellF; rw [List.foldl_append]; simp [h]
/-- what stands in the variable that is told -/
def Told (w : World) (gw gt : Nat) (who : Int) (tl : List Int) : Prop := ∃ (T : Option Addr) (n c : Nat), CapD w gw gt who (.slice T n c) ∧ IntsT w ⟨⟨#[]⟩, ⟨#[]⟩, 0, tl, T, c⟩ ∧ tl.length = n

set_option maxHeartbeats 8000000 in
set_option maxRecDepth 100000 in
theorem eachl_any (A : Option Addr) (L : List Fl) (n c : Nat) (w0 w : World) (gw : Nat) (who : Int) (ha : FillsAt w0 A L) (hn : L.length = n) (hf : FitF L) (h0 : Below w0.heap.size w0 w) (hc : CapL w gw who) :
    Calls Try.prog 26 #[.slice A n c, .func (.func 31) #[] #[.pointer (some ⟨gw, 0, none⟩)]] w
      (EachTold w0 (gone L who) fun w' => CapL w' gw who) := by
  subst hn
  have HA := Lib.hid ha
  have HF := Lib.hid hf
  have hl := hf.len
  obtain ⟨nn, hnn⟩ : ∃ nn, nn = L.length + 1 := ⟨_, rfl⟩
  obtain ⟨cs, hcs, hmk⟩ := make_fills nn (by omega) w
  have hmk2 : (Instr.makeSlice 22 (.int .i64 0) (.int .i64 ((L.length : Int) + 1))).run Try.prog w = .ok (.slice (some ⟨w.heap.size, 0, none⟩) 0 nn) (w.alloc (.cells cs 28)) := by
    rw [hnn] at hmk ⊢
    exact hmk
  have ho : OwnF w0 (w.alloc (.cells cs 28)) (.slice (some ⟨w.heap.size, 0, none⟩) 0 nn) [] [] :=
    ⟨OwnR.base (own_made Fw.cells 4 28 w nn (by unfold maxLen; omega) cs hcs) h0, fun x hx => (by cases hx), rfl, fun x hx => (by cases hx)⟩
  have hc1 : CapL (w.alloc (.cells cs 28)) gw who := hc.up ((Below.refl _ _).alloc (Nat.le_refl _) _)
  obtain ⟨w1, hw1⟩ : ∃ w1, w1 = w.alloc (.cells cs 28) := ⟨_, rfl⟩
  obtain ⟨g, hg⟩ : ∃ g, g = w.heap.size := ⟨_, rfl⟩
  rw [← hw1] at ho hc1 hmk2
  rw [← hg] at ho hmk2
  have HO := Lib.hid ho
  have HC := Lib.hid hc1
  clear ha hf hnn hcs hmk ho hc1 hw1 hg hc h0
  go_enter Try.func26, Try.ntmps26
  go_wp2_with fail
  clear hmk2
  go_loopw [5, 15] (fun v i wr => ∃ (k : Nat) (Ao : Option Addr) (co : Nat) (R : List Fw), k ≤ L.length ∧ v = .slice Ao k co ∧ i = .int .i64 k ∧ Hid (OwnF w0 wr (.slice Ao k co) (gone (L.take k) who) R) ∧ Hid (CapL wr gw who)) (fun _ i _ => L.length - (intOf i).toNat)
  case atStart => exact ⟨0, some ⟨g, 0, none⟩, nn, [], Nat.zero_le _, rfl, rfl, HO, HC⟩
  case round =>
    obtain ⟨k, Ao, co, R, hk, rfl, rfl, HV, HC⟩ := hrel
    obtain ⟨v3, rfl⟩ : ∃ w3, w3 = wr := ⟨_, rfl⟩
    by_cases g1 : k < L.length
    · obtain ⟨x, hx⟩ : ∃ x, L[k]? = some x := ⟨_, List.getElem?_eq_getElem g1⟩
      obtain ⟨a, B, cw, rfl, hal, p0, p1, p2, p3, hi, hcw⟩ := (HA.out.up HV.out.row.2).at_ hx
      have HX := Lib.hid hx
      have HI := Lib.hid hi
      have HXS := Lib.hid (HF.out.each x (List.mem_of_getElem? hx))
      obtain ⟨m, hm⟩ : ∃ m, m = x.wait.length := ⟨_, rfl⟩
      have HM := Lib.hid hm
      have hm1 : m ≤ 1000 := by have := HXS.out.1; omega
      rw [← hm] at p3 hcw
      clear hx hi hm
      go_upto_region 5 with (fail)
      obtain ⟨g4, v4, hg4, hv4, hb4, hbe4⟩ := box_new v3 28 #[.string x.left, .string x.right, .int .i64 x.by_, .slice B m cw]
      rw [← hv4, ← hg4]
      have HBE4 := Lib.hid hbe4
      obtain ⟨y0, y1, y2, y3⟩ := blk4 hb4
      clear p0 p1 p2 p3 hg4 hv4 hb4 hbe4
      go_wp2_with fail
      refine (own_any x.left x.right x.by_ x.wait B m cw v4 (HI.out.up HBE4.out) HM.out.symm (by omega) (by have := HXS.out.2.1; omega) (by have := HXS.out.2.2; omega)).mono ?_
      rintro e v5 ⟨A5, c5, rfl, ho5⟩
      have HO5 : Hid (OwnI v3 v5 (.slice A5 m c5) x.wait) := Lib.hid (OwnR.base ho5 HBE4.out)
      clear ho5 y0 y1 y2 y3
      go_upto_region 6 with (fail)
      obtain ⟨g6, v6, hg6, hv6, hb6, hbe6⟩ := box_new v5 28 #[.string x.left, .string x.right, .int .i64 x.by_, .slice A5 m c5]
      rw [← hv6, ← hg6]
      have HB6 := Lib.hid hb6
      have HO6 := Lib.hid (HO5.out.up hbe6)
      have HG6 : Hid (v3.heap.size ≤ g6) := Lib.hid (by rw [hg6]; exact HO5.out.2.size)
      have HC6 := Lib.hid (HC.out.up (HO6.out.2))
      clear hg6 hv6 hb6 hbe6
      go_wp2_with fail
      refine (clol_any v3 v6 g6 gw x.left x.right x.by_ A5 m c5 x.wait who HB6.out HO6.out HM.out.symm (by omega) HG6.out HC6.out).mono ?_
      rintro e v7 ⟨rfl, hgr, A7, k7, c7, hmine, hcap⟩
      have hlist := HV.out.up hgr
      obtain ⟨A8, c8, v8, R8, hr8, ho8, hgr8, hty8⟩ := hlist.push2 x.left x.right x.by_ _ A7 c7 hmine.wait (fun h b e => Nat.le_trans HV.out.row.2.size (hmine.new h b e)) k7 hmine.len (k + 1) (by rw [show (gone (L.take k) who).length = (L.take k).length from List.length_map .., List.length_take]; omega) (by omega)
      have HR8 := Lib.hid hr8
      have HO8 : Hid (OwnF w0 v8 (.slice A8 (k + 1) c8) (gone (L.take (k + 1)) who) R8) := Lib.hid (by
        rw [take_snoc HX.out, gone_snoc]; exact ho8)
      have HC8 : Hid (CapL v8 gw who) := Lib.hid (hcap.grown hgr8 hty8)
      obtain ⟨y0, y1, y2, y3⟩ := blk4 hmine.box
      clear hgr hmine hcap hlist hr8 ho8 hgr8 hty8
      go_wp2_with (at_builtin; refine wpList_append_run rfl rfl (by simp [Region.wanted]) rfl rfl HR8.out ?_; clear HR8)
      go_roundw
      case rel => exact ⟨k + 1, A8, c8, R8, by omega, rfl, by go_num, HO8, HC8⟩
      case measure => simp [intOf]; omega
    · obtain rfl : k = L.length := by omega
      have HV2 : Hid (OwnF w0 v3 (.slice Ao L.length co) (gone L who) R) := Lib.hid (by have := HV.out; rwa [List.take_length] at this)
      have HC2 : Hid (CapL v3 gw who) := Lib.hid HC.out
      clear HV HC
      go_wp2_with fail
      go_ret
      exact ⟨Ao, L.length, co, R, rfl, List.length_map .., HV2.out, HC2.out⟩

set_option maxHeartbeats 8000000 in
set_option maxRecDepth 100000 in
theorem eachd_any (A : Option Addr) (L : List Fl) (n c : Nat) (w0 w : World) (gw gt : Nat) (who : Int) (ha : FillsAt w0 A L) (hn : L.length = n) (hf : FitF L) (h0 : Below w0.heap.size w0 w) (hc : CapD w gw gt who (.slice none 0 0)) (hgt : w0.heap.size ≤ gt) :
    Calls Try.prog 26 #[.slice A n c, .func (.func 30) #[] #[.pointer (some ⟨gw, 0, none⟩), .pointer (some ⟨gt, 0, none⟩)]] w
      (EachTold w0 (ended L who) fun w' => Told w' gw gt who (tellF L who)) := by
  subst hn
  have HA := Lib.hid ha
  have HF := Lib.hid hf
  have hl := hf.len
  obtain ⟨nn, hnn⟩ : ∃ nn, nn = L.length + 1 := ⟨_, rfl⟩
  obtain ⟨cs, hcs, hmk⟩ := make_fills nn (by omega) w
  have hmk2 : (Instr.makeSlice 22 (.int .i64 0) (.int .i64 ((L.length : Int) + 1))).run Try.prog w = .ok (.slice (some ⟨w.heap.size, 0, none⟩) 0 nn) (w.alloc (.cells cs 28)) := by
    rw [hnn] at hmk ⊢
    exact hmk
  have ho : OwnF w0 (w.alloc (.cells cs 28)) (.slice (some ⟨w.heap.size, 0, none⟩) 0 nn) [] [] :=
    ⟨OwnR.base (own_made Fw.cells 4 28 w nn (by unfold maxLen; omega) cs hcs) h0, fun x hx => (by cases hx), rfl, fun x hx => (by cases hx)⟩
  have hc1 : CapD (w.alloc (.cells cs 28)) gw gt who (.slice none 0 0) := hc.up ((Below.refl _ _).alloc (Nat.le_refl _) _)
  obtain ⟨w1, hw1⟩ : ∃ w1, w1 = w.alloc (.cells cs 28) := ⟨_, rfl⟩
  obtain ⟨g, hg⟩ : ∃ g, g = w.heap.size := ⟨_, rfl⟩
  rw [← hw1] at ho hc1 hmk2
  rw [← hg] at ho hmk2
  have HO := Lib.hid ho
  have HC := Lib.hid hc1
  clear ha hf hnn hcs hmk ho hc1 hw1 hg hc h0
  go_enter Try.func26, Try.ntmps26
  go_wp2_with fail
  clear hmk2
  go_loopw [5, 15] (fun v i wr => ∃ (k mk : Nat) (Ao : Option Addr) (co : Nat) (R : List Fw), k ≤ L.length ∧ v = .slice Ao mk co ∧ i = .int .i64 k ∧ Hid (OwnF w0 wr (.slice Ao mk co) (ended (L.take k) who) R) ∧ Hid (Told wr gw gt who (tellF (L.take k) who)) ∧ Hid ((ended (L.take k) who).length = mk)) (fun _ i _ => L.length - (intOf i).toNat)
  case atStart => exact ⟨0, 0, some ⟨g, 0, none⟩, nn, [], Nat.zero_le _, rfl, rfl, HO, Lib.hid ⟨none, 0, 0, HC.out, ⟨fun h => absurd rfl h, Nat.le_refl _⟩, rfl⟩, Lib.hid rfl⟩
  case round =>
    obtain ⟨k, mk, Ao, co, R, hk, rfl, rfl, HV, HTO, HMK⟩ := hrel
    obtain ⟨v3, rfl⟩ : ∃ w3, w3 = wr := ⟨_, rfl⟩
    obtain ⟨T0, tn, tc, hcd, hti, htl⟩ := HTO.out
    have HC := Lib.hid hcd
    have HTI := Lib.hid hti
    have HTL := Lib.hid htl
    clear hcd hti htl
    have hmk1 : mk ≤ k := by
      have h1 := List.length_filter_le (fun x : Fl => decide (x.by_ ≠ who)) (L.take k)
      have h2 := HMK.out
      unfold ended at h2
      rw [h2, List.length_take] at h1
      omega
    by_cases g1 : k < L.length
    · obtain ⟨x, hx⟩ : ∃ x, L[k]? = some x := ⟨_, List.getElem?_eq_getElem g1⟩
      obtain ⟨a, B, cw, rfl, hal, p0, p1, p2, p3, hi, hcw⟩ := (HA.out.up HV.out.row.2).at_ hx
      have HX := Lib.hid hx
      have HI := Lib.hid hi
      have HXS := Lib.hid (HF.out.each x (List.mem_of_getElem? hx))
      obtain ⟨m, hm⟩ : ∃ m, m = x.wait.length := ⟨_, rfl⟩
      have HM := Lib.hid hm
      have hm1 : m ≤ 1000 := by have := HXS.out.1; omega
      rw [← hm] at p3 hcw
      clear hx hi hm
      go_upto_region 5 with (fail)
      obtain ⟨g4, v4, hg4, hv4, hb4, hbe4⟩ := box_new v3 28 #[.string x.left, .string x.right, .int .i64 x.by_, .slice B m cw]
      rw [← hv4, ← hg4]
      have HBE4 := Lib.hid hbe4
      obtain ⟨y0, y1, y2, y3⟩ := blk4 hb4
      clear p0 p1 p2 p3 hg4 hv4 hb4 hbe4
      go_wp2_with fail
      refine (own_any x.left x.right x.by_ x.wait B m cw v4 (HI.out.up HBE4.out) HM.out.symm (by omega) (by have := HXS.out.2.1; omega) (by have := HXS.out.2.2; omega)).mono ?_
      rintro e v5 ⟨A5, c5, rfl, ho5⟩
      have HO5 : Hid (OwnI v3 v5 (.slice A5 m c5) x.wait) := Lib.hid (OwnR.base ho5 HBE4.out)
      clear ho5 y0 y1 y2 y3
      go_upto_region 6 with (fail)
      obtain ⟨g6, v6, hg6, hv6, hb6, hbe6⟩ := box_new v5 28 #[.string x.left, .string x.right, .int .i64 x.by_, .slice A5 m c5]
      rw [← hv6, ← hg6]
      have HB6 := Lib.hid hb6
      have HO6 := Lib.hid (HO5.out.up hbe6)
      have HG6 : Hid (v3.heap.size ≤ g6) := Lib.hid (by rw [hg6]; exact HO5.out.2.size)
      have HC6 := Lib.hid (HC.out.up (HO6.out.2))
      clear hg6 hv6 hb6 hbe6
      go_wp2_with fail
      by_cases gb : x.by_ = who
      · refine (clod_any v3 v6 g6 gw gt x.left x.right x.by_ A5 m c5 x.wait who T0 tn tc HB6.out HO6.out HM.out.symm HC6.out).mono ?_
        rintro e v7 ⟨rfl, hgr, hmine, hcap⟩
        have hlist := HV.out.past hgr HC.out.told (by decide) (by decide) hgt
        have hti7 := HTI.out.kept (w' := v7) (fun _ _ hk => Blk.grown hk hgr fun e => blk_ne HC.out.told hk (by decide) (Option.some.inj e).symm)
        rw [if_pos gb] at hcap
        have HM9 : Hid ((ended (L.take (k + 1)) who).length = mk) := Lib.hid (by rw [take_snoc HX.out, ended_eq gb]; exact HMK.out)
        have HO8 : Hid (OwnF w0 v7 (.slice Ao mk co) (ended (L.take (k + 1)) who) R) := Lib.hid (by rw [take_snoc HX.out, ended_eq gb]; exact hlist)
        have HT8 : Hid (Told v7 gw gt who (tellF (L.take (k + 1)) who)) := Lib.hid (by
          rw [take_snoc HX.out, tellF_eq gb]
          exact ⟨A5, m, c5, hcap, ⟨hmine.wait.own, hmine.wait.cap⟩, HM.out.symm⟩)
        have hd : decide (x.by_ ≠ who) = false := decide_eq_false (fun h => h gb)
        clear hgr hmine hcap hlist hti7 gb
        rw [hd]
        clear hd
        go_wp2_with fail
        go_roundw
        case rel => exact ⟨k + 1, mk, Ao, co, R, by omega, rfl, by go_num, HO8, HT8, HM9⟩
        case measure => simp [intOf]; omega
      · refine (clod_any v3 v6 g6 gw gt x.left x.right x.by_ A5 m c5 x.wait who T0 tn tc HB6.out HO6.out HM.out.symm HC6.out).mono ?_
        rintro e v7 ⟨rfl, hgr, hmine, hcap⟩
        have hlist := HV.out.past hgr HC.out.told (by decide) (by decide) hgt
        have hti7 := HTI.out.kept (w' := v7) (fun _ _ hk => Blk.grown hk hgr fun e => blk_ne HC.out.told hk (by decide) (Option.some.inj e).symm)
        rw [if_neg gb] at hcap
        obtain ⟨A8, c8, v8, R8, hr8, ho8, hgr8, hty8⟩ := hlist.push2 x.left x.right x.by_ _ A5 c5 hmine.wait (fun h b e => Nat.le_trans HV.out.row.2.size (hmine.new h b e)) m hmine.len (mk + 1) (by rw [HMK.out]) (by omega)
        have HR8 := Lib.hid hr8
        have HM9 : Hid ((ended (L.take (k + 1)) who).length = mk + 1) := Lib.hid (by rw [take_snoc HX.out, ended_ne gb, List.length_append, HMK.out]; rfl)
        have HO8 : Hid (OwnF w0 v8 (.slice A8 (mk + 1) c8) (ended (L.take (k + 1)) who) R8) := Lib.hid (by rw [take_snoc HX.out, ended_ne gb]; exact ho8)
        have HT8 : Hid (Told v8 gw gt who (tellF (L.take (k + 1)) who)) := Lib.hid (by
          rw [take_snoc HX.out, tellF_ne gb]
          refine ⟨T0, tn, tc, hcap.grown hgr8 hty8, hti7.kept (fun _ _ hk => Blk.grown hk hgr8 fun e => ?_), HTL.out⟩
          obtain ⟨ds, hd⟩ := hty8 _ e.symm
          exact blk_ne hk hd (by decide) rfl)
        have hd : decide (x.by_ ≠ who) = true := decide_eq_true gb
        obtain ⟨y0, y1, y2, y3⟩ := blk4 hmine.box
        clear hgr hmine hcap hlist hti7 gb hr8 ho8 hgr8 hty8
        rw [hd]
        clear hd
        go_wp2_with (at_builtin; refine wpList_append_run rfl rfl (by simp [Region.wanted]) rfl rfl HR8.out ?_; clear HR8)
        go_roundw
        case rel => exact ⟨k + 1, mk + 1, A8, c8, R8, by omega, rfl, by go_num, HO8, HT8, HM9⟩
        case measure => simp [intOf]; omega
    · obtain rfl : k = L.length := by omega
      have HV2 : Hid (OwnF w0 v3 (.slice Ao mk co) (ended L who) R) := Lib.hid (by have := HV.out; rwa [List.take_length] at this)
      have HC2 : Hid (Told v3 gw gt who (tellF L who)) := Lib.hid (by have := HTO.out; rwa [List.take_length] at this)
      have HM2 : Hid ((ended L who).length = mk) := Lib.hid (by have := HMK.out; rwa [List.take_length] at this)
      clear HV HC HMK HTO
      go_wp2_with fail
      go_ret
      exact ⟨Ao, mk, co, R, rfl, HM2.out, HV2.out, HC2.out⟩

end Go.Proofs.Ytllkegonhghkcaa
