/-
  collatorlaw16.awake returns true: the first calls, whose answers are fixed. Nothing that was there is changed.
-/
import Derived.Test.YtaelenjnjoeheaaTks
namespace Go.Proofs.Ytaelenjnjoeheaa
open Go.RowKit P16

theorem box_two (w : World) (t1 : TypeId) (c1 : Array Value) (t2 : TypeId) (c2 : Array Value) : ∃ (g1 g2 : Nat) (v : World), g1 = w.heap.size ∧ g2 = w.heap.size + 1 ∧ v = (w.alloc (.cells c1 t1)).alloc (.cells c2 t2) ∧ Blk v g1 t1 c1 ∧ Blk v g2 t2 c2 ∧ Below w.heap.size w v ∧ g1 ≠ g2 := by
  refine ⟨_, _, _, rfl, rfl, rfl, (Blk.new w t1 c1).alloc _, ?_, ((Below.refl _ _).alloc (Nat.le_refl _) _).alloc (by simp) _, by omega⟩
  have := Blk.new (w.alloc (.cells c1 t1)) t2 c2
  simpa using this
def awL : List Tri := [⟨0, 0, 0⟩, ⟨1, 1, 1⟩, ⟨2, 2, 2⟩]
theorem aw_fit : FitN awL := fun x hx => by
  simp [awL] at hx
  rcases hx with rfl | rfl | rfl <;> exact ⟨⟨by decide, by decide⟩, ⟨by decide, by decide⟩, by decide, by decide⟩
theorem aw_facts : ∃ (x0 x1 : Tk) (T : List Tk), tksOf awL = T ∧ putQ ⟨2, false, []⟩ T = (2, ⟨2, false, [x0, x1]⟩, 0) ∧ takeQ ⟨2, false, [x0, x1]⟩ = (x0, ⟨2, false, [x1]⟩, 0) ∧ takeQ ⟨2, false, [x1]⟩ = (x1, ⟨2, false, []⟩, 0) ∧
    closeQ ⟨2, false, [x0, x1]⟩ = (⟨2, true, [x0, x1]⟩, 0) ∧ T[0]? = some x0 ∧ T[1]? = some x1 ∧ dropQ ⟨2, true, [x0, x1]⟩ 1 = (1, ⟨2, true, [x0]⟩, 0) ∧ (∀ x ∈ [x0, x1], x ∈ T) ∧ FitT T ∧ T.length = 3 := by
  refine ⟨tkOf ⟨0, 0, 0⟩, tkOf ⟨1, 1, 1⟩, _, rfl, by decide +kernel, by decide +kernel, by decide +kernel, by decide +kernel, rfl, rfl, by decide +kernel, fun x hx => ?_, tks_fit _, rfl⟩
  simp only [List.mem_cons, List.not_mem_nil, or_false] at hx
  rcases hx with rfl | rfl
  · exact List.mem_of_getElem? (i := 0) rfl
  · exact List.mem_of_getElem? (i := 1) rfl
theorem aw_cells {w : World} {g : Nat} {cs : Array Value} {T : List Tk} {x : Tk} (hk : Blk w g 39 cs) (hf : Filled Tk.cells 4 cs T T.length) (hx : T[0]? = some x) : ∀ W, Below w.heap.size w W → W.cell? ⟨g, 0, none⟩ = some (.int .i64 x.req) ∧ W.cell? ⟨g, 1, none⟩ = some (.int .i64 x.slot) ∧ W.cell? ⟨g, 2, none⟩ = some (.string x.left) ∧ W.cell? ⟨g, 3, none⟩ = some (.string x.right) := fun W hW => by
  have hb := hk.below hW hk.lt
  have hl := (List.getElem?_eq_some_iff.1 hx).1
  exact ⟨(hb.cell 0).trans (hf 0 x hl hx 0 _ rfl), (hb.cell 1).trans (hf 0 x hl hx 1 _ rfl), (hb.cell 2).trans (hf 0 x hl hx 2 _ rfl), (hb.cell 3).trans (hf 0 x hl hx 3 _ rfl)⟩
theorem aw_cells1 {w : World} {g : Nat} {cs : Array Value} {T : List Tk} {x : Tk} (hk : Blk w g 39 cs) (hf : Filled Tk.cells 4 cs T T.length) (hx : T[1]? = some x) : ∀ W, Below w.heap.size w W → W.cell? ⟨g, 4, none⟩ = some (.int .i64 x.req) ∧ W.cell? ⟨g, 5, none⟩ = some (.int .i64 x.slot) ∧ W.cell? ⟨g, 6, none⟩ = some (.string x.left) ∧ W.cell? ⟨g, 7, none⟩ = some (.string x.right) := fun W hW => by
  have hb := hk.below hW hk.lt
  have hl := (List.getElem?_eq_some_iff.1 hx).1
  exact ⟨(hb.cell 4).trans (hf 1 x hl hx 0 _ rfl), (hb.cell 5).trans (hf 1 x hl hx 1 _ rfl), (hb.cell 6).trans (hf 1 x hl hx 2 _ rfl), (hb.cell 7).trans (hf 1 x hl hx 3 _ rfl)⟩

set_option maxHeartbeats 8000000 in
set_option maxRecDepth 100000 in
theorem awake_any (w : World) : Calls Try.prog 7 #[] w fun e w' => e = .returned (.bool true) ∧ Below w.heap.size w w' := by
  obtain ⟨x0, x1, T, k1, k2, k3, k4, k5, k6, k7, k8, k9, k10, k11⟩ := aw_facts
  have K1 := Lib.hid k1
  have K2 := Lib.hid k2
  have K3 := Lib.hid k3
  have K4 := Lib.hid k4
  have K5 := Lib.hid k5
  have K6 := Lib.hid k6
  have K7 := Lib.hid k7
  have K8 := Lib.hid k8
  have K9 := Lib.hid k9
  have K10 := Lib.hid k10
  have K11 := Lib.hid k11
  clear k1 k2 k3 k4 k5 k6 k7 k8 k9 k10 k11
  go_enter Try.func7, Try.ntmps7
  go_wp2_with fail
  obtain ⟨gl, vl, hg, hv, hk, hbe⟩ := box_new w 48 #[.int .i64 0, .int .i64 0, .int .i64 0, .int .i64 1, .int .i64 1, .int .i64 1, .int .i64 2, .int .i64 2, .int .i64 2]
  rw [← hv, ← hg]
  have hr : TrisAt vl (some ⟨gl, 0, none⟩) awL := RowAt.of_blk tri_len hk
  have HR := Lib.hid hr
  have HW := Lib.hid hbe
  clear hg hv hk hbe hr
  refine (tasks_any (some ⟨gl, 0, none⟩) awL 3 3 _ HR.out rfl aw_fit).mono ?_
  rintro e w1 ⟨At, nt, ct, rfl, hnt, hct, hot⟩
  rw [K1.out] at hot hnt
  have hb := hot.2
  have hrow := OwnR.at_ tk_len hot hnt
  obtain ⟨gt, cs, rfl, hkt, hst, hft, -⟩ := OwnR.filled tk_len hot (by rw [K11.out]; decide)
  obtain rfl : nt = 3 := by rw [← hnt]; exact K11.out
  have HCt := Lib.hid hct
  have HT := Lib.hid hrow
  have HKt := Lib.hid hkt
  have HFt := Lib.hid hft
  have HW := Lib.hid (below_step HW.out hb)
  clear hb hrow hkt hst hft hnt hct hot HR
  go_wp2_with fail
  refine (inew_any 2 _ ⟨2, false, []⟩ 0 (by decide)).mono ?_
  rintro e w2 ⟨rfl, -, hb⟩
  have HT := Lib.hid (HT.out.up hb)
  have HKt := Lib.hid (HKt.out.below hb HKt.out.lt)
  have HW := Lib.hid (below_step HW.out hb)
  clear hb
  go_upto_region 3 with (fail)
  obtain ⟨g2, v1, hg, hv, hk, hbe⟩ := box_new w2 24 #[.int .i64 2, .bool false, .slice none 0 0]
  rw [← hv, ← hg]
  have HB2 := Lib.hid hk
  have HT := Lib.hid (HT.out.up hbe)
  have HKt := Lib.hid (HKt.out.below hbe HKt.out.lt)
  have HW := Lib.hid (below_step HW.out hbe)
  clear hg hv hk hbe
  obtain ⟨y0, y1, y2⟩ := blk3 HB2.out
  go_wp2_with fail
  refine (iput_any 2 false [] T none (some ⟨gt, 0, none⟩) 0 0 3 ct _ 2 2 false [x0, x1] 0 K2.out RowAt.nil rfl (Nat.le_refl _) FitT.nil HT.out K11.out HCt.out K10.out).mono ?_
  rintro e w2 ⟨A4, n4, c4, rfl, hn, hc, ha, hb⟩
  have HT := Lib.hid (HT.out.up hb)
  have HKt := Lib.hid (HKt.out.below hb HKt.out.lt)
  have HB2 := Lib.hid (HB2.out.below hb HB2.out.lt)
  have HW := Lib.hid (below_step HW.out hb)
  have HN4 := Lib.hid hn
  have HC4 := Lib.hid hc
  have HA4 := Lib.hid ha.at_
  clear hn hc ha hb
  obtain rfl : n4 = 2 := HN4.out.symm
  clear y0 y1 y2
  go_upto_region 4 with (fail)
  obtain ⟨g5, v3, hg, hv, hk, hbe⟩ := box_new w2 24 #[.int .i64 2, .bool false, .slice A4 2 c4]
  rw [← hv, ← hg]
  have HB5 := Lib.hid hk
  have HT := Lib.hid (HT.out.up hbe)
  have HKt := Lib.hid (HKt.out.below hbe HKt.out.lt)
  have HB2 := Lib.hid (HB2.out.below hbe HB2.out.lt)
  have HA4 := Lib.hid (HA4.out.up hbe)
  have HW := Lib.hid (below_step HW.out hbe)
  clear hg hv hk hbe
  obtain ⟨y0, y1, y2⟩ := blk3 HB5.out
  go_wp2_with fail
  refine (itake_any 2 false [x0, x1] A4 2 c4 _ x0 2 false [x1] 0 K3.out HA4.out rfl HC4.out (fun x hx => K10.out x (K9.out x hx))).mono ?_
  rintro e w4 ⟨A6, n6, c6, rfl, hn, hc, ha, hb⟩
  have HT := Lib.hid (HT.out.up hb)
  have HKt := Lib.hid (HKt.out.below hb HKt.out.lt)
  have HB2 := Lib.hid (HB2.out.below hb HB2.out.lt)
  have HA4 := Lib.hid (HA4.out.up hb)
  have HB5 := Lib.hid (HB5.out.below hb HB5.out.lt)
  have HW := Lib.hid (below_step HW.out hb)
  have HN6 := Lib.hid hn
  have HC6 := Lib.hid hc
  have HA6 := Lib.hid ha.at_
  clear hn hc ha hb
  obtain rfl : n6 = 1 := HN6.out.symm
  clear y0 y1 y2
  go_upto_region 5 with (fail)
  obtain ⟨g7, g8, v5, hg1, hg2, hv, hk1, hk2, hbe, -⟩ := box_two w4 39 #[.int .i64 x0.req, .int .i64 x0.slot, .string x0.left, .string x0.right] 24 #[.int .i64 2, .bool false, .slice A6 1 c6]
  rw [← hv, ← hg2, ← hg1]
  have HB7 := Lib.hid hk1
  have HB8 := Lib.hid hk2
  have HT := Lib.hid (HT.out.up hbe)
  have HKt := Lib.hid (HKt.out.below hbe HKt.out.lt)
  have HB2 := Lib.hid (HB2.out.below hbe HB2.out.lt)
  have HA4 := Lib.hid (HA4.out.up hbe)
  have HB5 := Lib.hid (HB5.out.below hbe HB5.out.lt)
  have HA6 := Lib.hid (HA6.out.up hbe)
  have HW := Lib.hid (below_step HW.out hbe)
  clear hg1 hg2 hv hk1 hk2 hbe
  obtain ⟨y0, y1, y2⟩ := blk3 HB8.out
  go_wp2_with fail
  refine (itake_any 2 false [x1] A6 1 c6 _ x1 2 false [] 0 K4.out HA6.out rfl HC6.out (fun x hx => K10.out x (K9.out x (by simp at hx; simp [hx])))).mono ?_
  rintro e w6 ⟨A9, n9, c9, rfl, hn, hc, ha, hb⟩
  have HT := Lib.hid (HT.out.up hb)
  have HKt := Lib.hid (HKt.out.below hb HKt.out.lt)
  have HB2 := Lib.hid (HB2.out.below hb HB2.out.lt)
  have HA4 := Lib.hid (HA4.out.up hb)
  have HB5 := Lib.hid (HB5.out.below hb HB5.out.lt)
  have HA6 := Lib.hid (HA6.out.up hb)
  have HB7 := Lib.hid (HB7.out.below hb HB7.out.lt)
  have HB8 := Lib.hid (HB8.out.below hb HB8.out.lt)
  have HW := Lib.hid (below_step HW.out hb)
  have HN9 := Lib.hid hn
  have HC9 := Lib.hid hc
  have HA9 := Lib.hid ha.at_
  clear hn hc ha hb
  obtain rfl : n9 = 0 := HN9.out.symm
  clear y0 y1 y2
  clear HA6 HB8
  go_upto_region 6 with (fail)
  obtain ⟨g10, g11, v7, hg1, hg2, hv, hk1, hk2, hbe, -⟩ := box_two w6 39 #[.int .i64 x1.req, .int .i64 x1.slot, .string x1.left, .string x1.right] 24 #[.int .i64 2, .bool false, .slice A9 0 c9]
  rw [← hv, ← hg2, ← hg1]
  have HB10 := Lib.hid hk1
  have HB11 := Lib.hid hk2
  have HT := Lib.hid (HT.out.up hbe)
  have HKt := Lib.hid (HKt.out.below hbe HKt.out.lt)
  have HB2 := Lib.hid (HB2.out.below hbe HB2.out.lt)
  have HA4 := Lib.hid (HA4.out.up hbe)
  have HB5 := Lib.hid (HB5.out.below hbe HB5.out.lt)
  have HB7 := Lib.hid (HB7.out.below hbe HB7.out.lt)
  have HA9 := Lib.hid (HA9.out.up hbe)
  have HW := Lib.hid (below_step HW.out hbe)
  clear hg1 hg2 hv hk1 hk2 hbe
  obtain ⟨y0, y1, y2⟩ := blk3 HB11.out
  go_wp2_with fail
  refine (itake_any 2 false [] A9 0 c9 _ zeroT 0 false [] 10 (by decide) RowAt.nil rfl (Nat.zero_le _) FitT.nil).mono ?_
  rintro e w8 ⟨A12, n12, c12, rfl, hn, hc, ha, hb⟩
  have HT := Lib.hid (HT.out.up hb)
  have HKt := Lib.hid (HKt.out.below hb HKt.out.lt)
  have HB2 := Lib.hid (HB2.out.below hb HB2.out.lt)
  have HA4 := Lib.hid (HA4.out.up hb)
  have HB5 := Lib.hid (HB5.out.below hb HB5.out.lt)
  have HB7 := Lib.hid (HB7.out.below hb HB7.out.lt)
  have HA9 := Lib.hid (HA9.out.up hb)
  have HB10 := Lib.hid (HB10.out.below hb HB10.out.lt)
  have HB11 := Lib.hid (HB11.out.below hb HB11.out.lt)
  have HW := Lib.hid (below_step HW.out hb)
  clear hn hc ha hb y0 y1 y2
  clear HA9 HB11
  go_upto_region 7 with (fail)
  obtain ⟨g13, g14, v9, hg1, hg2, hv, hk1, hk2, hbe, -⟩ := box_two w8 39 #[.int .i64 zeroT.req, .int .i64 zeroT.slot, .string zeroT.left, .string zeroT.right] 24 #[.int .i64 0, .bool false, .slice A12 n12 c12]
  rw [← hv, ← hg2, ← hg1]
  have HB13 := Lib.hid hk1
  have HB14 := Lib.hid hk2
  have HT := Lib.hid (HT.out.up hbe)
  have HKt := Lib.hid (HKt.out.below hbe HKt.out.lt)
  have HB2 := Lib.hid (HB2.out.below hbe HB2.out.lt)
  have HA4 := Lib.hid (HA4.out.up hbe)
  have HB5 := Lib.hid (HB5.out.below hbe HB5.out.lt)
  have HB7 := Lib.hid (HB7.out.below hbe HB7.out.lt)
  have HB10 := Lib.hid (HB10.out.below hbe HB10.out.lt)
  have HW := Lib.hid (below_step HW.out hbe)
  clear hg1 hg2 hv hk1 hk2 hbe
  clear HB13 HB14
  obtain ⟨y0, y1, y2⟩ := blk3 HB5.out
  go_wp2_with fail
  refine (iclose_any 2 false [x0, x1] A4 2 c4 _ 2 true [x0, x1] 0 K5.out HA4.out rfl (fun x hx => K10.out x (K9.out x hx))).mono ?_
  rintro e w10 ⟨A16, n16, c16, rfl, hn, hc, ha, hb⟩
  have HT := Lib.hid (HT.out.up hb)
  have HKt := Lib.hid (HKt.out.below hb HKt.out.lt)
  have HB2 := Lib.hid (HB2.out.below hb HB2.out.lt)
  have HA4 := Lib.hid (HA4.out.up hb)
  have HB5 := Lib.hid (HB5.out.below hb HB5.out.lt)
  have HB7 := Lib.hid (HB7.out.below hb HB7.out.lt)
  have HB10 := Lib.hid (HB10.out.below hb HB10.out.lt)
  have HW := Lib.hid (below_step HW.out hb)
  have HN16 := Lib.hid hn
  have HC16 := Lib.hid hc
  have HA16 := Lib.hid ha.at_
  clear hn hc ha hb
  obtain rfl : n16 = 2 := HN16.out.symm
  clear y0 y1 y2
  go_upto_region 8 with (fail)
  obtain ⟨g16, v11, hg, hv, hk, hbe⟩ := box_new w10 24 #[.int .i64 2, .bool true, .slice A16 2 c16]
  rw [← hv, ← hg]
  have HB16 := Lib.hid hk
  have HT := Lib.hid (HT.out.up hbe)
  have HKt := Lib.hid (HKt.out.below hbe HKt.out.lt)
  have HB2 := Lib.hid (HB2.out.below hbe HB2.out.lt)
  have HA4 := Lib.hid (HA4.out.up hbe)
  have HB5 := Lib.hid (HB5.out.below hbe HB5.out.lt)
  have HB7 := Lib.hid (HB7.out.below hbe HB7.out.lt)
  have HB10 := Lib.hid (HB10.out.below hbe HB10.out.lt)
  have HA16 := Lib.hid (HA16.out.up hbe)
  have HW := Lib.hid (below_step HW.out hbe)
  clear hg hv hk hbe
  have HC16b : Hid (∀ W, Below v11.heap.size v11 W → Blk W g16 24 #[.int .i64 2, .bool true, .slice A16 2 c16]) := Lib.hid fun W hW => HB16.out.below hW HB16.out.lt
  have HTc : Hid (∀ W, Below v11.heap.size v11 W → W.cell? ⟨gt, 0, none⟩ = some (.int .i64 x0.req) ∧ W.cell? ⟨gt, 1, none⟩ = some (.int .i64 x0.slot) ∧ W.cell? ⟨gt, 2, none⟩ = some (.string x0.left) ∧ W.cell? ⟨gt, 3, none⟩ = some (.string x0.right)) := Lib.hid (aw_cells HKt.out HFt.out K6.out)
  have HTd : Hid (∀ W, Below v11.heap.size v11 W → W.cell? ⟨gt, 4, none⟩ = some (.int .i64 x1.req) ∧ W.cell? ⟨gt, 5, none⟩ = some (.int .i64 x1.slot) ∧ W.cell? ⟨gt, 6, none⟩ = some (.string x1.left) ∧ W.cell? ⟨gt, 7, none⟩ = some (.string x1.right)) := Lib.hid (aw_cells1 HKt.out HFt.out K7.out)
  have HPC : Hid (putQ ⟨2, true, [x0, x1]⟩ [x0] = (0, ⟨0, false, []⟩, 13)) := Lib.hid (put_closed (right_of (by show (0 : Int) ≤ 2; decide) (by show (2 : Int) ≤ 4096; decide) (by show ((2 : Nat) : Int) ≤ 2; decide)) rfl)
  have HFF : Hid (FitT [x0, x1]) := Lib.hid (fun x hx => K10.out x (K9.out x hx))
  have HFO : Hid (FitT [x0]) := Lib.hid (fun x hx => HFF.out x (by simp at hx; simp [hx]))
  go_cut [20] (fun s20 wx => s20 = .int .i64 13 ∧ Below v11.heap.size v11 wx)
  case first =>
    refine wp_region_noPanic ?_
    refine wp_region_held_drew (S := fun W => Below v11.heap.size v11 W) (by kernel_rfl) ((Below.refl v11.heap.size v11).drew) (fun hS0 => ?_)
    change wpAnyH _ _ _ _ _ 14 #[false, false, false, false, false, false, false, false, false, false, false, false, false, false] _ (World.drew _)
    refine wpAnyH_take (i := 0) (v := .agg #[.int .i64 2, .bool true, .slice A16 2 c16]) rfl (by kernel_rfl) (by kernel_rfl) (by kernel_rfl) (fun _ _ _ h => h) (Or.inl ⟨by rfl, fun w' hS' => by obtain ⟨y0, y1, y2⟩ := blk3 (HC16b.out w' hS'); go_simp⟩) hS0 ?_
    change wpAnyH _ _ _ _ _ _ _ (Act.put _ (some 69) (.agg #[.int .i64 2, .bool true, .slice A16 2 c16])) _
    simp only [Act.put, List.setIfInBounds_toArray, List.set_cons_zero, List.set_cons_succ]
    refine wpAnyH_take (i := 1) (v := .slice (some ⟨gt, 0, none⟩) 3 ct) rfl (by kernel_rfl) (by kernel_rfl) (by kernel_rfl) (fun _ _ _ h => h) (Or.inl ⟨by rfl, fun w' hS' => by go_simp⟩) hS0 ?_
    change wpAnyH _ _ _ _ _ _ _ (Act.put _ (some 70) (.slice (some ⟨gt, 0, none⟩) 3 ct)) _
    simp only [Act.put, List.setIfInBounds_toArray, List.set_cons_zero, List.set_cons_succ]
    refine wpAnyH_take (i := 2) (v := .pointer (some ⟨gt, 0, none⟩)) rfl (by kernel_rfl) (by kernel_rfl) (by kernel_rfl) (fun _ _ _ h => h) (Or.inl ⟨by rfl, fun w' hS' => by go_simp⟩) hS0 ?_
    change wpAnyH _ _ _ _ _ _ _ (Act.put _ (some 71) (.pointer (some ⟨gt, 0, none⟩))) _
    simp only [Act.put, List.setIfInBounds_toArray, List.set_cons_zero, List.set_cons_succ]
    refine wpAnyH_take (i := 3) (v := .agg #[.int .i64 x0.req, .int .i64 x0.slot, .string x0.left, .string x0.right]) rfl (by kernel_rfl) (by kernel_rfl) (by kernel_rfl) (fun _ _ _ h => h) (Or.inl ⟨by rfl, fun w' hS' => by obtain ⟨c0, c1, c2, c3⟩ := HTc.out w' hS'; go_simp⟩) hS0 ?_
    change wpAnyH _ _ _ _ _ _ _ (Act.put _ (some 72) (.agg #[.int .i64 x0.req, .int .i64 x0.slot, .string x0.left, .string x0.right])) _
    simp only [Act.put, List.setIfInBounds_toArray, List.set_cons_zero, List.set_cons_succ]
    refine wpAnyH_ready (rs := [4, 10]) (by kernel_rfl) (by simp) (AllReadyH.cons rfl (fun K hK => ?_) (AllReadyH.cons rfl (fun K hK => ?_) (AllReadyH.nil)))
    · skip
      obtain ⟨go3, W2, hr6, he7, he7w⟩ := op_oneT x0 (v11.drew)
      have hb4 : Below (v11.drew).heap.size (v11.drew) W2 := by rw [he7w]; exact (Below.refl _ _).alloc (Nat.le_refl _) _
      have hk5 : Blk W2 go3 39 #[.int .i64 x0.req, .int .i64 x0.slot, .string x0.left, .string x0.right] := by rw [he7w, he7]; exact Blk.new _ _ _
      clear he7 he7w
      refine step_op_run (hr6 _ _ _ rfl rfl) rfl ?_
      refine hK.out _ _ (hS0.trans (hb4.mono hS0.size)) (fun hS1 => ?_)
      clear hK K
      change wpAnyH _ _ _ _ _ _ _ (Act.put _ (some 73) (.slice (some ⟨go3, 0, none⟩) 1 1)) _
      simp only [Act.put, List.setIfInBounds_toArray, List.set_cons_zero, List.set_cons_succ]
      refine wpAnyH_ready (rs := [5, 10]) (by kernel_rfl) (by simp) (AllReadyH.cons rfl (fun K hK => ?_) (AllReadyH.cons rfl (fun K hK => ?_) (AllReadyH.nil)))
      · skip
        go_simp
        refine (iput_any 2 true [x0, x1] [x0] A16 (some ⟨go3, 0, none⟩) 2 c16 1 1 _ 0 0 false [] 13 HPC.out (HA16.out.up hS1) rfl HC16.out HFF.out (RowAt.of_blk (L := [x0]) tk_len (by simpa [Tk.cells] using hk5)) rfl (Nat.le_refl _) HFO.out).mono ?_
        rintro e W9 ⟨A11, n12, c13, rfl, -, -, -, hb10⟩
        refine hK.out _ _ (hS1.trans (hb10.mono hS1.size)) (fun hS8 => ?_)
        clear hK K
        simp only [List.setIfInBounds_toArray, List.set_cons_zero, List.set_cons_succ]
        refine wpAnyH_take (i := 6) (v := .tuple #[.int .i64 0, .agg #[.int .i64 0, .bool false, .slice A11 n12 c13], .int .i64 13]) rfl (by kernel_rfl) (by kernel_rfl) (by kernel_rfl) (fun _ _ _ h => h) (Or.inl ⟨by rfl, fun w' hS' => by go_simp⟩) hS8 ?_
        change wpAnyH _ _ _ _ _ _ _ (Act.put _ (some 68) (.tuple #[.int .i64 0, .agg #[.int .i64 0, .bool false, .slice A11 n12 c13], .int .i64 13])) _
        simp only [Act.put, List.setIfInBounds_toArray, List.set_cons_zero, List.set_cons_succ]
        refine wpAnyH_take (i := 7) (v := .int .i64 0) rfl (by kernel_rfl) (by kernel_rfl) (by kernel_rfl) (fun _ _ _ h => h) (Or.inl ⟨by rfl, fun w' hS' => by go_simp⟩) hS8 ?_
        change wpAnyH _ _ _ _ _ _ _ (Act.put _ (some 75) (.int .i64 0)) _
        simp only [Act.put, List.setIfInBounds_toArray, List.set_cons_zero, List.set_cons_succ]
        refine wpAnyH_take (i := 8) (v := .agg #[.int .i64 0, .bool false, .slice A11 n12 c13]) rfl (by kernel_rfl) (by kernel_rfl) (by kernel_rfl) (fun _ _ _ h => h) (Or.inl ⟨by rfl, fun w' hS' => by go_simp⟩) hS8 ?_
        change wpAnyH _ _ _ _ _ _ _ (Act.put _ (some 76) (.agg #[.int .i64 0, .bool false, .slice A11 n12 c13])) _
        simp only [Act.put, List.setIfInBounds_toArray, List.set_cons_zero, List.set_cons_succ]
        refine wpAnyH_take (i := 9) (v := .int .i64 13) rfl (by kernel_rfl) (by kernel_rfl) (by kernel_rfl) (fun _ _ _ h => h) (Or.inl ⟨by rfl, fun w' hS' => by go_simp⟩) hS8 ?_
        change wpAnyH _ _ _ _ _ _ _ (Act.put _ (some 77) (.int .i64 13)) _
        simp only [Act.put, List.setIfInBounds_toArray, List.set_cons_zero, List.set_cons_succ]
        refine wpAnyH_ready (rs := [10]) (by kernel_rfl) (by simp) (AllReadyH.cons rfl (fun K hK => ?_) (AllReadyH.nil))
        · skip
          obtain ⟨gz16, W15, hr19, hk18, hb17, hg20⟩ := op_allocQ (W9)
          refine step_op_run (hr19 _ _ rfl) rfl ?_
          refine hK.out _ _ (hS8.trans (hb17.mono hS8.size)) (fun hS14 => ?_)
          clear hK K
          change wpAnyH _ _ _ _ _ _ _ (Act.put _ (some 19) (.pointer (some ⟨gz16, 0, none⟩))) _
          simp only [Act.put, List.setIfInBounds_toArray, List.set_cons_zero, List.set_cons_succ]
          refine wpAnyH_take (i := 11) (v := .int .i64 0) rfl (by kernel_rfl) (by kernel_rfl) (by kernel_rfl) (fun _ _ _ h => h) (Or.inl ⟨by rfl, fun w' hS' => by exact op_assign rfl rfl⟩) hS14 ?_
          change wpAnyH _ _ _ _ _ _ _ (Act.put _ (some 18) (.int .i64 0)) _
          simp only [Act.put, List.setIfInBounds_toArray, List.set_cons_zero, List.set_cons_succ]
          refine wpAnyH_ready (rs := [12]) (by kernel_rfl) (by simp) (AllReadyH.cons rfl (fun K hK => ?_) (AllReadyH.nil))
          · skip
            obtain ⟨W22, hr24, hk23, hgr25⟩ := op_storeQ hk18 0 false A11 n12 c13
            refine step_op_skip (hr24 _ _ _ _ rfl rfl rfl) rfl ?_
            refine hK.out _ _ (grown_below hS14 hgr25 hS14.size (Nat.le_trans hS8.size hg20)) (fun hS21 => ?_)
            clear hK K
            change wpAnyH _ _ _ _ _ _ _ (Act.put _ none (undef)) _
            simp only [Act.put]
            refine wpAnyH_take (i := 13) (v := .int .i64 13) rfl (by kernel_rfl) (by kernel_rfl) (by kernel_rfl) (fun _ _ _ h => h) (Or.inl ⟨by rfl, fun w' hS' => by exact op_assign rfl rfl⟩) hS21 ?_
            change wpAnyH _ _ _ _ _ _ _ (Act.put _ (some 20) (.int .i64 13)) _
            simp only [Act.put, List.setIfInBounds_toArray, List.set_cons_zero, List.set_cons_succ]
            refine wpAnyH_done (by kernel_rfl) ?_ _
            refine NoPanic.normal ?_
            go_wp2_with fail
            go_meet
            exact ⟨rfl, hS21⟩
      · skip
        obtain ⟨gz28, W27, hr31, hk30, hb29, hg32⟩ := op_allocQ (W2)
        refine step_op_run (hr31 _ _ rfl) rfl ?_
        refine hK.out _ _ (hS1.trans (hb29.mono hS1.size)) (fun hS26 => ?_)
        clear hK K
        change wpAnyH _ _ _ _ _ _ _ (Act.put _ (some 19) (.pointer (some ⟨gz28, 0, none⟩))) _
        simp only [Act.put, List.setIfInBounds_toArray, List.set_cons_zero, List.set_cons_succ]
        refine wpAnyH_ready (rs := [5]) (by kernel_rfl) (by simp) (AllReadyH.cons rfl (fun K hK => ?_) (AllReadyH.nil))
        · skip
          go_simp
          refine (iput_any 2 true [x0, x1] [x0] A16 (some ⟨go3, 0, none⟩) 2 c16 1 1 _ 0 0 false [] 13 HPC.out (HA16.out.up hS26) rfl HC16.out HFF.out (RowAt.of_blk (L := [x0]) tk_len (by simpa [Tk.cells] using (hk5.below hb29 hk5.lt))) rfl (Nat.le_refl _) HFO.out).mono ?_
          rintro e W34 ⟨A36, n37, c38, rfl, -, -, -, hb35⟩
          refine hK.out _ _ (hS26.trans (hb35.mono hS26.size)) (fun hS33 => ?_)
          clear hK K
          simp only [List.setIfInBounds_toArray, List.set_cons_zero, List.set_cons_succ]
          refine wpAnyH_take (i := 6) (v := .tuple #[.int .i64 0, .agg #[.int .i64 0, .bool false, .slice A36 n37 c38], .int .i64 13]) rfl (by kernel_rfl) (by kernel_rfl) (by kernel_rfl) (fun _ _ _ h => h) (Or.inl ⟨by rfl, fun w' hS' => by go_simp⟩) hS33 ?_
          change wpAnyH _ _ _ _ _ _ _ (Act.put _ (some 68) (.tuple #[.int .i64 0, .agg #[.int .i64 0, .bool false, .slice A36 n37 c38], .int .i64 13])) _
          simp only [Act.put, List.setIfInBounds_toArray, List.set_cons_zero, List.set_cons_succ]
          refine wpAnyH_take (i := 7) (v := .int .i64 0) rfl (by kernel_rfl) (by kernel_rfl) (by kernel_rfl) (fun _ _ _ h => h) (Or.inl ⟨by rfl, fun w' hS' => by go_simp⟩) hS33 ?_
          change wpAnyH _ _ _ _ _ _ _ (Act.put _ (some 75) (.int .i64 0)) _
          simp only [Act.put, List.setIfInBounds_toArray, List.set_cons_zero, List.set_cons_succ]
          refine wpAnyH_take (i := 8) (v := .agg #[.int .i64 0, .bool false, .slice A36 n37 c38]) rfl (by kernel_rfl) (by kernel_rfl) (by kernel_rfl) (fun _ _ _ h => h) (Or.inl ⟨by rfl, fun w' hS' => by go_simp⟩) hS33 ?_
          change wpAnyH _ _ _ _ _ _ _ (Act.put _ (some 76) (.agg #[.int .i64 0, .bool false, .slice A36 n37 c38])) _
          simp only [Act.put, List.setIfInBounds_toArray, List.set_cons_zero, List.set_cons_succ]
          refine wpAnyH_take (i := 9) (v := .int .i64 13) rfl (by kernel_rfl) (by kernel_rfl) (by kernel_rfl) (fun _ _ _ h => h) (Or.inl ⟨by rfl, fun w' hS' => by go_simp⟩) hS33 ?_
          change wpAnyH _ _ _ _ _ _ _ (Act.put _ (some 77) (.int .i64 13)) _
          simp only [Act.put, List.setIfInBounds_toArray, List.set_cons_zero, List.set_cons_succ]
          refine wpAnyH_take (i := 11) (v := .int .i64 0) rfl (by kernel_rfl) (by kernel_rfl) (by kernel_rfl) (fun _ _ _ h => h) (Or.inl ⟨by rfl, fun w' hS' => by exact op_assign rfl rfl⟩) hS33 ?_
          change wpAnyH _ _ _ _ _ _ _ (Act.put _ (some 18) (.int .i64 0)) _
          simp only [Act.put, List.setIfInBounds_toArray, List.set_cons_zero, List.set_cons_succ]
          refine wpAnyH_ready (rs := [12]) (by kernel_rfl) (by simp) (AllReadyH.cons rfl (fun K hK => ?_) (AllReadyH.nil))
          · skip
            obtain ⟨W40, hr42, hk41, hgr43⟩ := op_storeQ (hk30.below hb35 hk30.lt) 0 false A36 n37 c38
            refine step_op_skip (hr42 _ _ _ _ rfl rfl rfl) rfl ?_
            refine hK.out _ _ (grown_below hS33 hgr43 hS33.size (Nat.le_trans hS1.size hg32)) (fun hS39 => ?_)
            clear hK K
            change wpAnyH _ _ _ _ _ _ _ (Act.put _ none (undef)) _
            simp only [Act.put]
            refine wpAnyH_take (i := 13) (v := .int .i64 13) rfl (by kernel_rfl) (by kernel_rfl) (by kernel_rfl) (fun _ _ _ h => h) (Or.inl ⟨by rfl, fun w' hS' => by exact op_assign rfl rfl⟩) hS39 ?_
            change wpAnyH _ _ _ _ _ _ _ (Act.put _ (some 20) (.int .i64 13)) _
            simp only [Act.put, List.setIfInBounds_toArray, List.set_cons_zero, List.set_cons_succ]
            refine wpAnyH_done (by kernel_rfl) ?_ _
            refine NoPanic.normal ?_
            go_wp2_with fail
            go_meet
            exact ⟨rfl, hS39⟩
    · skip
      obtain ⟨gz46, W45, hr49, hk48, hb47, hg50⟩ := op_allocQ (v11.drew)
      refine step_op_run (hr49 _ _ rfl) rfl ?_
      refine hK.out _ _ (hS0.trans (hb47.mono hS0.size)) (fun hS44 => ?_)
      clear hK K
      change wpAnyH _ _ _ _ _ _ _ (Act.put _ (some 19) (.pointer (some ⟨gz46, 0, none⟩))) _
      simp only [Act.put, List.setIfInBounds_toArray, List.set_cons_zero, List.set_cons_succ]
      refine wpAnyH_ready (rs := [4]) (by kernel_rfl) (by simp) (AllReadyH.cons rfl (fun K hK => ?_) (AllReadyH.nil))
      · skip
        obtain ⟨go53, W52, hr56, he57, he57w⟩ := op_oneT x0 (W45)
        have hb54 : Below (W45).heap.size (W45) W52 := by rw [he57w]; exact (Below.refl _ _).alloc (Nat.le_refl _) _
        have hk55 : Blk W52 go53 39 #[.int .i64 x0.req, .int .i64 x0.slot, .string x0.left, .string x0.right] := by rw [he57w, he57]; exact Blk.new _ _ _
        clear he57 he57w
        refine step_op_run (hr56 _ _ _ rfl rfl) rfl ?_
        refine hK.out _ _ (hS44.trans (hb54.mono hS44.size)) (fun hS51 => ?_)
        clear hK K
        change wpAnyH _ _ _ _ _ _ _ (Act.put _ (some 73) (.slice (some ⟨go53, 0, none⟩) 1 1)) _
        simp only [Act.put, List.setIfInBounds_toArray, List.set_cons_zero, List.set_cons_succ]
        refine wpAnyH_ready (rs := [5]) (by kernel_rfl) (by simp) (AllReadyH.cons rfl (fun K hK => ?_) (AllReadyH.nil))
        · skip
          go_simp
          refine (iput_any 2 true [x0, x1] [x0] A16 (some ⟨go53, 0, none⟩) 2 c16 1 1 _ 0 0 false [] 13 HPC.out (HA16.out.up hS51) rfl HC16.out HFF.out (RowAt.of_blk (L := [x0]) tk_len (by simpa [Tk.cells] using hk55)) rfl (Nat.le_refl _) HFO.out).mono ?_
          rintro e W59 ⟨A61, n62, c63, rfl, -, -, -, hb60⟩
          refine hK.out _ _ (hS51.trans (hb60.mono hS51.size)) (fun hS58 => ?_)
          clear hK K
          simp only [List.setIfInBounds_toArray, List.set_cons_zero, List.set_cons_succ]
          refine wpAnyH_take (i := 6) (v := .tuple #[.int .i64 0, .agg #[.int .i64 0, .bool false, .slice A61 n62 c63], .int .i64 13]) rfl (by kernel_rfl) (by kernel_rfl) (by kernel_rfl) (fun _ _ _ h => h) (Or.inl ⟨by rfl, fun w' hS' => by go_simp⟩) hS58 ?_
          change wpAnyH _ _ _ _ _ _ _ (Act.put _ (some 68) (.tuple #[.int .i64 0, .agg #[.int .i64 0, .bool false, .slice A61 n62 c63], .int .i64 13])) _
          simp only [Act.put, List.setIfInBounds_toArray, List.set_cons_zero, List.set_cons_succ]
          refine wpAnyH_take (i := 7) (v := .int .i64 0) rfl (by kernel_rfl) (by kernel_rfl) (by kernel_rfl) (fun _ _ _ h => h) (Or.inl ⟨by rfl, fun w' hS' => by go_simp⟩) hS58 ?_
          change wpAnyH _ _ _ _ _ _ _ (Act.put _ (some 75) (.int .i64 0)) _
          simp only [Act.put, List.setIfInBounds_toArray, List.set_cons_zero, List.set_cons_succ]
          refine wpAnyH_take (i := 8) (v := .agg #[.int .i64 0, .bool false, .slice A61 n62 c63]) rfl (by kernel_rfl) (by kernel_rfl) (by kernel_rfl) (fun _ _ _ h => h) (Or.inl ⟨by rfl, fun w' hS' => by go_simp⟩) hS58 ?_
          change wpAnyH _ _ _ _ _ _ _ (Act.put _ (some 76) (.agg #[.int .i64 0, .bool false, .slice A61 n62 c63])) _
          simp only [Act.put, List.setIfInBounds_toArray, List.set_cons_zero, List.set_cons_succ]
          refine wpAnyH_take (i := 9) (v := .int .i64 13) rfl (by kernel_rfl) (by kernel_rfl) (by kernel_rfl) (fun _ _ _ h => h) (Or.inl ⟨by rfl, fun w' hS' => by go_simp⟩) hS58 ?_
          change wpAnyH _ _ _ _ _ _ _ (Act.put _ (some 77) (.int .i64 13)) _
          simp only [Act.put, List.setIfInBounds_toArray, List.set_cons_zero, List.set_cons_succ]
          refine wpAnyH_take (i := 11) (v := .int .i64 0) rfl (by kernel_rfl) (by kernel_rfl) (by kernel_rfl) (fun _ _ _ h => h) (Or.inl ⟨by rfl, fun w' hS' => by exact op_assign rfl rfl⟩) hS58 ?_
          change wpAnyH _ _ _ _ _ _ _ (Act.put _ (some 18) (.int .i64 0)) _
          simp only [Act.put, List.setIfInBounds_toArray, List.set_cons_zero, List.set_cons_succ]
          refine wpAnyH_ready (rs := [12]) (by kernel_rfl) (by simp) (AllReadyH.cons rfl (fun K hK => ?_) (AllReadyH.nil))
          · skip
            obtain ⟨W65, hr67, hk66, hgr68⟩ := op_storeQ ((hk48.below hb54 hk48.lt).below hb60 (hk48.below hb54 hk48.lt).lt) 0 false A61 n62 c63
            refine step_op_skip (hr67 _ _ _ _ rfl rfl rfl) rfl ?_
            refine hK.out _ _ (grown_below hS58 hgr68 hS58.size (Nat.le_trans hS0.size hg50)) (fun hS64 => ?_)
            clear hK K
            change wpAnyH _ _ _ _ _ _ _ (Act.put _ none (undef)) _
            simp only [Act.put]
            refine wpAnyH_take (i := 13) (v := .int .i64 13) rfl (by kernel_rfl) (by kernel_rfl) (by kernel_rfl) (fun _ _ _ h => h) (Or.inl ⟨by rfl, fun w' hS' => by exact op_assign rfl rfl⟩) hS64 ?_
            change wpAnyH _ _ _ _ _ _ _ (Act.put _ (some 20) (.int .i64 13)) _
            simp only [Act.put, List.setIfInBounds_toArray, List.set_cons_zero, List.set_cons_succ]
            refine wpAnyH_done (by kernel_rfl) ?_ _
            refine NoPanic.normal ?_
            go_wp2_with fail
            go_meet
            exact ⟨rfl, hS64⟩
  case rest =>
  obtain ⟨rfl, hb⟩ := hcut
  have HT := Lib.hid (HT.out.up hb)
  have HKt := Lib.hid (HKt.out.below hb HKt.out.lt)
  have HB2 := Lib.hid (HB2.out.below hb HB2.out.lt)
  have HA4 := Lib.hid (HA4.out.up hb)
  have HB5 := Lib.hid (HB5.out.below hb HB5.out.lt)
  have HB7 := Lib.hid (HB7.out.below hb HB7.out.lt)
  have HB10 := Lib.hid (HB10.out.below hb HB10.out.lt)
  have HA16 := Lib.hid (HA16.out.up hb)
  have HB16 := Lib.hid (HB16.out.below hb HB16.out.lt)
  have HW := Lib.hid (below_step HW.out hb)
  clear hb HC16b HTc HTd
  obtain ⟨y0, y1, y2⟩ := blk3 HB16.out
  go_wp2_with fail
  refine (idrop_any 2 true [x0, x1] A16 2 c16 1 _ 1 2 true [x0] 0 K8.out HA16.out rfl HC16.out HFF.out).mono ?_
  rintro e w12 ⟨A20, n20, c20, rfl, hn, hc, ha, hb⟩
  have HT := Lib.hid (HT.out.up hb)
  have HKt := Lib.hid (HKt.out.below hb HKt.out.lt)
  have HB2 := Lib.hid (HB2.out.below hb HB2.out.lt)
  have HA4 := Lib.hid (HA4.out.up hb)
  have HB5 := Lib.hid (HB5.out.below hb HB5.out.lt)
  have HB7 := Lib.hid (HB7.out.below hb HB7.out.lt)
  have HB10 := Lib.hid (HB10.out.below hb HB10.out.lt)
  have HA16 := Lib.hid (HA16.out.up hb)
  have HB16 := Lib.hid (HB16.out.below hb HB16.out.lt)
  have HW := Lib.hid (below_step HW.out hb)
  have HN20 := Lib.hid hn
  have HC20 := Lib.hid hc
  have HA20 := Lib.hid ha.at_
  clear hn hc ha hb
  obtain rfl : n20 = 1 := HN20.out.symm
  clear y0 y1 y2
  go_upto_region 10 with (fail)
  obtain ⟨g22, v13, hg, hv, hk, hbe⟩ := box_new w12 24 #[.int .i64 2, .bool true, .slice A20 1 c20]
  rw [← hv, ← hg]
  have HB22 := Lib.hid hk
  have HT := Lib.hid (HT.out.up hbe)
  have HKt := Lib.hid (HKt.out.below hbe HKt.out.lt)
  have HB2 := Lib.hid (HB2.out.below hbe HB2.out.lt)
  have HA4 := Lib.hid (HA4.out.up hbe)
  have HB5 := Lib.hid (HB5.out.below hbe HB5.out.lt)
  have HB7 := Lib.hid (HB7.out.below hbe HB7.out.lt)
  have HB10 := Lib.hid (HB10.out.below hbe HB10.out.lt)
  have HA16 := Lib.hid (HA16.out.up hbe)
  have HB16 := Lib.hid (HB16.out.below hbe HB16.out.lt)
  have HA20 := Lib.hid (HA20.out.up hbe)
  have HW := Lib.hid (below_step HW.out hbe)
  clear hg hv hk hbe
  go_wp2_with fail
  refine (inew_any (-1) _ zeroQ 1 (by decide)).mono ?_
  rintro e w14 ⟨rfl, -, hb⟩
  have HT := Lib.hid (HT.out.up hb)
  have HKt := Lib.hid (HKt.out.below hb HKt.out.lt)
  have HB2 := Lib.hid (HB2.out.below hb HB2.out.lt)
  have HA4 := Lib.hid (HA4.out.up hb)
  have HB5 := Lib.hid (HB5.out.below hb HB5.out.lt)
  have HB7 := Lib.hid (HB7.out.below hb HB7.out.lt)
  have HB10 := Lib.hid (HB10.out.below hb HB10.out.lt)
  have HA16 := Lib.hid (HA16.out.up hb)
  have HB16 := Lib.hid (HB16.out.below hb HB16.out.lt)
  have HA20 := Lib.hid (HA20.out.up hb)
  have HB22 := Lib.hid (HB22.out.below hb HB22.out.lt)
  have HW := Lib.hid (below_step HW.out hb)
  clear hb
  go_upto_region 11 with (fail)
  obtain ⟨g24, v15, hg, hv, hk, hbe⟩ := box_new w14 24 #[.int .i64 zeroQ.room, .bool zeroQ.closed, .slice none 0 0]
  rw [← hv, ← hg]
  have HB24 := Lib.hid hk
  have HT := Lib.hid (HT.out.up hbe)
  have HKt := Lib.hid (HKt.out.below hbe HKt.out.lt)
  have HB2 := Lib.hid (HB2.out.below hbe HB2.out.lt)
  have HA4 := Lib.hid (HA4.out.up hbe)
  have HB5 := Lib.hid (HB5.out.below hbe HB5.out.lt)
  have HB7 := Lib.hid (HB7.out.below hbe HB7.out.lt)
  have HB10 := Lib.hid (HB10.out.below hbe HB10.out.lt)
  have HA16 := Lib.hid (HA16.out.up hbe)
  have HB16 := Lib.hid (HB16.out.below hbe HB16.out.lt)
  have HA20 := Lib.hid (HA20.out.up hbe)
  have HB22 := Lib.hid (HB22.out.below hbe HB22.out.lt)
  have HW := Lib.hid (below_step HW.out hbe)
  clear hg hv hk hbe
  clear HB24
  go_wp2_with fail
  refine (itake_any 0 false T (some ⟨gt, 0, none⟩) 3 ct _ zeroT 0 false [] 1 (take_bad (Bool.eq_false_iff.2 fun h => by have := (right_iff.1 h).2.2; simp only [K11.out] at this; omega)) HT.out K11.out HCt.out K10.out).mono ?_
  rintro e w16 ⟨A25, n25, c25, rfl, hn, hc, ha, hb⟩
  have HT := Lib.hid (HT.out.up hb)
  have HKt := Lib.hid (HKt.out.below hb HKt.out.lt)
  have HB2 := Lib.hid (HB2.out.below hb HB2.out.lt)
  have HA4 := Lib.hid (HA4.out.up hb)
  have HB5 := Lib.hid (HB5.out.below hb HB5.out.lt)
  have HB7 := Lib.hid (HB7.out.below hb HB7.out.lt)
  have HB10 := Lib.hid (HB10.out.below hb HB10.out.lt)
  have HA16 := Lib.hid (HA16.out.up hb)
  have HB16 := Lib.hid (HB16.out.below hb HB16.out.lt)
  have HA20 := Lib.hid (HA20.out.up hb)
  have HB22 := Lib.hid (HB22.out.below hb HB22.out.lt)
  have HW := Lib.hid (below_step HW.out hb)
  clear hn hc ha hb
  go_upto_region 12 with (fail)
  obtain ⟨g26, g27, v17, hg1, hg2, hv, hk1, hk2, hbe, -⟩ := box_two w16 39 #[.int .i64 zeroT.req, .int .i64 zeroT.slot, .string zeroT.left, .string zeroT.right] 24 #[.int .i64 0, .bool false, .slice A25 n25 c25]
  rw [← hv, ← hg2, ← hg1]
  have HB26 := Lib.hid hk1
  have HB27 := Lib.hid hk2
  have HT := Lib.hid (HT.out.up hbe)
  have HKt := Lib.hid (HKt.out.below hbe HKt.out.lt)
  have HB2 := Lib.hid (HB2.out.below hbe HB2.out.lt)
  have HA4 := Lib.hid (HA4.out.up hbe)
  have HB5 := Lib.hid (HB5.out.below hbe HB5.out.lt)
  have HB7 := Lib.hid (HB7.out.below hbe HB7.out.lt)
  have HB10 := Lib.hid (HB10.out.below hbe HB10.out.lt)
  have HA16 := Lib.hid (HA16.out.up hbe)
  have HB16 := Lib.hid (HB16.out.below hbe HB16.out.lt)
  have HA20 := Lib.hid (HA20.out.up hbe)
  have HB22 := Lib.hid (HB22.out.below hbe HB22.out.lt)
  have HW := Lib.hid (below_step HW.out hbe)
  clear hg1 hg2 hv hk1 hk2 hbe
  clear HB26 HB27
  have HTc : Hid (∀ W, Below v17.heap.size v17 W → W.cell? ⟨gt, 0, none⟩ = some (.int .i64 x0.req) ∧ W.cell? ⟨gt, 1, none⟩ = some (.int .i64 x0.slot) ∧ W.cell? ⟨gt, 2, none⟩ = some (.string x0.left) ∧ W.cell? ⟨gt, 3, none⟩ = some (.string x0.right)) := Lib.hid (aw_cells HKt.out HFt.out K6.out)
  have HTd : Hid (∀ W, Below v17.heap.size v17 W → W.cell? ⟨gt, 4, none⟩ = some (.int .i64 x1.req) ∧ W.cell? ⟨gt, 5, none⟩ = some (.int .i64 x1.slot) ∧ W.cell? ⟨gt, 6, none⟩ = some (.string x1.left) ∧ W.cell? ⟨gt, 7, none⟩ = some (.string x1.right)) := Lib.hid (aw_cells1 HKt.out HFt.out K7.out)
  have HL7 : Hid (∀ W, Below v17.heap.size v17 W → W.cell? ⟨g7, 0, none⟩ = some (.int .i64 x0.req) ∧ W.cell? ⟨g7, 1, none⟩ = some (.int .i64 x0.slot) ∧ W.cell? ⟨g7, 2, none⟩ = some (.string x0.left) ∧ W.cell? ⟨g7, 3, none⟩ = some (.string x0.right)) := Lib.hid fun W hW => blk4 (HB7.out.below hW HB7.out.lt)
  have HL10 : Hid (∀ W, Below v17.heap.size v17 W → W.cell? ⟨g10, 0, none⟩ = some (.int .i64 x1.req) ∧ W.cell? ⟨g10, 1, none⟩ = some (.int .i64 x1.slot) ∧ W.cell? ⟨g10, 2, none⟩ = some (.string x1.left) ∧ W.cell? ⟨g10, 3, none⟩ = some (.string x1.right)) := Lib.hid fun W hW => blk4 (HB10.out.below hW HB10.out.lt)
  have HL16 : Hid (∀ W, Below v17.heap.size v17 W → W.cell? ⟨g16, 0, none⟩ = some (.int .i64 2) ∧ W.cell? ⟨g16, 1, none⟩ = some (.bool true) ∧ W.cell? ⟨g16, 2, none⟩ = some (.slice A16 2 c16)) := Lib.hid fun W hW => blk3 (HB16.out.below hW HB16.out.lt)
  have HL22 : Hid (∀ W, Below v17.heap.size v17 W → W.cell? ⟨g22, 0, none⟩ = some (.int .i64 2) ∧ W.cell? ⟨g22, 1, none⟩ = some (.bool true) ∧ W.cell? ⟨g22, 2, none⟩ = some (.slice A20 1 c20)) := Lib.hid fun W hW => blk3 (HB22.out.below hW HB22.out.lt)
  have HL5 : Hid (∀ W, Below v17.heap.size v17 W → W.cell? ⟨g5, 0, none⟩ = some (.int .i64 2) ∧ W.cell? ⟨g5, 1, none⟩ = some (.bool false) ∧ W.cell? ⟨g5, 2, none⟩ = some (.slice A4 2 c4)) := Lib.hid fun W hW => blk3 (HB5.out.below hW HB5.out.lt)
  have HTT : Hid (decide ([x0] = T.take 1) = true) := Lib.hid (decide_eq_true (by rw [take_snoc K6.out]; rfl))
  have HTL : Hid ((T.take 1).length = 1) := Lib.hid (by rw [List.length_take, K11.out]; rfl)
  have HRR : Hid (rightB ⟨2, false, [x0, x1]⟩ = true) := Lib.hid (right_of (by show (0 : Int) ≤ 2; decide) (by show (2 : Int) ≤ 4096; decide) (by show ((2 : Nat) : Int) ≤ 2; decide))
  simp only [List.append]
  refine wp_region_noPanic ?_
  refine wp_region_held_drew (S := fun W => Below v17.heap.size v17 W) (by kernel_rfl) ((Below.refl v17.heap.size v17).drew) (fun hS0 => ?_)
  change wpAnyH _ _ _ _ _ 76 #[false, false, false, false, false, false, false, false, false, false, false, false, false, false, false, false, false, false, false, false, false, false, false, false, false, false, false, false, false, false, false, false, false, false, false, false, false, false, false, false, false, false, false, false, false, false, false, false, false, false, false, false, false, false, false, false, false, false, false, false, false, false, false, false, false, false, false, false, false, false, false, false, false, false, false, false] _ (World.drew _)
  refine wpAnyH_take (i := 0) (v := .int .i64 0) rfl (by kernel_rfl) (by kernel_rfl) (by kernel_rfl) (fun _ _ _ h => h) (Or.inl ⟨by rfl, fun w' hS' => by exact op_move rfl rfl⟩) hS0 ?_
  change wpAnyH _ _ _ _ _ _ _ (Act.put _ (some 95) (.int .i64 0)) _
  simp only [Act.put, List.setIfInBounds_toArray, List.set_cons_zero, List.set_cons_succ]
  refine wpAnyH_take (i := 1) (v := .bool true) rfl (by kernel_rfl) (by kernel_rfl) (by kernel_rfl) (fun _ _ _ h => h) (Or.inl ⟨by rfl, fun w' hS' => by go_simp⟩) hS0 ?_
  change wpAnyH _ _ _ _ _ _ _ (Act.put _ (some 96) (.bool true)) _
  simp only [Act.put, List.setIfInBounds_toArray, List.set_cons_zero, List.set_cons_succ]
  refine wpAnyH_take (i := 2) (v := .bool true) rfl (by kernel_rfl) (by kernel_rfl) (by kernel_rfl) (fun _ _ _ h => h) (Or.inl ⟨by rfl, fun w' hS' => by exact op_move rfl rfl⟩) hS0 ?_
  change wpAnyH _ _ _ _ _ _ _ (Act.put _ (some 97) (.bool true)) _
  simp only [Act.put, List.setIfInBounds_toArray, List.set_cons_zero, List.set_cons_succ]
  refine wpAnyH_take (i := 3) (v := .int .i64 0) rfl (by kernel_rfl) (by kernel_rfl) (by kernel_rfl) (fun _ _ _ h => h) (Or.inl ⟨by rfl, fun w' hS' => by exact op_move rfl rfl⟩) hS0 ?_
  change wpAnyH _ _ _ _ _ _ _ (Act.put _ (some 98) (.int .i64 0)) _
  simp only [Act.put, List.setIfInBounds_toArray, List.set_cons_zero, List.set_cons_succ]
  refine wpAnyH_take (i := 4) (v := .bool true) rfl (by kernel_rfl) (by kernel_rfl) (by kernel_rfl) (fun _ _ _ h => h) (Or.inl ⟨by rfl, fun w' hS' => by go_simp⟩) hS0 ?_
  change wpAnyH _ _ _ _ _ _ _ (Act.put _ (some 99) (.bool true)) _
  simp only [Act.put, List.setIfInBounds_toArray, List.set_cons_zero, List.set_cons_succ]
  refine wpAnyH_take (i := 5) (v := .bool true) rfl (by kernel_rfl) (by kernel_rfl) (by kernel_rfl) (fun _ _ _ h => h) (Or.inl ⟨by rfl, fun w' hS' => by go_simp⟩) hS0 ?_
  change wpAnyH _ _ _ _ _ _ _ (Act.put _ (some 100) (.bool true)) _
  simp only [Act.put, List.setIfInBounds_toArray, List.set_cons_zero, List.set_cons_succ]
  refine wpAnyH_take (i := 6) (v := .bool true) rfl (by kernel_rfl) (by kernel_rfl) (by kernel_rfl) (fun _ _ _ h => h) (Or.inl ⟨by rfl, fun w' hS' => by exact op_move rfl rfl⟩) hS0 ?_
  change wpAnyH _ _ _ _ _ _ _ (Act.put _ (some 101) (.bool true)) _
  simp only [Act.put, List.setIfInBounds_toArray, List.set_cons_zero, List.set_cons_succ]
  refine wpAnyH_take (i := 7) (v := .int .i64 2) rfl (by kernel_rfl) (by kernel_rfl) (by kernel_rfl) (fun _ _ _ h => h) (Or.inl ⟨by rfl, fun w' hS' => by exact op_move rfl rfl⟩) hS0 ?_
  change wpAnyH _ _ _ _ _ _ _ (Act.put _ (some 102) (.int .i64 2)) _
  simp only [Act.put, List.setIfInBounds_toArray, List.set_cons_zero, List.set_cons_succ]
  refine wpAnyH_take (i := 8) (v := .bool true) rfl (by kernel_rfl) (by kernel_rfl) (by kernel_rfl) (fun _ _ _ h => h) (Or.inl ⟨by rfl, fun w' hS' => by go_simp⟩) hS0 ?_
  change wpAnyH _ _ _ _ _ _ _ (Act.put _ (some 103) (.bool true)) _
  simp only [Act.put, List.setIfInBounds_toArray, List.set_cons_zero, List.set_cons_succ]
  refine wpAnyH_take (i := 9) (v := .bool true) rfl (by kernel_rfl) (by kernel_rfl) (by kernel_rfl) (fun _ _ _ h => h) (Or.inl ⟨by rfl, fun w' hS' => by go_simp⟩) hS0 ?_
  change wpAnyH _ _ _ _ _ _ _ (Act.put _ (some 104) (.bool true)) _
  simp only [Act.put, List.setIfInBounds_toArray, List.set_cons_zero, List.set_cons_succ]
  refine wpAnyH_take (i := 10) (v := .bool true) rfl (by kernel_rfl) (by kernel_rfl) (by kernel_rfl) (fun _ _ _ h => h) (Or.inl ⟨by rfl, fun w' hS' => by exact op_move rfl rfl⟩) hS0 ?_
  change wpAnyH _ _ _ _ _ _ _ (Act.put _ (some 105) (.bool true)) _
  simp only [Act.put, List.setIfInBounds_toArray, List.set_cons_zero, List.set_cons_succ]
  refine wpAnyH_take (i := 11) (v := .int .i64 0) rfl (by kernel_rfl) (by kernel_rfl) (by kernel_rfl) (fun _ _ _ h => h) (Or.inl ⟨by rfl, fun w' hS' => by exact op_move rfl rfl⟩) hS0 ?_
  change wpAnyH _ _ _ _ _ _ _ (Act.put _ (some 106) (.int .i64 0)) _
  simp only [Act.put, List.setIfInBounds_toArray, List.set_cons_zero, List.set_cons_succ]
  refine wpAnyH_take (i := 12) (v := .bool true) rfl (by kernel_rfl) (by kernel_rfl) (by kernel_rfl) (fun _ _ _ h => h) (Or.inl ⟨by rfl, fun w' hS' => by go_simp⟩) hS0 ?_
  change wpAnyH _ _ _ _ _ _ _ (Act.put _ (some 107) (.bool true)) _
  simp only [Act.put, List.setIfInBounds_toArray, List.set_cons_zero, List.set_cons_succ]
  refine wpAnyH_take (i := 13) (v := .bool true) rfl (by kernel_rfl) (by kernel_rfl) (by kernel_rfl) (fun _ _ _ h => h) (Or.inl ⟨by rfl, fun w' hS' => by go_simp⟩) hS0 ?_
  change wpAnyH _ _ _ _ _ _ _ (Act.put _ (some 108) (.bool true)) _
  simp only [Act.put, List.setIfInBounds_toArray, List.set_cons_zero, List.set_cons_succ]
  refine wpAnyH_take (i := 14) (v := .bool true) rfl (by kernel_rfl) (by kernel_rfl) (by kernel_rfl) (fun _ _ _ h => h) (Or.inl ⟨by rfl, fun w' hS' => by exact op_move rfl rfl⟩) hS0 ?_
  change wpAnyH _ _ _ _ _ _ _ (Act.put _ (some 109) (.bool true)) _
  simp only [Act.put, List.setIfInBounds_toArray, List.set_cons_zero, List.set_cons_succ]
  refine wpAnyH_take (i := 15) (v := .agg #[.int .i64 x0.req, .int .i64 x0.slot, .string x0.left, .string x0.right]) rfl (by kernel_rfl) (by kernel_rfl) (by kernel_rfl) (fun _ _ _ h => h) (Or.inl ⟨by rfl, fun w' hS' => by obtain ⟨c0, c1, c2, c3⟩ := HL7.out w' hS'; go_simp⟩) hS0 ?_
  change wpAnyH _ _ _ _ _ _ _ (Act.put _ (some 110) (.agg #[.int .i64 x0.req, .int .i64 x0.slot, .string x0.left, .string x0.right])) _
  simp only [Act.put, List.setIfInBounds_toArray, List.set_cons_zero, List.set_cons_succ]
  refine wpAnyH_take (i := 16) (v := .slice (some ⟨gt, 0, none⟩) 3 ct) rfl (by kernel_rfl) (by kernel_rfl) (by kernel_rfl) (fun _ _ _ h => h) (Or.inl ⟨by rfl, fun w' hS' => by exact op_move rfl rfl⟩) hS0 ?_
  change wpAnyH _ _ _ _ _ _ _ (Act.put _ (some 111) (.slice (some ⟨gt, 0, none⟩) 3 ct)) _
  simp only [Act.put, List.setIfInBounds_toArray, List.set_cons_zero, List.set_cons_succ]
  refine wpAnyH_take (i := 17) (v := .pointer (some ⟨gt, 0, none⟩)) rfl (by kernel_rfl) (by kernel_rfl) (by kernel_rfl) (fun _ _ _ h => h) (Or.inl ⟨by rfl, fun w' hS' => by go_simp⟩) hS0 ?_
  change wpAnyH _ _ _ _ _ _ _ (Act.put _ (some 112) (.pointer (some ⟨gt, 0, none⟩))) _
  simp only [Act.put, List.setIfInBounds_toArray, List.set_cons_zero, List.set_cons_succ]
  refine wpAnyH_take (i := 18) (v := .agg #[.int .i64 x0.req, .int .i64 x0.slot, .string x0.left, .string x0.right]) rfl (by kernel_rfl) (by kernel_rfl) (by kernel_rfl) (fun _ _ _ h => h) (Or.inl ⟨by rfl, fun w' hS' => by obtain ⟨c0, c1, c2, c3⟩ := HTc.out w' hS'; go_simp⟩) hS0 ?_
  change wpAnyH _ _ _ _ _ _ _ (Act.put _ (some 113) (.agg #[.int .i64 x0.req, .int .i64 x0.slot, .string x0.left, .string x0.right])) _
  simp only [Act.put, List.setIfInBounds_toArray, List.set_cons_zero, List.set_cons_succ]
  refine wpAnyH_take (i := 19) (v := .bool true) rfl (by kernel_rfl) (by kernel_rfl) (by kernel_rfl) (fun _ _ _ h => h) (Or.inl ⟨by rfl, fun w' hS' => by go_simp⟩) hS0 ?_
  change wpAnyH _ _ _ _ _ _ _ (Act.put _ (some 114) (.bool true)) _
  simp only [Act.put, List.setIfInBounds_toArray, List.set_cons_zero, List.set_cons_succ]
  refine wpAnyH_take (i := 20) (v := .bool true) rfl (by kernel_rfl) (by kernel_rfl) (by kernel_rfl) (fun _ _ _ h => h) (Or.inl ⟨by rfl, fun w' hS' => by go_simp⟩) hS0 ?_
  change wpAnyH _ _ _ _ _ _ _ (Act.put _ (some 115) (.bool true)) _
  simp only [Act.put, List.setIfInBounds_toArray, List.set_cons_zero, List.set_cons_succ]
  refine wpAnyH_take (i := 21) (v := .bool true) rfl (by kernel_rfl) (by kernel_rfl) (by kernel_rfl) (fun _ _ _ h => h) (Or.inl ⟨by rfl, fun w' hS' => by exact op_move rfl rfl⟩) hS0 ?_
  change wpAnyH _ _ _ _ _ _ _ (Act.put _ (some 116) (.bool true)) _
  simp only [Act.put, List.setIfInBounds_toArray, List.set_cons_zero, List.set_cons_succ]
  refine wpAnyH_take (i := 22) (v := .int .i64 0) rfl (by kernel_rfl) (by kernel_rfl) (by kernel_rfl) (fun _ _ _ h => h) (Or.inl ⟨by rfl, fun w' hS' => by exact op_move rfl rfl⟩) hS0 ?_
  change wpAnyH _ _ _ _ _ _ _ (Act.put _ (some 117) (.int .i64 0)) _
  simp only [Act.put, List.setIfInBounds_toArray, List.set_cons_zero, List.set_cons_succ]
  refine wpAnyH_take (i := 23) (v := .bool true) rfl (by kernel_rfl) (by kernel_rfl) (by kernel_rfl) (fun _ _ _ h => h) (Or.inl ⟨by rfl, fun w' hS' => by go_simp⟩) hS0 ?_
  change wpAnyH _ _ _ _ _ _ _ (Act.put _ (some 118) (.bool true)) _
  simp only [Act.put, List.setIfInBounds_toArray, List.set_cons_zero, List.set_cons_succ]
  refine wpAnyH_take (i := 24) (v := .bool true) rfl (by kernel_rfl) (by kernel_rfl) (by kernel_rfl) (fun _ _ _ h => h) (Or.inl ⟨by rfl, fun w' hS' => by go_simp⟩) hS0 ?_
  change wpAnyH _ _ _ _ _ _ _ (Act.put _ (some 119) (.bool true)) _
  simp only [Act.put, List.setIfInBounds_toArray, List.set_cons_zero, List.set_cons_succ]
  refine wpAnyH_take (i := 25) (v := .bool true) rfl (by kernel_rfl) (by kernel_rfl) (by kernel_rfl) (fun _ _ _ h => h) (Or.inl ⟨by rfl, fun w' hS' => by exact op_move rfl rfl⟩) hS0 ?_
  change wpAnyH _ _ _ _ _ _ _ (Act.put _ (some 120) (.bool true)) _
  simp only [Act.put, List.setIfInBounds_toArray, List.set_cons_zero, List.set_cons_succ]
  refine wpAnyH_take (i := 26) (v := .agg #[.int .i64 x1.req, .int .i64 x1.slot, .string x1.left, .string x1.right]) rfl (by kernel_rfl) (by kernel_rfl) (by kernel_rfl) (fun _ _ _ h => h) (Or.inl ⟨by rfl, fun w' hS' => by obtain ⟨c0, c1, c2, c3⟩ := HL10.out w' hS'; go_simp⟩) hS0 ?_
  change wpAnyH _ _ _ _ _ _ _ (Act.put _ (some 121) (.agg #[.int .i64 x1.req, .int .i64 x1.slot, .string x1.left, .string x1.right])) _
  simp only [Act.put, List.setIfInBounds_toArray, List.set_cons_zero, List.set_cons_succ]
  refine wpAnyH_take (i := 27) (v := .slice (some ⟨gt, 0, none⟩) 3 ct) rfl (by kernel_rfl) (by kernel_rfl) (by kernel_rfl) (fun _ _ _ h => h) (Or.inl ⟨by rfl, fun w' hS' => by exact op_move rfl rfl⟩) hS0 ?_
  change wpAnyH _ _ _ _ _ _ _ (Act.put _ (some 122) (.slice (some ⟨gt, 0, none⟩) 3 ct)) _
  simp only [Act.put, List.setIfInBounds_toArray, List.set_cons_zero, List.set_cons_succ]
  refine wpAnyH_take (i := 28) (v := .pointer (some ⟨gt, 4, none⟩)) rfl (by kernel_rfl) (by kernel_rfl) (by kernel_rfl) (fun _ _ _ h => h) (Or.inl ⟨by rfl, fun w' hS' => by go_simp⟩) hS0 ?_
  change wpAnyH _ _ _ _ _ _ _ (Act.put _ (some 123) (.pointer (some ⟨gt, 4, none⟩))) _
  simp only [Act.put, List.setIfInBounds_toArray, List.set_cons_zero, List.set_cons_succ]
  refine wpAnyH_take (i := 29) (v := .agg #[.int .i64 x1.req, .int .i64 x1.slot, .string x1.left, .string x1.right]) rfl (by kernel_rfl) (by kernel_rfl) (by kernel_rfl) (fun _ _ _ h => h) (Or.inl ⟨by rfl, fun w' hS' => by obtain ⟨c0, c1, c2, c3⟩ := HTd.out w' hS'; go_simp⟩) hS0 ?_
  change wpAnyH _ _ _ _ _ _ _ (Act.put _ (some 124) (.agg #[.int .i64 x1.req, .int .i64 x1.slot, .string x1.left, .string x1.right])) _
  simp only [Act.put, List.setIfInBounds_toArray, List.set_cons_zero, List.set_cons_succ]
  refine wpAnyH_take (i := 30) (v := .bool true) rfl (by kernel_rfl) (by kernel_rfl) (by kernel_rfl) (fun _ _ _ h => h) (Or.inl ⟨by rfl, fun w' hS' => by go_simp⟩) hS0 ?_
  change wpAnyH _ _ _ _ _ _ _ (Act.put _ (some 125) (.bool true)) _
  simp only [Act.put, List.setIfInBounds_toArray, List.set_cons_zero, List.set_cons_succ]
  refine wpAnyH_take (i := 31) (v := .bool true) rfl (by kernel_rfl) (by kernel_rfl) (by kernel_rfl) (fun _ _ _ h => h) (Or.inl ⟨by rfl, fun w' hS' => by go_simp⟩) hS0 ?_
  change wpAnyH _ _ _ _ _ _ _ (Act.put _ (some 126) (.bool true)) _
  simp only [Act.put, List.setIfInBounds_toArray, List.set_cons_zero, List.set_cons_succ]
  refine wpAnyH_take (i := 32) (v := .bool true) rfl (by kernel_rfl) (by kernel_rfl) (by kernel_rfl) (fun _ _ _ h => h) (Or.inl ⟨by rfl, fun w' hS' => by exact op_move rfl rfl⟩) hS0 ?_
  change wpAnyH _ _ _ _ _ _ _ (Act.put _ (some 127) (.bool true)) _
  simp only [Act.put, List.setIfInBounds_toArray, List.set_cons_zero, List.set_cons_succ]
  refine wpAnyH_take (i := 33) (v := .int .i64 10) rfl (by kernel_rfl) (by kernel_rfl) (by kernel_rfl) (fun _ _ _ h => h) (Or.inl ⟨by rfl, fun w' hS' => by exact op_move rfl rfl⟩) hS0 ?_
  change wpAnyH _ _ _ _ _ _ _ (Act.put _ (some 128) (.int .i64 10)) _
  simp only [Act.put, List.setIfInBounds_toArray, List.set_cons_zero, List.set_cons_succ]
  refine wpAnyH_take (i := 34) (v := .bool true) rfl (by kernel_rfl) (by kernel_rfl) (by kernel_rfl) (fun _ _ _ h => h) (Or.inl ⟨by rfl, fun w' hS' => by go_simp⟩) hS0 ?_
  change wpAnyH _ _ _ _ _ _ _ (Act.put _ (some 129) (.bool true)) _
  simp only [Act.put, List.setIfInBounds_toArray, List.set_cons_zero, List.set_cons_succ]
  refine wpAnyH_take (i := 35) (v := .bool true) rfl (by kernel_rfl) (by kernel_rfl) (by kernel_rfl) (fun _ _ _ h => h) (Or.inl ⟨by rfl, fun w' hS' => by go_simp⟩) hS0 ?_
  change wpAnyH _ _ _ _ _ _ _ (Act.put _ (some 130) (.bool true)) _
  simp only [Act.put, List.setIfInBounds_toArray, List.set_cons_zero, List.set_cons_succ]
  refine wpAnyH_take (i := 36) (v := .bool true) rfl (by kernel_rfl) (by kernel_rfl) (by kernel_rfl) (fun _ _ _ h => h) (Or.inl ⟨by rfl, fun w' hS' => by exact op_move rfl rfl⟩) hS0 ?_
  change wpAnyH _ _ _ _ _ _ _ (Act.put _ (some 131) (.bool true)) _
  simp only [Act.put, List.setIfInBounds_toArray, List.set_cons_zero, List.set_cons_succ]
  refine wpAnyH_take (i := 37) (v := .int .i64 0) rfl (by kernel_rfl) (by kernel_rfl) (by kernel_rfl) (fun _ _ _ h => h) (Or.inl ⟨by rfl, fun w' hS' => by exact op_move rfl rfl⟩) hS0 ?_
  change wpAnyH _ _ _ _ _ _ _ (Act.put _ (some 132) (.int .i64 0)) _
  simp only [Act.put, List.setIfInBounds_toArray, List.set_cons_zero, List.set_cons_succ]
  refine wpAnyH_take (i := 38) (v := .bool true) rfl (by kernel_rfl) (by kernel_rfl) (by kernel_rfl) (fun _ _ _ h => h) (Or.inl ⟨by rfl, fun w' hS' => by go_simp⟩) hS0 ?_
  change wpAnyH _ _ _ _ _ _ _ (Act.put _ (some 133) (.bool true)) _
  simp only [Act.put, List.setIfInBounds_toArray, List.set_cons_zero, List.set_cons_succ]
  refine wpAnyH_take (i := 39) (v := .bool true) rfl (by kernel_rfl) (by kernel_rfl) (by kernel_rfl) (fun _ _ _ h => h) (Or.inl ⟨by rfl, fun w' hS' => by go_simp⟩) hS0 ?_
  change wpAnyH _ _ _ _ _ _ _ (Act.put _ (some 134) (.bool true)) _
  simp only [Act.put, List.setIfInBounds_toArray, List.set_cons_zero, List.set_cons_succ]
  refine wpAnyH_take (i := 40) (v := .bool true) rfl (by kernel_rfl) (by kernel_rfl) (by kernel_rfl) (fun _ _ _ h => h) (Or.inl ⟨by rfl, fun w' hS' => by exact op_move rfl rfl⟩) hS0 ?_
  change wpAnyH _ _ _ _ _ _ _ (Act.put _ (some 135) (.bool true)) _
  simp only [Act.put, List.setIfInBounds_toArray, List.set_cons_zero, List.set_cons_succ]
  refine wpAnyH_take (i := 41) (v := .pointer (some ⟨g16, 1, none⟩)) rfl (by kernel_rfl) (by kernel_rfl) (by kernel_rfl) (fun _ _ _ h => h) (Or.inl ⟨by rfl, fun w' hS' => by go_simp⟩) hS0 ?_
  change wpAnyH _ _ _ _ _ _ _ (Act.put _ (some 136) (.pointer (some ⟨g16, 1, none⟩))) _
  simp only [Act.put, List.setIfInBounds_toArray, List.set_cons_zero, List.set_cons_succ]
  refine wpAnyH_take (i := 42) (v := .bool true) rfl (by kernel_rfl) (by kernel_rfl) (by kernel_rfl) (fun _ _ _ h => h) (Or.inl ⟨by rfl, fun w' hS' => by obtain ⟨c0, c1, c2⟩ := HL16.out w' hS'; go_simp⟩) hS0 ?_
  change wpAnyH _ _ _ _ _ _ _ (Act.put _ (some 137) (.bool true)) _
  simp only [Act.put, List.setIfInBounds_toArray, List.set_cons_zero, List.set_cons_succ]
  refine wpAnyH_take (i := 43) (v := .bool true) rfl (by kernel_rfl) (by kernel_rfl) (by kernel_rfl) (fun _ _ _ h => h) (Or.inl ⟨by rfl, fun w' hS' => by go_simp⟩) hS0 ?_
  change wpAnyH _ _ _ _ _ _ _ (Act.put _ (some 138) (.bool true)) _
  simp only [Act.put, List.setIfInBounds_toArray, List.set_cons_zero, List.set_cons_succ]
  refine wpAnyH_take (i := 44) (v := .bool true) rfl (by kernel_rfl) (by kernel_rfl) (by kernel_rfl) (fun _ _ _ h => h) (Or.inl ⟨by rfl, fun w' hS' => by exact op_move rfl rfl⟩) hS0 ?_
  change wpAnyH _ _ _ _ _ _ _ (Act.put _ (some 139) (.bool true)) _
  simp only [Act.put, List.setIfInBounds_toArray, List.set_cons_zero, List.set_cons_succ]
  refine wpAnyH_take (i := 45) (v := .int .i64 13) rfl (by kernel_rfl) (by kernel_rfl) (by kernel_rfl) (fun _ _ _ h => h) (Or.inl ⟨by rfl, fun w' hS' => by exact op_move rfl rfl⟩) hS0 ?_
  change wpAnyH _ _ _ _ _ _ _ (Act.put _ (some 140) (.int .i64 13)) _
  simp only [Act.put, List.setIfInBounds_toArray, List.set_cons_zero, List.set_cons_succ]
  refine wpAnyH_take (i := 46) (v := .bool true) rfl (by kernel_rfl) (by kernel_rfl) (by kernel_rfl) (fun _ _ _ h => h) (Or.inl ⟨by rfl, fun w' hS' => by go_simp⟩) hS0 ?_
  change wpAnyH _ _ _ _ _ _ _ (Act.put _ (some 141) (.bool true)) _
  simp only [Act.put, List.setIfInBounds_toArray, List.set_cons_zero, List.set_cons_succ]
  refine wpAnyH_take (i := 47) (v := .bool true) rfl (by kernel_rfl) (by kernel_rfl) (by kernel_rfl) (fun _ _ _ h => h) (Or.inl ⟨by rfl, fun w' hS' => by go_simp⟩) hS0 ?_
  change wpAnyH _ _ _ _ _ _ _ (Act.put _ (some 142) (.bool true)) _
  simp only [Act.put, List.setIfInBounds_toArray, List.set_cons_zero, List.set_cons_succ]
  refine wpAnyH_take (i := 48) (v := .bool true) rfl (by kernel_rfl) (by kernel_rfl) (by kernel_rfl) (fun _ _ _ h => h) (Or.inl ⟨by rfl, fun w' hS' => by exact op_move rfl rfl⟩) hS0 ?_
  change wpAnyH _ _ _ _ _ _ _ (Act.put _ (some 143) (.bool true)) _
  simp only [Act.put, List.setIfInBounds_toArray, List.set_cons_zero, List.set_cons_succ]
  refine wpAnyH_take (i := 49) (v := .int .i64 0) rfl (by kernel_rfl) (by kernel_rfl) (by kernel_rfl) (fun _ _ _ h => h) (Or.inl ⟨by rfl, fun w' hS' => by exact op_move rfl rfl⟩) hS0 ?_
  change wpAnyH _ _ _ _ _ _ _ (Act.put _ (some 144) (.int .i64 0)) _
  simp only [Act.put, List.setIfInBounds_toArray, List.set_cons_zero, List.set_cons_succ]
  refine wpAnyH_take (i := 50) (v := .bool true) rfl (by kernel_rfl) (by kernel_rfl) (by kernel_rfl) (fun _ _ _ h => h) (Or.inl ⟨by rfl, fun w' hS' => by go_simp⟩) hS0 ?_
  change wpAnyH _ _ _ _ _ _ _ (Act.put _ (some 145) (.bool true)) _
  simp only [Act.put, List.setIfInBounds_toArray, List.set_cons_zero, List.set_cons_succ]
  refine wpAnyH_take (i := 51) (v := .bool true) rfl (by kernel_rfl) (by kernel_rfl) (by kernel_rfl) (fun _ _ _ h => h) (Or.inl ⟨by rfl, fun w' hS' => by go_simp⟩) hS0 ?_
  change wpAnyH _ _ _ _ _ _ _ (Act.put _ (some 146) (.bool true)) _
  simp only [Act.put, List.setIfInBounds_toArray, List.set_cons_zero, List.set_cons_succ]
  refine wpAnyH_take (i := 52) (v := .bool true) rfl (by kernel_rfl) (by kernel_rfl) (by kernel_rfl) (fun _ _ _ h => h) (Or.inl ⟨by rfl, fun w' hS' => by exact op_move rfl rfl⟩) hS0 ?_
  change wpAnyH _ _ _ _ _ _ _ (Act.put _ (some 147) (.bool true)) _
  simp only [Act.put, List.setIfInBounds_toArray, List.set_cons_zero, List.set_cons_succ]
  refine wpAnyH_take (i := 53) (v := .int .i64 1) rfl (by kernel_rfl) (by kernel_rfl) (by kernel_rfl) (fun _ _ _ h => h) (Or.inl ⟨by rfl, fun w' hS' => by exact op_move rfl rfl⟩) hS0 ?_
  change wpAnyH _ _ _ _ _ _ _ (Act.put _ (some 148) (.int .i64 1)) _
  simp only [Act.put, List.setIfInBounds_toArray, List.set_cons_zero, List.set_cons_succ]
  refine wpAnyH_take (i := 54) (v := .bool true) rfl (by kernel_rfl) (by kernel_rfl) (by kernel_rfl) (fun _ _ _ h => h) (Or.inl ⟨by rfl, fun w' hS' => by go_simp⟩) hS0 ?_
  change wpAnyH _ _ _ _ _ _ _ (Act.put _ (some 149) (.bool true)) _
  simp only [Act.put, List.setIfInBounds_toArray, List.set_cons_zero, List.set_cons_succ]
  refine wpAnyH_take (i := 55) (v := .bool true) rfl (by kernel_rfl) (by kernel_rfl) (by kernel_rfl) (fun _ _ _ h => h) (Or.inl ⟨by rfl, fun w' hS' => by go_simp⟩) hS0 ?_
  change wpAnyH _ _ _ _ _ _ _ (Act.put _ (some 150) (.bool true)) _
  simp only [Act.put, List.setIfInBounds_toArray, List.set_cons_zero, List.set_cons_succ]
  refine wpAnyH_take (i := 56) (v := .bool true) rfl (by kernel_rfl) (by kernel_rfl) (by kernel_rfl) (fun _ _ _ h => h) (Or.inl ⟨by rfl, fun w' hS' => by exact op_move rfl rfl⟩) hS0 ?_
  change wpAnyH _ _ _ _ _ _ _ (Act.put _ (some 151) (.bool true)) _
  simp only [Act.put, List.setIfInBounds_toArray, List.set_cons_zero, List.set_cons_succ]
  refine wpAnyH_take (i := 57) (v := .pointer (some ⟨g22, 2, none⟩)) rfl (by kernel_rfl) (by kernel_rfl) (by kernel_rfl) (fun _ _ _ h => h) (Or.inl ⟨by rfl, fun w' hS' => by go_simp⟩) hS0 ?_
  change wpAnyH _ _ _ _ _ _ _ (Act.put _ (some 152) (.pointer (some ⟨g22, 2, none⟩))) _
  simp only [Act.put, List.setIfInBounds_toArray, List.set_cons_zero, List.set_cons_succ]
  refine wpAnyH_take (i := 58) (v := .slice A20 1 c20) rfl (by kernel_rfl) (by kernel_rfl) (by kernel_rfl) (fun _ _ _ h => h) (Or.inl ⟨by rfl, fun w' hS' => by obtain ⟨c0, c1, c2⟩ := HL22.out w' hS'; go_simp⟩) hS0 ?_
  change wpAnyH _ _ _ _ _ _ _ (Act.put _ (some 153) (.slice A20 1 c20)) _
  simp only [Act.put, List.setIfInBounds_toArray, List.set_cons_zero, List.set_cons_succ]
  refine wpAnyH_take (i := 59) (v := .slice (some ⟨gt, 0, none⟩) 3 ct) rfl (by kernel_rfl) (by kernel_rfl) (by kernel_rfl) (fun _ _ _ h => h) (Or.inl ⟨by rfl, fun w' hS' => by exact op_move rfl rfl⟩) hS0 ?_
  change wpAnyH _ _ _ _ _ _ _ (Act.put _ (some 154) (.slice (some ⟨gt, 0, none⟩) 3 ct)) _
  simp only [Act.put, List.setIfInBounds_toArray, List.set_cons_zero, List.set_cons_succ]
  refine wpAnyH_take (i := 60) (v := .slice (some ⟨gt, 0, none⟩) 1 ct) rfl (by kernel_rfl) (by kernel_rfl) (by kernel_rfl) (fun _ _ _ h => h) (Or.inl ⟨by rfl, fun w' hS' => by have hct := HCt.out; go_simp; try (intro h; exact absurd h (by omega))⟩) hS0 ?_
  change wpAnyH _ _ _ _ _ _ _ (Act.put _ (some 155) (.slice (some ⟨gt, 0, none⟩) 1 ct)) _
  simp only [Act.put, List.setIfInBounds_toArray, List.set_cons_zero, List.set_cons_succ]
  refine wpAnyH_ready (rs := [61]) (by kernel_rfl) (by simp) (AllReadyH.cons rfl (fun K hK => ?_) (AllReadyH.nil))
  · skip
    go_simp
    refine (rtasks_any A20 (some ⟨gt, 0, none⟩) [x0] (T.take 1) 1 1 c20 ct true HTT.out _ (HA20.out.up hS0) ((HT.out.up hS0).take 1) rfl HTL.out (by decide) (by decide)).mono ?_
    rintro e W2 ⟨rfl, hb3⟩
    have hb3 := hb3.below
    refine hK.out _ _ (hS0.trans (hb3.mono hS0.size)) (fun hS1 => ?_)
    clear hK K
    simp only [List.setIfInBounds_toArray, List.set_cons_zero, List.set_cons_succ]
    refine wpAnyH_take (i := 62) (v := .bool true) rfl (by kernel_rfl) (by kernel_rfl) (by kernel_rfl) (fun _ _ _ h => h) (Or.inl ⟨by rfl, fun w' hS' => by go_simp⟩) hS1 ?_
    change wpAnyH _ _ _ _ _ _ _ (Act.put _ (some 157) (.bool true)) _
    simp only [Act.put, List.setIfInBounds_toArray, List.set_cons_zero, List.set_cons_succ]
    refine wpAnyH_take (i := 63) (v := .bool true) rfl (by kernel_rfl) (by kernel_rfl) (by kernel_rfl) (fun _ _ _ h => h) (Or.inl ⟨by rfl, fun w' hS' => by exact op_move rfl rfl⟩) hS1 ?_
    change wpAnyH _ _ _ _ _ _ _ (Act.put _ (some 158) (.bool true)) _
    simp only [Act.put, List.setIfInBounds_toArray, List.set_cons_zero, List.set_cons_succ]
    refine wpAnyH_take (i := 64) (v := .int .i64 1) rfl (by kernel_rfl) (by kernel_rfl) (by kernel_rfl) (fun _ _ _ h => h) (Or.inl ⟨by rfl, fun w' hS' => by exact op_move rfl rfl⟩) hS1 ?_
    change wpAnyH _ _ _ _ _ _ _ (Act.put _ (some 159) (.int .i64 1)) _
    simp only [Act.put, List.setIfInBounds_toArray, List.set_cons_zero, List.set_cons_succ]
    refine wpAnyH_take (i := 65) (v := .bool true) rfl (by kernel_rfl) (by kernel_rfl) (by kernel_rfl) (fun _ _ _ h => h) (Or.inl ⟨by rfl, fun w' hS' => by go_simp⟩) hS1 ?_
    change wpAnyH _ _ _ _ _ _ _ (Act.put _ (some 160) (.bool true)) _
    simp only [Act.put, List.setIfInBounds_toArray, List.set_cons_zero, List.set_cons_succ]
    refine wpAnyH_take (i := 66) (v := .bool true) rfl (by kernel_rfl) (by kernel_rfl) (by kernel_rfl) (fun _ _ _ h => h) (Or.inl ⟨by rfl, fun w' hS' => by go_simp⟩) hS1 ?_
    change wpAnyH _ _ _ _ _ _ _ (Act.put _ (some 161) (.bool true)) _
    simp only [Act.put, List.setIfInBounds_toArray, List.set_cons_zero, List.set_cons_succ]
    refine wpAnyH_take (i := 67) (v := .bool true) rfl (by kernel_rfl) (by kernel_rfl) (by kernel_rfl) (fun _ _ _ h => h) (Or.inl ⟨by rfl, fun w' hS' => by exact op_move rfl rfl⟩) hS1 ?_
    change wpAnyH _ _ _ _ _ _ _ (Act.put _ (some 162) (.bool true)) _
    simp only [Act.put, List.setIfInBounds_toArray, List.set_cons_zero, List.set_cons_succ]
    refine wpAnyH_take (i := 68) (v := .int .i64 1) rfl (by kernel_rfl) (by kernel_rfl) (by kernel_rfl) (fun _ _ _ h => h) (Or.inl ⟨by rfl, fun w' hS' => by exact op_move rfl rfl⟩) hS1 ?_
    change wpAnyH _ _ _ _ _ _ _ (Act.put _ (some 163) (.int .i64 1)) _
    simp only [Act.put, List.setIfInBounds_toArray, List.set_cons_zero, List.set_cons_succ]
    refine wpAnyH_take (i := 69) (v := .bool true) rfl (by kernel_rfl) (by kernel_rfl) (by kernel_rfl) (fun _ _ _ h => h) (Or.inl ⟨by rfl, fun w' hS' => by go_simp⟩) hS1 ?_
    change wpAnyH _ _ _ _ _ _ _ (Act.put _ (some 164) (.bool true)) _
    simp only [Act.put, List.setIfInBounds_toArray, List.set_cons_zero, List.set_cons_succ]
    refine wpAnyH_take (i := 70) (v := .bool true) rfl (by kernel_rfl) (by kernel_rfl) (by kernel_rfl) (fun _ _ _ h => h) (Or.inl ⟨by rfl, fun w' hS' => by go_simp⟩) hS1 ?_
    change wpAnyH _ _ _ _ _ _ _ (Act.put _ (some 165) (.bool true)) _
    simp only [Act.put, List.setIfInBounds_toArray, List.set_cons_zero, List.set_cons_succ]
    refine wpAnyH_take (i := 71) (v := .bool true) rfl (by kernel_rfl) (by kernel_rfl) (by kernel_rfl) (fun _ _ _ h => h) (Or.inl ⟨by rfl, fun w' hS' => by exact op_move rfl rfl⟩) hS1 ?_
    change wpAnyH _ _ _ _ _ _ _ (Act.put _ (some 166) (.bool true)) _
    simp only [Act.put, List.setIfInBounds_toArray, List.set_cons_zero, List.set_cons_succ]
    refine wpAnyH_take (i := 72) (v := .agg #[.int .i64 2, .bool false, .slice A4 2 c4]) rfl (by kernel_rfl) (by kernel_rfl) (by kernel_rfl) (fun _ _ _ h => h) (Or.inl ⟨by rfl, fun w' hS' => by obtain ⟨c0, c1, c2⟩ := HL5.out w' hS'; go_simp⟩) hS1 ?_
    change wpAnyH _ _ _ _ _ _ _ (Act.put _ (some 167) (.agg #[.int .i64 2, .bool false, .slice A4 2 c4])) _
    simp only [Act.put, List.setIfInBounds_toArray, List.set_cons_zero, List.set_cons_succ]
    refine wpAnyH_ready (rs := [73]) (by kernel_rfl) (by simp) (AllReadyH.cons rfl (fun K hK => ?_) (AllReadyH.nil))
    · skip
      go_simp
      refine (iright_any 2 false [x0, x1] A4 2 c4 true HRR.out _ rfl).mono ?_
      rintro e W5 ⟨rfl, hb6⟩
      refine hK.out _ _ (hS1.trans (hb6.mono hS1.size)) (fun hS4 => ?_)
      clear hK K
      simp only [List.setIfInBounds_toArray, List.set_cons_zero, List.set_cons_succ]
      refine wpAnyH_take (i := 74) (v := .bool true) rfl (by kernel_rfl) (by kernel_rfl) (by kernel_rfl) (fun _ _ _ h => h) (Or.inl ⟨by rfl, fun w' hS' => by go_simp⟩) hS4 ?_
      change wpAnyH _ _ _ _ _ _ _ (Act.put _ (some 169) (.bool true)) _
      simp only [Act.put, List.setIfInBounds_toArray, List.set_cons_zero, List.set_cons_succ]
      refine wpAnyH_take (i := 75) (v := .bool true) rfl (by kernel_rfl) (by kernel_rfl) (by kernel_rfl) (fun _ _ _ h => h) (Or.inl ⟨by rfl, fun w' hS' => by exact op_assign rfl rfl⟩) hS4 ?_
      change wpAnyH _ _ _ _ _ _ _ (Act.put _ (some 0) (.bool true)) _
      simp only [Act.put, List.setIfInBounds_toArray, List.set_cons_zero, List.set_cons_succ]
      refine wpAnyH_done (by kernel_rfl) ?_ _
      refine NoPanic.normal ?_
      go_wp2_with fail
      go_ret
      exact ⟨rfl, HW.out.trans (hS4.mono HW.out.size)⟩

end Go.Proofs.Ytaelenjnjoeheaa
