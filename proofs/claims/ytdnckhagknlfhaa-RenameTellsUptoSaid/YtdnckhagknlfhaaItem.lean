/-
  collatorlaw02.Item: of raw numbers, an item that may be, alone: a short path, and at most 60 bytes. Nothing that was there is changed.
-/
import Derived.Test.YtdnckhagknlfhaaRaw
import Derived.Test.YtdnckhagknlfhaaRawDef
import Derived.Deep.RegionHeld3
import Derived.Deep.DeepCutAuto
import Derived.Lib.MinMax
namespace Go.Proofs.Ytdnckhagknlfhaa
open Go.RowKit

/-- what lies in a raw item's box -/
abbrev RBox (w : World) (g : Nat) (a b c d : Value) (W : World) : Prop :=
  W.cell? ⟨g, 0, none⟩ = some a ∧ W.cell? ⟨g, 1, none⟩ = some b ∧ W.cell? ⟨g, 2, none⟩ = some c ∧ W.cell? ⟨g, 3, none⟩ = some d ∧ Below w.heap.size w W
theorem RBox.below {w W W' : World} {g : Nat} {a b c d : Value} (h : RBox w g a b c d W) (hb : Below W.heap.size W W') : RBox w g a b c d W' := by
  obtain ⟨h1, h2, h3, h4, h5⟩ := h
  refine ⟨?_, ?_, ?_, ?_, h5.trans (hb.mono h5.size)⟩
  · rw [hb.cell (p := ⟨g, 0, none⟩) (lt_of_cell h1 :)]; exact h1
  · rw [hb.cell (p := ⟨g, 1, none⟩) (lt_of_cell h2 :)]; exact h2
  · rw [hb.cell (p := ⟨g, 2, none⟩) (lt_of_cell h3 :)]; exact h3
  · rw [hb.cell (p := ⟨g, 3, none⟩) (lt_of_cell h4 :)]; exact h4
theorem RBox.drew {w W : World} {g : Nat} {a b c d : Value} (h : RBox w g a b c d W) : RBox w g a b c d W.drew := ⟨h.1, h.2.1, h.2.2.1, h.2.2.2.1, below_drewN h.2.2.2.2 1⟩
theorem RBox.alloc {w W : World} {g : Nat} {a b c d : Value} (h : RBox w g a b c d W) (o : Obj) : RBox w g a b c d (W.alloc o) := h.below ((Below.refl _ _).alloc (Nat.le_refl _) _)
theorem RBox.allocDrew {w W : World} {g : Nat} {a b c d : Value} (h : RBox w g a b c d W.drew) (o : Obj) : RBox w g a b c d (W.alloc o).drew :=
  RBox.drew (RBox.alloc (w := w) (W := W) ⟨h.1, h.2.1, h.2.2.1, h.2.2.2.1, ⟨h.2.2.2.2.os, h.2.2.2.2.tape, h.2.2.2.2.output, h.2.2.2.2.size, h.2.2.2.2.block⟩⟩ o)
theorem RBox.swap {w W : World} {g : Nat} {a b c d : Value} {o : Obj} (h : RBox w g a b c d (W.alloc o)) (hg : g < W.heap.size) (hw : w.heap.size ≤ W.heap.size) (o' : Obj) : RBox w g a b c d (W.alloc o') := by
  obtain ⟨h1, h2, h3, h4, h5⟩ := h
  rw [World.cell?_alloc_lt _ _ _ hg] at h1 h2 h3 h4
  refine ⟨?_, ?_, ?_, ?_, ?_⟩
  · rw [World.cell?_alloc_lt _ _ _ hg]; exact h1
  · rw [World.cell?_alloc_lt _ _ _ hg]; exact h2
  · rw [World.cell?_alloc_lt _ _ _ hg]; exact h3
  · rw [World.cell?_alloc_lt _ _ _ hg]; exact h4
  · have hb : Below w.heap.size w W := ⟨h5.os, h5.tape, h5.output, hw, fun i hi => by
      have := h5.block i hi
      rw [← this]; exact (Below.heap_alloc W o i (by omega)).symm⟩
    exact hb.alloc hw _
theorem RBox.set {w W : World} {g : Nat} {a b c d : Value} (h : RBox w g a b c d W) (q : Nat) (hq : g < q) (hw : w.heap.size ≤ q) (i : Nat) (u : Value) : RBox w g a b c d (W.setCell ⟨q, i, none⟩ u) := by
  obtain ⟨h1, h2, h3, h4, h5⟩ := h
  have hne : ∀ j, (W.setCell ⟨q, i, none⟩ u).cell? ⟨g, j, none⟩ = W.cell? ⟨g, j, none⟩ := fun j => World.cell?_setCell_other W _ _ u (by intro e; injection e; omega)
  exact ⟨by rw [hne]; exact h1, by rw [hne]; exact h2, by rw [hne]; exact h3, by rw [hne]; exact h4, h5.setCell hw _⟩
/-- the item's box is filled -/
def Filled (w : World) (g : Nat) (kv bv : Int) (data : ByteArray) (s3 : Value) (wx : World) : Prop :=
  ∃ (q : Nat) (r : ByteArray), s3 = .pointer (some ⟨q, 0, none⟩) ∧ r.size ≤ 100 ∧ Blk wx q 33 #[.string r, .int .i64 (1 + kv), .string data, .bool (bv == 0)] ∧ Blk wx (g + 1) 33 #[.string ⟨#[]⟩, .int .i64 0, .string ⟨#[]⟩, .bool false] ∧ g + 1 < q ∧ w.heap.size ≤ g ∧ Below w.heap.size w wx

theorem low_max {a b : Nat} (h : a ≤ b) : a ≤ b := h

set_option maxHeartbeats 8000000 in
set_option maxRecDepth 100000 in
theorem item_any (x : RawI) (w : World) (hx : x.Ok w) : Calls Try.prog 21 #[x.v] w (ItemTold w) := by
  obtain ⟨A, zs, c, kd, d, bd⟩ := x
  obtain ⟨hp, hf, hr, k1, k2, b1, b2, hs⟩ := hx
  simp only at hp hf hr k1 k2 b1 b2 hs
  unfold RawI.v
  simp only
  have HR := Lib.hid hr
  have HP := Lib.hid hp
  clear hr hp
  obtain ⟨kv, hkv⟩ : ∃ kv : Int, pickI kd 3 = kv := ⟨_, rfl⟩
  obtain ⟨bv, hbv⟩ : ∃ bv : Int, pickI bd 12 = bv := ⟨_, rfl⟩
  have r1 := pickI_range kd 3 (by omega)
  rw [hkv] at r1
  obtain ⟨r1, r2⟩ := r1
  have HK := Lib.hid hkv
  have HV := Lib.hid hbv
  clear hkv hbv
  have u1 : IntKind.i64.wrap (1 + kv) = 1 + kv := IntWalk.i64_in _ (by omega)
  have m1 : 0 ≤ min (d.size : Int) 60 := by omega
  have m2 : min (d.size : Int) 60 ≤ (d.size : Int) := by omega
  have m3 : (d.extract 0 (min (d.size : Int) 60).toNat).size ≤ 60 := by rw [ByteArray.size_extract]; omega
  have M3 := Lib.hid m3
  clear m3
  go_enter Try.func21, Try.ntmps21
  go_wp2_with fail
  obtain ⟨g, hg⟩ : ∃ g, g = w.heap.size := ⟨_, rfl⟩
  have hbx : Blk ((w.alloc (.cells #[.slice A zs.length c, .int .i64 kd, .string d, .int .i64 bd] 49)).alloc (.cells #[.string ⟨#[]⟩, .int .i64 0, .string ⟨#[]⟩, .bool false] 33)) g 49 #[.slice A zs.length c, .int .i64 kd, .string d, .int .i64 bd] := by
    rw [hg]; exact (Blk.new _ _ _).alloc _
  have hby : Blk ((w.alloc (.cells #[.slice A zs.length c, .int .i64 kd, .string d, .int .i64 bd] 49)).alloc (.cells #[.string ⟨#[]⟩, .int .i64 0, .string ⟨#[]⟩, .bool false] 33)) (g + 1) 33 #[.string ⟨#[]⟩, .int .i64 0, .string ⟨#[]⟩, .bool false] := by
    have := Blk.new (w.alloc (.cells #[.slice A zs.length c, .int .i64 kd, .string d, .int .i64 bd] 49)) 33 #[.string ⟨#[]⟩, .int .i64 0, .string ⟨#[]⟩, .bool false]
    rw [hg]; simpa using this
  have hB : Below w.heap.size w ((w.alloc (.cells #[.slice A zs.length c, .int .i64 kd, .string d, .int .i64 bd] 49)).alloc (.cells #[.string ⟨#[]⟩, .int .i64 0, .string ⟨#[]⟩, .bool false] 33)) := ((Below.refl _ _).alloc (Nat.le_refl _) _).alloc (by simp) _
  obtain ⟨W, hW⟩ : ∃ W, W = ((w.alloc (.cells #[.slice A zs.length c, .int .i64 kd, .string d, .int .i64 bd] 49)).alloc (.cells #[.string ⟨#[]⟩, .int .i64 0, .string ⟨#[]⟩, .bool false] 33)) := ⟨_, rfl⟩
  have hpw := (HP.out.below hB).more hB.size
  have hgs : W.heap.size = g + 2 := by rw [hW, hg]; simp
  rw [← hW] at hbx hby hB hpw ⊢
  have hwg : w.heap.size ≤ g := by omega
  rw [← hg]
  have h0 : RBox w g (.slice A zs.length c) (.int .i64 kd) (.string d) (.int .i64 bd) W := ⟨hbx.cell 0, hbx.cell 1, hbx.cell 2, hbx.cell 3, hB⟩
  have HBY := Lib.hid hby
  have HPW := Lib.hid hpw
  have HPX : Hid (Ints (W.alloc (.cells #[.string ⟨#[]⟩, .int .i64 0, .string ⟨#[]⟩, .bool false] 33)) (W.alloc (.cells #[.string ⟨#[]⟩, .int .i64 0, .string ⟨#[]⟩, .bool false] 33)).heap.size A zs) := Lib.hid ((hpw.alloc (Nat.le_refl _) _).more (by simp))
  have hpd : Ints W.drew W.drew.heap.size A zs := hpw.drew
  have HPD := Lib.hid hpd
  have hpe : Ints (W.alloc (.cells #[.string ⟨#[]⟩, .int .i64 0, .string ⟨#[]⟩, .bool false] 33)).drew (W.alloc (.cells #[.string ⟨#[]⟩, .int .i64 0, .string ⟨#[]⟩, .bool false] 33)).drew.heap.size A zs := HPX.out.drew
  have HPE := Lib.hid hpe
  clear hpd hpe
  have HG := Lib.hid hgs
  have HWG := Lib.hid hwg
  clear hbx hby hB hpw hW hg hgs hwg
  go_cut [3] (fun s3 wx => Filled w g kv bv (d.extract 0 (min (d.size : Int) 60).toNat) s3 wx)
  case first =>
    have hbyd : Blk W.drew (g + 1) 33 #[.string ⟨#[]⟩, .int .i64 0, .string ⟨#[]⟩, .bool false] := HBY.out
    have HBYD := Lib.hid hbyd
    clear hbyd
    refine wp_region_noPanic ?_
    refine wp_region_held_drew (S := RBox w g (.slice A zs.length c) (.int .i64 kd) (.string d) (.int .i64 bd)) (by kernel_rfl) (RBox.drew h0) (fun hS0 => ?_)
    change wpAnyH _ _ _ _ _ 21 #[false, false, false, false, false, false, false, false, false, false, false, false, false, false, false, false, false, false, false, false, false] _ (World.drew _)
    refine wpAnyH_take (i := 0) (v := .pointer (some ⟨g, 0, none⟩)) rfl (by kernel_rfl) (by kernel_rfl) (by kernel_rfl) (fun _ _ _ h => h) (Or.inl ⟨by rfl, fun w' hS' => by obtain ⟨y0, y1, y2, y3, _⟩ := hS'; go_simp⟩) hS0 ?_
    change wpAnyH _ _ _ _ _ _ _ (Act.put _ (some 4) (.pointer (some ⟨g, 0, none⟩))) _
    simp only [Act.put, List.setIfInBounds_toArray, List.set_cons_zero, List.set_cons_succ]
    refine wpAnyH_take (i := 1) (v := .slice A zs.length c) rfl (by kernel_rfl) (by kernel_rfl) (by kernel_rfl) (fun _ _ _ h => h) (Or.inl ⟨by rfl, fun w' hS' => by obtain ⟨y0, y1, y2, y3, _⟩ := hS'; go_simp⟩) hS0 ?_
    change wpAnyH _ _ _ _ _ _ _ (Act.put _ (some 5) (.slice A zs.length c)) _
    simp only [Act.put, List.setIfInBounds_toArray, List.set_cons_zero, List.set_cons_succ]
    refine wpAnyH_take (i := 3) (v := .pointer (some ⟨g, 1, none⟩)) rfl (by kernel_rfl) (by kernel_rfl) (by kernel_rfl) (fun _ _ _ h => h) (Or.inl ⟨by rfl, fun w' hS' => by obtain ⟨y0, y1, y2, y3, _⟩ := hS'; go_simp⟩) hS0 ?_
    change wpAnyH _ _ _ _ _ _ _ (Act.put _ (some 7) (.pointer (some ⟨g, 1, none⟩))) _
    simp only [Act.put, List.setIfInBounds_toArray, List.set_cons_zero, List.set_cons_succ]
    refine wpAnyH_take (i := 4) (v := .int .i64 kd) rfl (by kernel_rfl) (by kernel_rfl) (by kernel_rfl) (fun _ _ _ h => h) (Or.inl ⟨by rfl, fun w' hS' => by obtain ⟨y0, y1, y2, y3, _⟩ := hS'; go_simp⟩) hS0 ?_
    change wpAnyH _ _ _ _ _ _ _ (Act.put _ (some 8) (.int .i64 kd)) _
    simp only [Act.put, List.setIfInBounds_toArray, List.set_cons_zero, List.set_cons_succ]
    refine wpAnyH_take (i := 7) (v := .pointer (some ⟨g, 2, none⟩)) rfl (by kernel_rfl) (by kernel_rfl) (by kernel_rfl) (fun _ _ _ h => h) (Or.inl ⟨by rfl, fun w' hS' => by obtain ⟨y0, y1, y2, y3, _⟩ := hS'; go_simp⟩) hS0 ?_
    change wpAnyH _ _ _ _ _ _ _ (Act.put _ (some 11) (.pointer (some ⟨g, 2, none⟩))) _
    simp only [Act.put, List.setIfInBounds_toArray, List.set_cons_zero, List.set_cons_succ]
    refine wpAnyH_take (i := 8) (v := .string d) rfl (by kernel_rfl) (by kernel_rfl) (by kernel_rfl) (fun _ _ _ h => h) (Or.inl ⟨by rfl, fun w' hS' => by obtain ⟨y0, y1, y2, y3, _⟩ := hS'; go_simp⟩) hS0 ?_
    change wpAnyH _ _ _ _ _ _ _ (Act.put _ (some 12) (.string d)) _
    simp only [Act.put, List.setIfInBounds_toArray, List.set_cons_zero, List.set_cons_succ]
    refine wpAnyH_take (i := 9) (v := .pointer (some ⟨g, 2, none⟩)) rfl (by kernel_rfl) (by kernel_rfl) (by kernel_rfl) (fun _ _ _ h => h) (Or.inl ⟨by rfl, fun w' hS' => by obtain ⟨y0, y1, y2, y3, _⟩ := hS'; go_simp⟩) hS0 ?_
    change wpAnyH _ _ _ _ _ _ _ (Act.put _ (some 13) (.pointer (some ⟨g, 2, none⟩))) _
    simp only [Act.put, List.setIfInBounds_toArray, List.set_cons_zero, List.set_cons_succ]
    refine wpAnyH_take (i := 10) (v := .string d) rfl (by kernel_rfl) (by kernel_rfl) (by kernel_rfl) (fun _ _ _ h => h) (Or.inl ⟨by rfl, fun w' hS' => by obtain ⟨y0, y1, y2, y3, _⟩ := hS'; go_simp⟩) hS0 ?_
    change wpAnyH _ _ _ _ _ _ _ (Act.put _ (some 14) (.string d)) _
    simp only [Act.put, List.setIfInBounds_toArray, List.set_cons_zero, List.set_cons_succ]
    refine wpAnyH_take (i := 11) (v := .int .i64 (d.size : Int)) rfl (by kernel_rfl) (by kernel_rfl) (by kernel_rfl) (fun _ _ _ h => h) (Or.inl ⟨by rfl, fun w' hS' => by obtain ⟨y0, y1, y2, y3, _⟩ := hS'; go_simp⟩) hS0 ?_
    change wpAnyH _ _ _ _ _ _ _ (Act.put _ (some 15) (.int .i64 (d.size : Int))) _
    simp only [Act.put, List.setIfInBounds_toArray, List.set_cons_zero, List.set_cons_succ]
    refine wpAnyH_take (i := 12) (v := .int .i64 (min (d.size : Int) 60)) rfl (by kernel_rfl) (by kernel_rfl) (by kernel_rfl) (fun _ _ _ h => h) (Or.inl ⟨by rfl, fun w' hS' => by obtain ⟨y0, y1, y2, y3, _⟩ := hS'; go_simp⟩) hS0 ?_
    change wpAnyH _ _ _ _ _ _ _ (Act.put _ (some 16) (.int .i64 (min (d.size : Int) 60))) _
    simp only [Act.put, List.setIfInBounds_toArray, List.set_cons_zero, List.set_cons_succ]
    refine wpAnyH_take (i := 13) (v := .string (d.extract 0 (min (d.size : Int) 60).toNat)) rfl (by kernel_rfl) (by kernel_rfl) (by kernel_rfl) (fun _ _ _ h => h) (Or.inl ⟨by rfl, fun w' hS' => by obtain ⟨y0, y1, y2, y3, _⟩ := hS'; go_simp⟩) hS0 ?_
    change wpAnyH _ _ _ _ _ _ _ (Act.put _ (some 17) (.string (d.extract 0 (min (d.size : Int) 60).toNat))) _
    simp only [Act.put, List.setIfInBounds_toArray, List.set_cons_zero, List.set_cons_succ]
    refine wpAnyH_take (i := 14) (v := .pointer (some ⟨g, 3, none⟩)) rfl (by kernel_rfl) (by kernel_rfl) (by kernel_rfl) (fun _ _ _ h => h) (Or.inl ⟨by rfl, fun w' hS' => by obtain ⟨y0, y1, y2, y3, _⟩ := hS'; go_simp⟩) hS0 ?_
    change wpAnyH _ _ _ _ _ _ _ (Act.put _ (some 18) (.pointer (some ⟨g, 3, none⟩))) _
    simp only [Act.put, List.setIfInBounds_toArray, List.set_cons_zero, List.set_cons_succ]
    refine wpAnyH_take (i := 15) (v := .int .i64 bd) rfl (by kernel_rfl) (by kernel_rfl) (by kernel_rfl) (fun _ _ _ h => h) (Or.inl ⟨by rfl, fun w' hS' => by obtain ⟨y0, y1, y2, y3, _⟩ := hS'; go_simp⟩) hS0 ?_
    change wpAnyH _ _ _ _ _ _ _ (Act.put _ (some 19) (.int .i64 bd)) _
    simp only [Act.put, List.setIfInBounds_toArray, List.set_cons_zero, List.set_cons_succ]
    refine wpAnyH_ready (rs := [2, 19]) (by kernel_rfl) (by simp) (AllReadyH.cons rfl (fun K hK => ?_) (AllReadyH.cons rfl (fun K hK => ?_) (AllReadyH.nil)))
    · skip
      go_simp
      refine (path_any A zs zs.length c _ HPD.out rfl hf HR.out).mono ?_
      rintro e w3 ⟨⟨r, rfl, hr⟩, hb⟩
      refine hK.out _ _ (RBox.below hS0 hb) (fun hS1 => ?_)
      clear hK K
      have hsz3 := hb.size
      have hby3 := Blk.below HBYD.out hb (by have := Blk.lt HBYD.out; exact this)
      have hlo3 : g + 2 ≤ w3.heap.size := by have := HG.out; simp at hsz3; omega
      clear hb
      simp only [List.setIfInBounds_toArray, List.set_cons_zero, List.set_cons_succ]
      refine wpAnyH_ready (rs := [5, 19]) (by kernel_rfl) (by simp) (AllReadyH.cons rfl (fun K hK => ?_) (AllReadyH.cons rfl (fun K hK => ?_) (AllReadyH.nil)))
      · skip
        go_simp
        refine (pick40_any kd 3 _ k1 k2 (by omega) (by omega)).mono ?_
        rintro e wk ⟨rfl, rfl⟩
        rw [HK.out]
        refine hK.out _ _ hS1 (fun _ => ?_)
        clear hK K
        simp only [List.setIfInBounds_toArray, List.set_cons_zero, List.set_cons_succ]
        refine wpAnyH_take (i := 6) (v := .int .i64 (1 + kv)) rfl (by kernel_rfl) (by kernel_rfl) (by kernel_rfl) (fun _ _ _ h => h) (Or.inl ⟨by rfl, fun w' hS' => by obtain ⟨y0, y1, y2, y3, _⟩ := hS'; go_simp⟩) hS1 ?_
        change wpAnyH _ _ _ _ _ _ _ (Act.put _ (some 10) (.int .i64 (1 + kv))) _
        simp only [Act.put, List.setIfInBounds_toArray, List.set_cons_zero, List.set_cons_succ]
        refine wpAnyH_ready (rs := [16, 19]) (by kernel_rfl) (by simp) (AllReadyH.cons rfl (fun K hK => ?_) (AllReadyH.cons rfl (fun K hK => ?_) (AllReadyH.nil)))
        · skip
          go_simp
          refine (pick40_any bd 12 _ b1 b2 (by omega) (by omega)).mono ?_
          rintro e wk ⟨rfl, rfl⟩
          rw [HV.out]
          refine hK.out _ _ hS1 (fun _ => ?_)
          clear hK K
          simp only [List.setIfInBounds_toArray, List.set_cons_zero, List.set_cons_succ]
          refine wpAnyH_take (i := 17) (v := .bool (bv == 0)) rfl (by kernel_rfl) (by kernel_rfl) (by kernel_rfl) (fun _ _ _ h => h) (Or.inl ⟨by rfl, fun w' hS' => by obtain ⟨y0, y1, y2, y3, _⟩ := hS'; go_simp⟩) hS1 ?_
          change wpAnyH _ _ _ _ _ _ _ (Act.put _ (some 21) (.bool (bv == 0))) _
          simp only [Act.put, List.setIfInBounds_toArray, List.set_cons_zero, List.set_cons_succ]
          refine wpAnyH_take (i := 18) (v := .agg #[.string r, .int .i64 (1 + kv), .string (d.extract 0 (min (d.size : Int) 60).toNat), .bool (bv == 0)]) rfl (by kernel_rfl) (by kernel_rfl) (by kernel_rfl) (fun _ _ _ h => h) (Or.inl ⟨by rfl, fun w' hS' => by obtain ⟨y0, y1, y2, y3, _⟩ := hS'; go_simp⟩) hS1 ?_
          change wpAnyH _ _ _ _ _ _ _ (Act.put _ (some 22) (.agg #[.string r, .int .i64 (1 + kv), .string (d.extract 0 (min (d.size : Int) 60).toNat), .bool (bv == 0)])) _
          simp only [Act.put, List.setIfInBounds_toArray, List.set_cons_zero, List.set_cons_succ]
          refine wpAnyH_ready (rs := [19]) (by kernel_rfl) (by simp) (AllReadyH.cons rfl (fun K hK => ?_) (AllReadyH.nil))
          · skip
            go_simp
            refine hK.out _ _ (RBox.alloc hS1 _) (fun hS2 => ?_)
            clear hK K
            obtain ⟨q, hq⟩ : ∃ q, q = w3.heap.size := ⟨_, rfl⟩
            obtain ⟨Wq, hWq⟩ : ∃ Wq, Wq = w3.alloc (.cells #[.string ⟨#[]⟩, .int .i64 0, .string ⟨#[]⟩, .bool false] 33) := ⟨_, rfl⟩
            have hbq : Blk Wq q 33 #[.string ⟨#[]⟩, .int .i64 0, .string ⟨#[]⟩, .bool false] := by rw [hWq, hq]; exact Blk.new w3 33 _
            have hbyq : Blk Wq (g + 1) 33 #[.string ⟨#[]⟩, .int .i64 0, .string ⟨#[]⟩, .bool false] := by rw [hWq]; exact Blk.alloc (w := w3) hby3 _
            have hgq : g + 1 < q := by have := HG.out; omega
            have hwq : w.heap.size ≤ q := by have := HWG.out; have := HG.out; omega
            rw [← hWq] at hS2 ⊢
            rw [← hq]
            clear hWq hq
            simp only [List.setIfInBounds_toArray, List.set_cons_zero, List.set_cons_succ]
            refine wpAnyH_ready (rs := [20]) (by kernel_rfl) (by simp) (AllReadyH.cons rfl (fun K hK => ?_) (AllReadyH.nil))
            · skip
              have y0 := Blk.cell hbq 0
              have y1 := Blk.cell hbq 1
              have y2 := Blk.cell hbq 2
              have y3 := Blk.cell hbq 3
              have z0 := Blk.frozen hbq 0
              have z1 := Blk.frozen hbq 1
              have z2 := Blk.frozen hbq 2
              have z3 := Blk.frozen hbq 3
              simp only [List.getElem?_toArray, List.getElem?_cons_zero, List.getElem?_cons_succ] at y0 y1 y2 y3
              go_simp
              refine hK.out _ _ (RBox.set (RBox.set (RBox.set (RBox.set hS2 q (by omega) hwq 0 _) q (by omega) hwq 1 _) q (by omega) hwq 2 _) q (by omega) hwq 3 _) (fun hS3 => ?_)
              clear hK K
              simp only [List.setIfInBounds_toArray, List.set_cons_zero, List.set_cons_succ]
              have hbE := (((Blk.set_ hbq 0 (.string r)).set_ 1 (.int .i64 (1 + kv))).set_ 2 (.string (d.extract 0 (min (d.size : Int) 60).toNat))).set_ 3 (.bool (bv == 0))
              have hbyE := (((Blk.far hbyq (p := ⟨q, 0, none⟩) (by simp; omega) (.string r)).far (p := ⟨q, 1, none⟩) (by simp; omega) (.int .i64 (1 + kv))).far (p := ⟨q, 2, none⟩) (by simp; omega) (.string (d.extract 0 (min (d.size : Int) 60).toNat))).far (p := ⟨q, 3, none⟩) (by simp; omega) (.bool (bv == 0))
              refine wpAnyH_done (by kernel_rfl) ?_ _
              refine NoPanic.normal ?_
              go_wp2_with fail
              go_meet
              exact ⟨q, r, rfl, hr, hbE, hbyE, hgq, HWG.out, hS3.2.2.2.2⟩
        · skip
          go_simp
          refine hK.out _ _ (RBox.alloc hS1 _) (fun hS2 => ?_)
          clear hK K
          obtain ⟨q, hq⟩ : ∃ q, q = w3.heap.size := ⟨_, rfl⟩
          obtain ⟨Wq, hWq⟩ : ∃ Wq, Wq = w3.alloc (.cells #[.string ⟨#[]⟩, .int .i64 0, .string ⟨#[]⟩, .bool false] 33) := ⟨_, rfl⟩
          have hbq : Blk Wq q 33 #[.string ⟨#[]⟩, .int .i64 0, .string ⟨#[]⟩, .bool false] := by rw [hWq, hq]; exact Blk.new w3 33 _
          have hbyq : Blk Wq (g + 1) 33 #[.string ⟨#[]⟩, .int .i64 0, .string ⟨#[]⟩, .bool false] := by rw [hWq]; exact Blk.alloc (w := w3) hby3 _
          have hgq : g + 1 < q := by have := HG.out; omega
          have hwq : w.heap.size ≤ q := by have := HWG.out; have := HG.out; omega
          rw [← hWq] at hS2 ⊢
          rw [← hq]
          clear hWq hq
          simp only [List.setIfInBounds_toArray, List.set_cons_zero, List.set_cons_succ]
          refine wpAnyH_ready (rs := [16]) (by kernel_rfl) (by simp) (AllReadyH.cons rfl (fun K hK => ?_) (AllReadyH.nil))
          · skip
            go_simp
            refine (pick40_any bd 12 _ b1 b2 (by omega) (by omega)).mono ?_
            rintro e wk ⟨rfl, rfl⟩
            rw [HV.out]
            refine hK.out _ _ hS2 (fun _ => ?_)
            clear hK K
            simp only [List.setIfInBounds_toArray, List.set_cons_zero, List.set_cons_succ]
            refine wpAnyH_take (i := 17) (v := .bool (bv == 0)) rfl (by kernel_rfl) (by kernel_rfl) (by kernel_rfl) (fun _ _ _ h => h) (Or.inl ⟨by rfl, fun w' hS' => by obtain ⟨y0, y1, y2, y3, _⟩ := hS'; go_simp⟩) hS2 ?_
            change wpAnyH _ _ _ _ _ _ _ (Act.put _ (some 21) (.bool (bv == 0))) _
            simp only [Act.put, List.setIfInBounds_toArray, List.set_cons_zero, List.set_cons_succ]
            refine wpAnyH_take (i := 18) (v := .agg #[.string r, .int .i64 (1 + kv), .string (d.extract 0 (min (d.size : Int) 60).toNat), .bool (bv == 0)]) rfl (by kernel_rfl) (by kernel_rfl) (by kernel_rfl) (fun _ _ _ h => h) (Or.inl ⟨by rfl, fun w' hS' => by obtain ⟨y0, y1, y2, y3, _⟩ := hS'; go_simp⟩) hS2 ?_
            change wpAnyH _ _ _ _ _ _ _ (Act.put _ (some 22) (.agg #[.string r, .int .i64 (1 + kv), .string (d.extract 0 (min (d.size : Int) 60).toNat), .bool (bv == 0)])) _
            simp only [Act.put, List.setIfInBounds_toArray, List.set_cons_zero, List.set_cons_succ]
            refine wpAnyH_ready (rs := [20]) (by kernel_rfl) (by simp) (AllReadyH.cons rfl (fun K hK => ?_) (AllReadyH.nil))
            · skip
              have y0 := Blk.cell hbq 0
              have y1 := Blk.cell hbq 1
              have y2 := Blk.cell hbq 2
              have y3 := Blk.cell hbq 3
              have z0 := Blk.frozen hbq 0
              have z1 := Blk.frozen hbq 1
              have z2 := Blk.frozen hbq 2
              have z3 := Blk.frozen hbq 3
              simp only [List.getElem?_toArray, List.getElem?_cons_zero, List.getElem?_cons_succ] at y0 y1 y2 y3
              go_simp
              refine hK.out _ _ (RBox.set (RBox.set (RBox.set (RBox.set hS2 q (by omega) hwq 0 _) q (by omega) hwq 1 _) q (by omega) hwq 2 _) q (by omega) hwq 3 _) (fun hS3 => ?_)
              clear hK K
              simp only [List.setIfInBounds_toArray, List.set_cons_zero, List.set_cons_succ]
              have hbE := (((Blk.set_ hbq 0 (.string r)).set_ 1 (.int .i64 (1 + kv))).set_ 2 (.string (d.extract 0 (min (d.size : Int) 60).toNat))).set_ 3 (.bool (bv == 0))
              have hbyE := (((Blk.far hbyq (p := ⟨q, 0, none⟩) (by simp; omega) (.string r)).far (p := ⟨q, 1, none⟩) (by simp; omega) (.int .i64 (1 + kv))).far (p := ⟨q, 2, none⟩) (by simp; omega) (.string (d.extract 0 (min (d.size : Int) 60).toNat))).far (p := ⟨q, 3, none⟩) (by simp; omega) (.bool (bv == 0))
              refine wpAnyH_done (by kernel_rfl) ?_ _
              refine NoPanic.normal ?_
              go_wp2_with fail
              go_meet
              exact ⟨q, r, rfl, hr, hbE, hbyE, hgq, HWG.out, hS3.2.2.2.2⟩
      · skip
        go_simp
        refine hK.out _ _ (RBox.alloc hS1 _) (fun hS2 => ?_)
        clear hK K
        obtain ⟨q, hq⟩ : ∃ q, q = w3.heap.size := ⟨_, rfl⟩
        obtain ⟨Wq, hWq⟩ : ∃ Wq, Wq = w3.alloc (.cells #[.string ⟨#[]⟩, .int .i64 0, .string ⟨#[]⟩, .bool false] 33) := ⟨_, rfl⟩
        have hbq : Blk Wq q 33 #[.string ⟨#[]⟩, .int .i64 0, .string ⟨#[]⟩, .bool false] := by rw [hWq, hq]; exact Blk.new w3 33 _
        have hbyq : Blk Wq (g + 1) 33 #[.string ⟨#[]⟩, .int .i64 0, .string ⟨#[]⟩, .bool false] := by rw [hWq]; exact Blk.alloc (w := w3) hby3 _
        have hgq : g + 1 < q := by have := HG.out; omega
        have hwq : w.heap.size ≤ q := by have := HWG.out; have := HG.out; omega
        rw [← hWq] at hS2 ⊢
        rw [← hq]
        clear hWq hq
        simp only [List.setIfInBounds_toArray, List.set_cons_zero, List.set_cons_succ]
        refine wpAnyH_ready (rs := [5]) (by kernel_rfl) (by simp) (AllReadyH.cons rfl (fun K hK => ?_) (AllReadyH.nil))
        · skip
          go_simp
          refine (pick40_any kd 3 _ k1 k2 (by omega) (by omega)).mono ?_
          rintro e wk ⟨rfl, rfl⟩
          rw [HK.out]
          refine hK.out _ _ hS2 (fun _ => ?_)
          clear hK K
          simp only [List.setIfInBounds_toArray, List.set_cons_zero, List.set_cons_succ]
          refine wpAnyH_take (i := 6) (v := .int .i64 (1 + kv)) rfl (by kernel_rfl) (by kernel_rfl) (by kernel_rfl) (fun _ _ _ h => h) (Or.inl ⟨by rfl, fun w' hS' => by obtain ⟨y0, y1, y2, y3, _⟩ := hS'; go_simp⟩) hS2 ?_
          change wpAnyH _ _ _ _ _ _ _ (Act.put _ (some 10) (.int .i64 (1 + kv))) _
          simp only [Act.put, List.setIfInBounds_toArray, List.set_cons_zero, List.set_cons_succ]
          refine wpAnyH_ready (rs := [16]) (by kernel_rfl) (by simp) (AllReadyH.cons rfl (fun K hK => ?_) (AllReadyH.nil))
          · skip
            go_simp
            refine (pick40_any bd 12 _ b1 b2 (by omega) (by omega)).mono ?_
            rintro e wk ⟨rfl, rfl⟩
            rw [HV.out]
            refine hK.out _ _ hS2 (fun _ => ?_)
            clear hK K
            simp only [List.setIfInBounds_toArray, List.set_cons_zero, List.set_cons_succ]
            refine wpAnyH_take (i := 17) (v := .bool (bv == 0)) rfl (by kernel_rfl) (by kernel_rfl) (by kernel_rfl) (fun _ _ _ h => h) (Or.inl ⟨by rfl, fun w' hS' => by obtain ⟨y0, y1, y2, y3, _⟩ := hS'; go_simp⟩) hS2 ?_
            change wpAnyH _ _ _ _ _ _ _ (Act.put _ (some 21) (.bool (bv == 0))) _
            simp only [Act.put, List.setIfInBounds_toArray, List.set_cons_zero, List.set_cons_succ]
            refine wpAnyH_take (i := 18) (v := .agg #[.string r, .int .i64 (1 + kv), .string (d.extract 0 (min (d.size : Int) 60).toNat), .bool (bv == 0)]) rfl (by kernel_rfl) (by kernel_rfl) (by kernel_rfl) (fun _ _ _ h => h) (Or.inl ⟨by rfl, fun w' hS' => by obtain ⟨y0, y1, y2, y3, _⟩ := hS'; go_simp⟩) hS2 ?_
            change wpAnyH _ _ _ _ _ _ _ (Act.put _ (some 22) (.agg #[.string r, .int .i64 (1 + kv), .string (d.extract 0 (min (d.size : Int) 60).toNat), .bool (bv == 0)])) _
            simp only [Act.put, List.setIfInBounds_toArray, List.set_cons_zero, List.set_cons_succ]
            refine wpAnyH_ready (rs := [20]) (by kernel_rfl) (by simp) (AllReadyH.cons rfl (fun K hK => ?_) (AllReadyH.nil))
            · skip
              have y0 := Blk.cell hbq 0
              have y1 := Blk.cell hbq 1
              have y2 := Blk.cell hbq 2
              have y3 := Blk.cell hbq 3
              have z0 := Blk.frozen hbq 0
              have z1 := Blk.frozen hbq 1
              have z2 := Blk.frozen hbq 2
              have z3 := Blk.frozen hbq 3
              simp only [List.getElem?_toArray, List.getElem?_cons_zero, List.getElem?_cons_succ] at y0 y1 y2 y3
              go_simp
              refine hK.out _ _ (RBox.set (RBox.set (RBox.set (RBox.set hS2 q (by omega) hwq 0 _) q (by omega) hwq 1 _) q (by omega) hwq 2 _) q (by omega) hwq 3 _) (fun hS3 => ?_)
              clear hK K
              simp only [List.setIfInBounds_toArray, List.set_cons_zero, List.set_cons_succ]
              have hbE := (((Blk.set_ hbq 0 (.string r)).set_ 1 (.int .i64 (1 + kv))).set_ 2 (.string (d.extract 0 (min (d.size : Int) 60).toNat))).set_ 3 (.bool (bv == 0))
              have hbyE := (((Blk.far hbyq (p := ⟨q, 0, none⟩) (by simp; omega) (.string r)).far (p := ⟨q, 1, none⟩) (by simp; omega) (.int .i64 (1 + kv))).far (p := ⟨q, 2, none⟩) (by simp; omega) (.string (d.extract 0 (min (d.size : Int) 60).toNat))).far (p := ⟨q, 3, none⟩) (by simp; omega) (.bool (bv == 0))
              refine wpAnyH_done (by kernel_rfl) ?_ _
              refine NoPanic.normal ?_
              go_wp2_with fail
              go_meet
              exact ⟨q, r, rfl, hr, hbE, hbyE, hgq, HWG.out, hS3.2.2.2.2⟩
    · skip
      go_simp
      refine hK.out _ _ (RBox.allocDrew hS0 _) (fun hS1 => ?_)
      clear hK K
      obtain ⟨q, hq⟩ : ∃ q, q = W.heap.size := ⟨_, rfl⟩
      obtain ⟨Wq, hWq⟩ : ∃ Wq, Wq = (W.alloc (.cells #[.string ⟨#[]⟩, .int .i64 0, .string ⟨#[]⟩, .bool false] 33)).drew := ⟨_, rfl⟩
      have hbq : Blk Wq q 33 #[.string ⟨#[]⟩, .int .i64 0, .string ⟨#[]⟩, .bool false] := by rw [hWq, hq]; exact Blk.new W 33 _
      have hbyq : Blk Wq (g + 1) 33 #[.string ⟨#[]⟩, .int .i64 0, .string ⟨#[]⟩, .bool false] := by rw [hWq]; exact Blk.alloc (w := W) HBY.out _
      have hints : Ints Wq Wq.heap.size A zs := by rw [hWq]; exact HPX.out.drew
      have hgq : g + 1 < q := by have := HG.out; omega
      have hwq : w.heap.size ≤ q := by have := HWG.out; have := HG.out; omega
      have hqd : W.drew.heap.size = q := hq.symm
      rw [← hWq] at hS1 ⊢
      first | rw [← hq] | rw [hqd]
      clear hWq hq hqd
      simp only [List.setIfInBounds_toArray, List.set_cons_zero, List.set_cons_succ]
      refine wpAnyH_ready (rs := [2]) (by kernel_rfl) (by simp) (AllReadyH.cons rfl (fun K hK => ?_) (AllReadyH.nil))
      · skip
        go_simp
        refine (path_any A zs zs.length c _ hints rfl hf HR.out).mono ?_
        rintro e w3 ⟨⟨r, rfl, hr⟩, hb⟩
        refine hK.out _ _ (RBox.below hS1 hb) (fun hS2 => ?_)
        clear hK K
        have hsz3 := hb.size
        have hby3 := Blk.below hbyq hb (by have := Blk.lt hbyq; exact this)
        have hq3 := Blk.below hbq hb (by have := Blk.lt hbq; exact this)
        clear hb
        simp only [List.setIfInBounds_toArray, List.set_cons_zero, List.set_cons_succ]
        refine wpAnyH_ready (rs := [5]) (by kernel_rfl) (by simp) (AllReadyH.cons rfl (fun K hK => ?_) (AllReadyH.nil))
        · skip
          go_simp
          refine (pick40_any kd 3 _ k1 k2 (by omega) (by omega)).mono ?_
          rintro e wk ⟨rfl, rfl⟩
          rw [HK.out]
          refine hK.out _ _ hS2 (fun _ => ?_)
          clear hK K
          simp only [List.setIfInBounds_toArray, List.set_cons_zero, List.set_cons_succ]
          refine wpAnyH_take (i := 6) (v := .int .i64 (1 + kv)) rfl (by kernel_rfl) (by kernel_rfl) (by kernel_rfl) (fun _ _ _ h => h) (Or.inl ⟨by rfl, fun w' hS' => by obtain ⟨y0, y1, y2, y3, _⟩ := hS'; go_simp⟩) hS2 ?_
          change wpAnyH _ _ _ _ _ _ _ (Act.put _ (some 10) (.int .i64 (1 + kv))) _
          simp only [Act.put, List.setIfInBounds_toArray, List.set_cons_zero, List.set_cons_succ]
          refine wpAnyH_ready (rs := [16]) (by kernel_rfl) (by simp) (AllReadyH.cons rfl (fun K hK => ?_) (AllReadyH.nil))
          · skip
            go_simp
            refine (pick40_any bd 12 _ b1 b2 (by omega) (by omega)).mono ?_
            rintro e wk ⟨rfl, rfl⟩
            rw [HV.out]
            refine hK.out _ _ hS2 (fun _ => ?_)
            clear hK K
            simp only [List.setIfInBounds_toArray, List.set_cons_zero, List.set_cons_succ]
            refine wpAnyH_take (i := 17) (v := .bool (bv == 0)) rfl (by kernel_rfl) (by kernel_rfl) (by kernel_rfl) (fun _ _ _ h => h) (Or.inl ⟨by rfl, fun w' hS' => by obtain ⟨y0, y1, y2, y3, _⟩ := hS'; go_simp⟩) hS2 ?_
            change wpAnyH _ _ _ _ _ _ _ (Act.put _ (some 21) (.bool (bv == 0))) _
            simp only [Act.put, List.setIfInBounds_toArray, List.set_cons_zero, List.set_cons_succ]
            refine wpAnyH_take (i := 18) (v := .agg #[.string r, .int .i64 (1 + kv), .string (d.extract 0 (min (d.size : Int) 60).toNat), .bool (bv == 0)]) rfl (by kernel_rfl) (by kernel_rfl) (by kernel_rfl) (fun _ _ _ h => h) (Or.inl ⟨by rfl, fun w' hS' => by obtain ⟨y0, y1, y2, y3, _⟩ := hS'; go_simp⟩) hS2 ?_
            change wpAnyH _ _ _ _ _ _ _ (Act.put _ (some 22) (.agg #[.string r, .int .i64 (1 + kv), .string (d.extract 0 (min (d.size : Int) 60).toNat), .bool (bv == 0)])) _
            simp only [Act.put, List.setIfInBounds_toArray, List.set_cons_zero, List.set_cons_succ]
            refine wpAnyH_ready (rs := [20]) (by kernel_rfl) (by simp) (AllReadyH.cons rfl (fun K hK => ?_) (AllReadyH.nil))
            · skip
              have y0 := Blk.cell hq3 0
              have y1 := Blk.cell hq3 1
              have y2 := Blk.cell hq3 2
              have y3 := Blk.cell hq3 3
              have z0 := Blk.frozen hq3 0
              have z1 := Blk.frozen hq3 1
              have z2 := Blk.frozen hq3 2
              have z3 := Blk.frozen hq3 3
              simp only [List.getElem?_toArray, List.getElem?_cons_zero, List.getElem?_cons_succ] at y0 y1 y2 y3
              go_simp
              refine hK.out _ _ (RBox.set (RBox.set (RBox.set (RBox.set hS2 q (by omega) hwq 0 _) q (by omega) hwq 1 _) q (by omega) hwq 2 _) q (by omega) hwq 3 _) (fun hS3 => ?_)
              clear hK K
              simp only [List.setIfInBounds_toArray, List.set_cons_zero, List.set_cons_succ]
              have hbE := (((Blk.set_ hq3 0 (.string r)).set_ 1 (.int .i64 (1 + kv))).set_ 2 (.string (d.extract 0 (min (d.size : Int) 60).toNat))).set_ 3 (.bool (bv == 0))
              have hbyE := (((Blk.far hby3 (p := ⟨q, 0, none⟩) (by simp; omega) (.string r)).far (p := ⟨q, 1, none⟩) (by simp; omega) (.int .i64 (1 + kv))).far (p := ⟨q, 2, none⟩) (by simp; omega) (.string (d.extract 0 (min (d.size : Int) 60).toNat))).far (p := ⟨q, 3, none⟩) (by simp; omega) (.bool (bv == 0))
              refine wpAnyH_done (by kernel_rfl) ?_ _
              refine NoPanic.normal ?_
              go_wp2_with fail
              go_meet
              exact ⟨q, r, rfl, hr, hbE, hbyE, hgq, HWG.out, hS3.2.2.2.2⟩
  case rest =>
    obtain ⟨q, r, rfl, hr, hbq, hby, hgq, hwg, hB⟩ := hcut
    have HR3 := Lib.hid hr
    have HB := Lib.hid hB
    have HBQ := Lib.hid hbq
    have HBY3 := Lib.hid hby
    have y0 := hbq.cell 0
    have y1 := hbq.cell 1
    have y2 := hbq.cell 2
    have y3 := hbq.cell 3
    have z0 := hbq.frozen 0
    have z1 := hbq.frozen 1
    have z2 := hbq.frozen 2
    have z3 := hbq.frozen 3
    have x0 := hby.cell 0
    have x1 := hby.cell 1
    have x2 := hby.cell 2
    have x3 := hby.cell 3
    have v0 := hby.frozen 0
    have v1 := hby.frozen 1
    have v2 := hby.frozen 2
    have v3 := hby.frozen 3
    simp only [List.getElem?_toArray, List.getElem?_cons_zero, List.getElem?_cons_succ] at y0 y1 y2 y3 x0 x1 x2 x3
    have hne : ¬ q = g + 1 := by omega
    have hne' : ¬ g + 1 = q := by omega
    clear hbq hby hr hB
    by_cases hk : kv = 0
    · have hk1 : ((1 + kv : Int) == 1) = true := by rw [hk]; rfl
      clear hk
      go_wp2_with fail
      have hfin := (((((Blk.far HBY3.out (p := ⟨q, 2, none⟩) (by simp; omega) (.string ⟨#[]⟩))).set_ 0 (.string r)).set_ 1 (.int .i64 (1 + kv))).set_ 2 (.string ⟨#[]⟩)).set_ 3 (.bool (bv == 0))
      have hbf : Below w.heap.size w (((((wc.setCell ⟨q, 2, none⟩ (.string ⟨#[]⟩)).setCell ⟨g + 1, 0, none⟩ (.string r)).setCell ⟨g + 1, 1, none⟩ (.int .i64 (1 + kv))).setCell ⟨g + 1, 2, none⟩ (.string ⟨#[]⟩)).setCell ⟨g + 1, 3, none⟩ (.bool (bv == 0))) := (((((HB.out.setCell (p := ⟨q, 2, none⟩) (by show w.heap.size ≤ q; omega) _).setCell (p := ⟨g + 1, 0, none⟩) (by show w.heap.size ≤ g + 1; omega) _).setCell (p := ⟨g + 1, 1, none⟩) (by show w.heap.size ≤ g + 1; omega) _).setCell (p := ⟨g + 1, 2, none⟩) (by show w.heap.size ≤ g + 1; omega) _).setCell (p := ⟨g + 1, 3, none⟩) (by show w.heap.size ≤ g + 1; omega) _)
      generalize (((((wc.setCell ⟨q, 2, none⟩ (.string ⟨#[]⟩)).setCell ⟨g + 1, 0, none⟩ (.string r)).setCell ⟨g + 1, 1, none⟩ (.int .i64 (1 + kv))).setCell ⟨g + 1, 2, none⟩ (.string ⟨#[]⟩)).setCell ⟨g + 1, 3, none⟩ (.bool (bv == 0))) = WF at hfin hbf ⊢
      have c0 := hfin.cell 0
      have c1 := hfin.cell 1
      have c2 := hfin.cell 2
      have c3 := hfin.cell 3
      simp only [List.setIfInBounds_toArray, List.set_cons_zero, List.set_cons_succ, List.getElem?_toArray, List.getElem?_cons_zero, List.getElem?_cons_succ] at c0 c1 c2 c3
      exact bodyPost_ret (v := .agg #[.string r, .int .i64 (1 + kv), .string ⟨#[]⟩, .bool (bv == 0)]) (by simp [results, Try.results21, go_sem, c0, c1, c2, c3]) rfl ⟨⟨⟨r, 1 + kv, ⟨#[]⟩, bv == 0⟩, rfl, HR3.out, Nat.zero_le 60⟩, hbf⟩
    · have hk1 : ((1 + kv : Int) == 1) = false := by rw [beq_eq_false_iff_ne]; omega
      clear hk
      go_wp2_with fail
      have hfin := ((((HBY3.out).set_ 0 (.string r)).set_ 1 (.int .i64 (1 + kv))).set_ 2 (.string (d.extract 0 (min (d.size : Int) 60).toNat))).set_ 3 (.bool (bv == 0))
      have hbf : Below w.heap.size w ((((wc.setCell ⟨g + 1, 0, none⟩ (.string r)).setCell ⟨g + 1, 1, none⟩ (.int .i64 (1 + kv))).setCell ⟨g + 1, 2, none⟩ (.string (d.extract 0 (min (d.size : Int) 60).toNat))).setCell ⟨g + 1, 3, none⟩ (.bool (bv == 0))) := ((((HB.out.setCell (p := ⟨g + 1, 0, none⟩) (by show w.heap.size ≤ g + 1; omega) _).setCell (p := ⟨g + 1, 1, none⟩) (by show w.heap.size ≤ g + 1; omega) _).setCell (p := ⟨g + 1, 2, none⟩) (by show w.heap.size ≤ g + 1; omega) _).setCell (p := ⟨g + 1, 3, none⟩) (by show w.heap.size ≤ g + 1; omega) _)
      generalize ((((wc.setCell ⟨g + 1, 0, none⟩ (.string r)).setCell ⟨g + 1, 1, none⟩ (.int .i64 (1 + kv))).setCell ⟨g + 1, 2, none⟩ (.string (d.extract 0 (min (d.size : Int) 60).toNat))).setCell ⟨g + 1, 3, none⟩ (.bool (bv == 0))) = WF at hfin hbf ⊢
      have c0 := hfin.cell 0
      have c1 := hfin.cell 1
      have c2 := hfin.cell 2
      have c3 := hfin.cell 3
      simp only [List.setIfInBounds_toArray, List.set_cons_zero, List.set_cons_succ, List.getElem?_toArray, List.getElem?_cons_zero, List.getElem?_cons_succ] at c0 c1 c2 c3
      exact bodyPost_ret (v := .agg #[.string r, .int .i64 (1 + kv), .string (d.extract 0 (min (d.size : Int) 60).toNat), .bool (bv == 0)]) (by simp [results, Try.results21, go_sem, c0, c1, c2, c3]) rfl ⟨⟨⟨r, 1 + kv, (d.extract 0 (min (d.size : Int) 60).toNat), bv == 0⟩, rfl, HR3.out, M3.out⟩, hbf⟩

end Go.Proofs.Ytdnckhagknlfhaa
