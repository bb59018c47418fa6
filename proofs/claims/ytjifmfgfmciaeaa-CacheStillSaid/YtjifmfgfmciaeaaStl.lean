/-
  collatorlaw14.CacheStill returns true: however often is asked, what is told stays the same, till something is put. Nothing that was there is changed.
-/
import Derived.Test.YtjifmfgfmciaeaaLw
import Derived.Deep.CutBlock
namespace Go.Proofs.Ytjifmfgfmciaeaa
open Go.RowKit


set_option maxHeartbeats 8000000 in
set_option maxRecDepth 100000 in
theorem still_any (z0 z1 z2 : Int) (A1 A2 : Option Addr) (puts asks : List Tri) (pn pc an ac : Nat) (w : World) (hz : TriFit (z0, z1, z2)) (ha1 : TrisAt w A1 puts) (hn1 : puts.length = pn) (hl1 : pn ≤ 9223372036854775807) (hf1 : ∀ z ∈ puts, TriFit z) (ha2 : TrisAt w A2 asks) (hn2 : asks.length = an) (hl2 : an ≤ 9223372036854775807) (hf2 : ∀ z ∈ asks, TriFit z) :
    Calls Try.prog 8 #[.agg #[.int .i64 z0, .int .i64 z1, .int .i64 z2], .slice A1 pn pc, .slice A2 an ac] w fun e w' => e = .returned (.bool true) ∧ Below w.heap.size w w' := by
  subst hn1 hn2
  have HA1 := Lib.hid ha1
  have HA2 := Lib.hid ha2
  have HF1 := Lib.hid hf1
  have HF2 := Lib.hid hf2
  have HZ := Lib.hid hz
  clear ha1 ha2 hf1 hf2 hz
  go_enter Try.func8, Try.ntmps8
  go_wp2_with fail
  have hb0 := Blk.new w 22 #[.int .i64 z0, .int .i64 z1, .int .i64 z2]
  have hw0 : Below w.heap.size w (w.alloc (.cells #[.int .i64 z0, .int .i64 z1, .int .i64 z2] 22)) := (Below.refl _ _).alloc (Nat.le_refl _) _
  obtain ⟨w1, hwe⟩ : ∃ w1, w1 = w.alloc (.cells #[.int .i64 z0, .int .i64 z1, .int .i64 z2] 22) := ⟨_, rfl⟩
  obtain ⟨g3, hg⟩ : ∃ g, g = w.heap.size := ⟨_, rfl⟩
  rw [← hwe] at hb0 hw0 ⊢
  rw [← hg] at hb0 ⊢
  have HX1 := Lib.hid hb0
  have HW1 := Lib.hid hw0
  clear hb0 hw0 hwe hg
  refine (awake_any cache_ok _).mono ?_
  rintro e w2 ⟨rfl, hb⟩
  have HW2 := Lib.hid (below_step HW1.out hb)
  have hb3 := Blk.below HX1.out hb HX1.out.lt
  clear hb
  have k0 := Blk.cell hb3 0
  have k1 := Blk.cell hb3 1
  have k2 := Blk.cell hb3 2
  simp only [List.getElem?_toArray, List.getElem?_cons_zero, List.getElem?_cons_succ] at k0 k1 k2
  clear hb3
  go_wp2_with fail
  refine (cache_any z0 z1 z2 A1 puts puts.length pc _ HZ.out (HA1.out.up HW2.out) rfl hl1 HF1.out).mono ?_
  rintro e w3 ⟨A8, n8, cap8, rfl, hn8, hp8, hb, hc8⟩
  have HW3 := Lib.hid (below_step HW2.out hb)
  have HP3 := Lib.hid hp8
  clear hb hp8 k0 k1 k2
  obtain ⟨c, hc⟩ : ∃ c, cacheOf (z0, z1, z2) puts = c := ⟨_, rfl⟩
  have HGC : Hid (Good c 20) := Lib.hid (by rw [← hc]; exact cacheOf_good _ _)
  rw [hc] at hn8 HP3 ⊢
  have HN8 := Lib.hid hn8
  clear hc hn8
  go_upto_region 4 with (fail)
  have hb8 : Blk ((w3.alloc (.cells #[.int .i64 c.width, .int .i64 c.room, .slice A8 n8 cap8, .int .i64 c.hits, .int .i64 c.misses, .int .i64 c.clashes, .int .i64 c.evicted] 28)).alloc (.cells #[.int .i64 c.width, .int .i64 c.room, .slice A8 n8 cap8, .int .i64 c.hits, .int .i64 c.misses, .int .i64 c.clashes, .int .i64 c.evicted] 28)) w3.heap.size 28 #[.int .i64 c.width, .int .i64 c.room, .slice A8 n8 cap8, .int .i64 c.hits, .int .i64 c.misses, .int .i64 c.clashes, .int .i64 c.evicted] := (Blk.new w3 _ _).alloc _
  have hb9 : Blk ((w3.alloc (.cells #[.int .i64 c.width, .int .i64 c.room, .slice A8 n8 cap8, .int .i64 c.hits, .int .i64 c.misses, .int .i64 c.clashes, .int .i64 c.evicted] 28)).alloc (.cells #[.int .i64 c.width, .int .i64 c.room, .slice A8 n8 cap8, .int .i64 c.hits, .int .i64 c.misses, .int .i64 c.clashes, .int .i64 c.evicted] 28)) (w3.heap.size + 1) 28 #[.int .i64 c.width, .int .i64 c.room, .slice A8 n8 cap8, .int .i64 c.hits, .int .i64 c.misses, .int .i64 c.clashes, .int .i64 c.evicted] := by
    have := Blk.new (w3.alloc (.cells #[.int .i64 c.width, .int .i64 c.room, .slice A8 n8 cap8, .int .i64 c.hits, .int .i64 c.misses, .int .i64 c.clashes, .int .i64 c.evicted] 28)) 28 #[.int .i64 c.width, .int .i64 c.room, .slice A8 n8 cap8, .int .i64 c.hits, .int .i64 c.misses, .int .i64 c.clashes, .int .i64 c.evicted]
    simpa using this
  have hw4 : Below w3.heap.size w3 ((w3.alloc (.cells #[.int .i64 c.width, .int .i64 c.room, .slice A8 n8 cap8, .int .i64 c.hits, .int .i64 c.misses, .int .i64 c.clashes, .int .i64 c.evicted] 28)).alloc (.cells #[.int .i64 c.width, .int .i64 c.room, .slice A8 n8 cap8, .int .i64 c.hits, .int .i64 c.misses, .int .i64 c.clashes, .int .i64 c.evicted] 28)) := ((Below.refl _ _).alloc (Nat.le_refl _) _).alloc (by simp) _
  obtain ⟨w5, hwe⟩ : ∃ w5, w5 = (w3.alloc (.cells #[.int .i64 c.width, .int .i64 c.room, .slice A8 n8 cap8, .int .i64 c.hits, .int .i64 c.misses, .int .i64 c.clashes, .int .i64 c.evicted] 28)).alloc (.cells #[.int .i64 c.width, .int .i64 c.room, .slice A8 n8 cap8, .int .i64 c.hits, .int .i64 c.misses, .int .i64 c.clashes, .int .i64 c.evicted] 28) := ⟨_, rfl⟩
  obtain ⟨g8, hg8⟩ : ∃ g, g = w3.heap.size := ⟨_, rfl⟩
  obtain ⟨g9, hg9⟩ : ∃ g, g = w3.heap.size + 1 := ⟨_, rfl⟩
  rw [← hwe] at hb8 hb9 hw4 ⊢
  rw [← hg9] at hb9 ⊢
  rw [← hg8] at hb8
  rw [show (⟨w3.heap.size, 0, none⟩ : Addr) = ⟨g8, 0, none⟩ from by rw [hg8]]
  have HG : Hid (w3.heap.size ≤ g8 ∧ w3.heap.size ≤ g9 ∧ g8 ≠ g9) := Lib.hid (by omega)
  have HP5 : Hid (PartsAt (fun b => b = g9) w5 A8 c.parts) := Lib.hid ((((HP3.out.add (show w3.heap.size ≤ g9 by omega)).less (fun b hb => .inr hb))).up hw4)
  have HI0 : Hid (Below w3.heap.size w3 w5 ∧ Blk w5 g8 28 #[.int .i64 c.width, .int .i64 c.room, .slice A8 n8 cap8, .int .i64 c.hits, .int .i64 c.misses, .int .i64 c.clashes, .int .i64 c.evicted] ∧ Boxed (fun b => b = g9) w5 g9 c) := Lib.hid ⟨hw4, hb8, A8, n8, cap8, hb9, HP5.out, HN8.out, hc8⟩
  clear hb8 hb9 hw4 hwe hg8 hg9
  go_upto_block 0 with (fail)
  go_cut [10] (fun _ wx => ∃ d, Asked c d 20 ∧ Below w3.heap.size w3 wx ∧ Blk wx g8 28 #[.int .i64 c.width, .int .i64 c.room, .slice A8 n8 cap8, .int .i64 c.hits, .int .i64 c.misses, .int .i64 c.clashes, .int .i64 c.evicted] ∧ Boxed (fun b => b = g9) wx g9 d)
  case first =>
    go_wp2_with fail
    go_loopw [10] (fun s10 wr => ∃ (k : Nat) (d : Ca), k ≤ asks.length ∧ k ≤ 30 ∧ s10 = .int .i64 k ∧ Hid (Asked c d 20) ∧ Hid (Below w3.heap.size w3 wr ∧ Blk wr g8 28 #[.int .i64 c.width, .int .i64 c.room, .slice A8 n8 cap8, .int .i64 c.hits, .int .i64 c.misses, .int .i64 c.clashes, .int .i64 c.evicted] ∧ Boxed (fun b => b = g9) wr g9 d)) (fun s10 _ => asks.length - (intOf s10).toNat)
    case atStart => exact ⟨0, c, Nat.zero_le _, Nat.zero_le _, rfl, Lib.hid ⟨HGC.out, fun _ _ => rfl, rfl⟩, HI0⟩
    case round =>
      obtain ⟨k, d, hk, hk30, rfl, HQ, HI⟩ := hrel
      obtain ⟨w4, rfl⟩ : ∃ w4, w4 = wr := ⟨_, rfl⟩
      obtain ⟨A9, n9, cap9, hb9, hp9, hn9, hc9⟩ := HI.out.2.2
      have HB9 := Lib.hid hb9
      have HP9 := Lib.hid hp9
      have HN9 := Lib.hid hn9
      have HF9 := Lib.hid (HQ.out.good.fit (by omega))
      have HWW := Lib.hid (below_step HW3.out HI.out.1)
      clear hb9 hp9 hn9
      by_cases g1 : k < asks.length ∧ k < 30
      · obtain ⟨g1, g2⟩ := g1
        obtain ⟨z, hz⟩ : ∃ z, asks[k]? = some z := ⟨_, List.getElem?_eq_getElem g1⟩
        obtain ⟨aa, rfl, hal, htz⟩ := tri_cells (HA2.out.up HWW.out) hz
        have HTZ := Lib.hid htz
        have HTF := Lib.hid (HF2.out z (List.mem_of_getElem? hz))
        have HC9 : Hid (∀ W, Below w4.heap.size w4 W → W.cell? ⟨g9, 0, none⟩ = some (.int .i64 d.width) ∧ W.cell? ⟨g9, 1, none⟩ = some (.int .i64 d.room) ∧ W.cell? ⟨g9, 2, none⟩ = some (.slice A9 n9 cap9) ∧ W.cell? ⟨g9, 3, none⟩ = some (.int .i64 d.hits) ∧ W.cell? ⟨g9, 4, none⟩ = some (.int .i64 d.misses) ∧ W.cell? ⟨g9, 5, none⟩ = some (.int .i64 d.clashes) ∧ W.cell? ⟨g9, 6, none⟩ = some (.int .i64 d.evicted)) := Lib.hid fun W hW => box7 HB9.out hW
        obtain ⟨s, d2, b, hgm⟩ : ∃ s d2 b, getC d (textOf z.1) (textOf z.2.1) = (s, d2, b) := ⟨_, _, _, rfl⟩
        have HGM := Lib.hid hgm
        have hb010 : b = 0 ∨ b = 10 := by have := get_code HQ.out.good.right (textOf z.1) (textOf z.2.1); rw [hgm] at this; exact this
        have HQ2 : Hid (Asked c d2 20) := Lib.hid (by have := HQ.out.step (textOf z.1) (textOf z.2.1); rw [hgm] at this; exact this)
        clear hz htz hgm
        go_wp2_with fail
        go_cut [11, 12, 13] (fun s11 s12 s13 wx => GetCut w4 s d2 b s11 s12 s13 wx)
        case first =>
          refine wp_region_noPanic ?_
          refine wp_region_held_drew (S := fun W => Below w4.heap.size w4 W) (by kernel_rfl) ((Below.refl w4.heap.size w4).drew) (fun hS0 => ?_)
          change wpAnyH _ _ _ _ _ 22 #[false, false, false, false, false, false, false, false, false, false, false, false, false, false, false, false, false, false, false, false, false, false] _ (World.drew _)
          refine wpAnyH_take (i := 0) (v := .agg #[.int .i64 d.width, .int .i64 d.room, .slice A9 n9 cap9, .int .i64 d.hits, .int .i64 d.misses, .int .i64 d.clashes, .int .i64 d.evicted]) rfl (by kernel_rfl) (by kernel_rfl) (by kernel_rfl) (fun _ _ _ h => h) (Or.inl ⟨by rfl, fun w' hS' => by obtain ⟨y0, y1, y2, y3, y4, y5, y6⟩ := HC9.out _ hS'; go_simp⟩) hS0 ?_
          change wpAnyH _ _ _ _ _ _ _ (Act.put _ (some 38) (.agg #[.int .i64 d.width, .int .i64 d.room, .slice A9 n9 cap9, .int .i64 d.hits, .int .i64 d.misses, .int .i64 d.clashes, .int .i64 d.evicted])) _
          simp only [Act.put, List.setIfInBounds_toArray, List.set_cons_zero, List.set_cons_succ]
          refine wpAnyH_take (i := 1) (v := .slice (some aa) asks.length ac) rfl (by kernel_rfl) (by kernel_rfl) (by kernel_rfl) (fun _ _ _ h => h) (Or.inl ⟨by rfl, fun w' hS' => by exact op_move rfl rfl⟩) hS0 ?_
          change wpAnyH _ _ _ _ _ _ _ (Act.put _ (some 39) (.slice (some aa) asks.length ac)) _
          simp only [Act.put, List.setIfInBounds_toArray, List.set_cons_zero, List.set_cons_succ]
          refine wpAnyH_take (i := 2) (v := .int .i64 (k : Int)) rfl (by kernel_rfl) (by kernel_rfl) (by kernel_rfl) (fun _ _ _ h => h) (Or.inl ⟨by rfl, fun w' hS' => by exact op_move rfl rfl⟩) hS0 ?_
          change wpAnyH _ _ _ _ _ _ _ (Act.put _ (some 40) (.int .i64 (k : Int))) _
          simp only [Act.put, List.setIfInBounds_toArray, List.set_cons_zero, List.set_cons_succ]
          refine wpAnyH_take (i := 3) (v := .pointer (some (aa.add (k * 3)))) rfl (by kernel_rfl) (by kernel_rfl) (by kernel_rfl) (fun _ _ _ h => h) (Or.inl ⟨by rfl, fun w' hS' => by go_simp⟩) hS0 ?_
          change wpAnyH _ _ _ _ _ _ _ (Act.put _ (some 41) (.pointer (some (aa.add (k * 3))))) _
          simp only [Act.put, List.setIfInBounds_toArray, List.set_cons_zero, List.set_cons_succ]
          refine wpAnyH_take (i := 4) (v := .pointer (some (aa.add (k * 3)))) rfl (by kernel_rfl) (by kernel_rfl) (by kernel_rfl) (fun _ _ _ h => h) (Or.inl ⟨by rfl, fun w' hS' => by go_simp⟩) hS0 ?_
          change wpAnyH _ _ _ _ _ _ _ (Act.put _ (some 42) (.pointer (some (aa.add (k * 3))))) _
          simp only [Act.put, List.setIfInBounds_toArray, List.set_cons_zero, List.set_cons_succ]
          refine wpAnyH_take (i := 5) (v := .int .i64 z.1) rfl (by kernel_rfl) (by kernel_rfl) (by kernel_rfl) (fun _ _ _ h => h) (Or.inl ⟨by rfl, fun w' hS' => by obtain ⟨t0, t1, t2⟩ := HTZ.out _ hS'; go_simp⟩) hS0 ?_
          change wpAnyH _ _ _ _ _ _ _ (Act.put _ (some 43) (.int .i64 z.1)) _
          simp only [Act.put, List.setIfInBounds_toArray, List.set_cons_zero, List.set_cons_succ]
          refine wpAnyH_take (i := 7) (v := .slice (some aa) asks.length ac) rfl (by kernel_rfl) (by kernel_rfl) (by kernel_rfl) (fun _ _ _ h => h) (Or.inl ⟨by rfl, fun w' hS' => by exact op_move rfl rfl⟩) hS0 ?_
          change wpAnyH _ _ _ _ _ _ _ (Act.put _ (some 45) (.slice (some aa) asks.length ac)) _
          simp only [Act.put, List.setIfInBounds_toArray, List.set_cons_zero, List.set_cons_succ]
          refine wpAnyH_take (i := 8) (v := .int .i64 (k : Int)) rfl (by kernel_rfl) (by kernel_rfl) (by kernel_rfl) (fun _ _ _ h => h) (Or.inl ⟨by rfl, fun w' hS' => by exact op_move rfl rfl⟩) hS0 ?_
          change wpAnyH _ _ _ _ _ _ _ (Act.put _ (some 46) (.int .i64 (k : Int))) _
          simp only [Act.put, List.setIfInBounds_toArray, List.set_cons_zero, List.set_cons_succ]
          refine wpAnyH_take (i := 9) (v := .pointer (some (aa.add (k * 3)))) rfl (by kernel_rfl) (by kernel_rfl) (by kernel_rfl) (fun _ _ _ h => h) (Or.inl ⟨by rfl, fun w' hS' => by go_simp⟩) hS0 ?_
          change wpAnyH _ _ _ _ _ _ _ (Act.put _ (some 47) (.pointer (some (aa.add (k * 3))))) _
          simp only [Act.put, List.setIfInBounds_toArray, List.set_cons_zero, List.set_cons_succ]
          refine wpAnyH_take (i := 10) (v := .pointer (some ⟨(aa.add (k * 3)).block, (aa.add (k * 3)).off + 1, none⟩)) rfl (by kernel_rfl) (by kernel_rfl) (by kernel_rfl) (fun _ _ _ h => h) (Or.inl ⟨by rfl, fun w' hS' => by go_simp⟩) hS0 ?_
          change wpAnyH _ _ _ _ _ _ _ (Act.put _ (some 48) (.pointer (some ⟨(aa.add (k * 3)).block, (aa.add (k * 3)).off + 1, none⟩))) _
          simp only [Act.put, List.setIfInBounds_toArray, List.set_cons_zero, List.set_cons_succ]
          refine wpAnyH_take (i := 11) (v := .int .i64 z.2.1) rfl (by kernel_rfl) (by kernel_rfl) (by kernel_rfl) (fun _ _ _ h => h) (Or.inl ⟨by rfl, fun w' hS' => by obtain ⟨t0, t1, t2⟩ := HTZ.out _ hS'; go_simp⟩) hS0 ?_
          change wpAnyH _ _ _ _ _ _ _ (Act.put _ (some 49) (.int .i64 z.2.1)) _
          simp only [Act.put, List.setIfInBounds_toArray, List.set_cons_zero, List.set_cons_succ]
          refine wpAnyH_ready (rs := [6, 18]) (by kernel_rfl) (by simp) (AllReadyH.cons rfl (fun K hK => ?_) (AllReadyH.cons rfl (fun K hK => ?_) (AllReadyH.nil)))
          · skip
            go_simp
            refine (text_any z.1 _ HTF.out.1).mono ?_
            rintro e W1 ⟨rfl, hb3⟩
            refine hK.out _ _ (hS0.trans (hb3.mono hS0.size)) (fun hS2 => ?_)
            clear hK K
            simp only [List.setIfInBounds_toArray, List.set_cons_zero, List.set_cons_succ]
            refine wpAnyH_ready (rs := [12, 18]) (by kernel_rfl) (by simp) (AllReadyH.cons rfl (fun K hK => ?_) (AllReadyH.cons rfl (fun K hK => ?_) (AllReadyH.nil)))
            · skip
              go_simp
              refine (text_any z.2.1 _ HTF.out.2.1).mono ?_
              rintro e W4 ⟨rfl, hb6⟩
              refine hK.out _ _ (hS2.trans (hb6.mono hS2.size)) (fun hS5 => ?_)
              clear hK K
              simp only [List.setIfInBounds_toArray, List.set_cons_zero, List.set_cons_succ]
              refine wpAnyH_ready (rs := [13, 18]) (by kernel_rfl) (by simp) (AllReadyH.cons rfl (fun K hK => ?_) (AllReadyH.cons rfl (fun K hK => ?_) (AllReadyH.nil)))
              · skip
                go_simp
                refine (get_new d A9 n9 cap9 (textOf z.1) (textOf z.2.1) _ s d2 b HGM.out (HP9.out.up hS5) HN9.out HF9.out (text_le _) (text_le _)).mono ?_
                rintro e W7 ⟨A10, n11, cp12, rfl, hn13, hp14, hb9, hc15⟩
                refine hK.out _ _ (hS5.trans (hb9.mono hS5.size)) (fun hS8 => ?_)
                clear hK K
                simp only [List.setIfInBounds_toArray, List.set_cons_zero, List.set_cons_succ]
                refine wpAnyH_take (i := 14) (v := .tuple #[.string s, .agg #[.int .i64 d2.width, .int .i64 d2.room, .slice A10 n11 cp12, .int .i64 d2.hits, .int .i64 d2.misses, .int .i64 d2.clashes, .int .i64 d2.evicted], .int .i64 b]) rfl (by kernel_rfl) (by kernel_rfl) (by kernel_rfl) (fun _ _ _ h => h) (Or.inl ⟨by rfl, fun w' hS' => by exact op_move rfl rfl⟩) hS8 ?_
                change wpAnyH _ _ _ _ _ _ _ (Act.put _ (some 37) (.tuple #[.string s, .agg #[.int .i64 d2.width, .int .i64 d2.room, .slice A10 n11 cp12, .int .i64 d2.hits, .int .i64 d2.misses, .int .i64 d2.clashes, .int .i64 d2.evicted], .int .i64 b])) _
                simp only [Act.put, List.setIfInBounds_toArray, List.set_cons_zero, List.set_cons_succ]
                refine wpAnyH_take (i := 15) (v := .string s) rfl (by kernel_rfl) (by kernel_rfl) (by kernel_rfl) (fun _ _ _ h => h) (Or.inl ⟨by rfl, fun w' hS' => by go_simp⟩) hS8 ?_
                change wpAnyH _ _ _ _ _ _ _ (Act.put _ (some 52) (.string s)) _
                simp only [Act.put, List.setIfInBounds_toArray, List.set_cons_zero, List.set_cons_succ]
                refine wpAnyH_take (i := 16) (v := .agg #[.int .i64 d2.width, .int .i64 d2.room, .slice A10 n11 cp12, .int .i64 d2.hits, .int .i64 d2.misses, .int .i64 d2.clashes, .int .i64 d2.evicted]) rfl (by kernel_rfl) (by kernel_rfl) (by kernel_rfl) (fun _ _ _ h => h) (Or.inl ⟨by rfl, fun w' hS' => by go_simp⟩) hS8 ?_
                change wpAnyH _ _ _ _ _ _ _ (Act.put _ (some 53) (.agg #[.int .i64 d2.width, .int .i64 d2.room, .slice A10 n11 cp12, .int .i64 d2.hits, .int .i64 d2.misses, .int .i64 d2.clashes, .int .i64 d2.evicted])) _
                simp only [Act.put, List.setIfInBounds_toArray, List.set_cons_zero, List.set_cons_succ]
                refine wpAnyH_take (i := 17) (v := .int .i64 b) rfl (by kernel_rfl) (by kernel_rfl) (by kernel_rfl) (fun _ _ _ h => h) (Or.inl ⟨by rfl, fun w' hS' => by go_simp⟩) hS8 ?_
                change wpAnyH _ _ _ _ _ _ _ (Act.put _ (some 54) (.int .i64 b)) _
                simp only [Act.put, List.setIfInBounds_toArray, List.set_cons_zero, List.set_cons_succ]
                refine wpAnyH_ready (rs := [18]) (by kernel_rfl) (by simp) (AllReadyH.cons rfl (fun K hK => ?_) (AllReadyH.nil))
                · skip
                  obtain ⟨gs17, W16, hr20, hk21, hb19, hg22⟩ := op_allocC W7
                  refine step_op_run (hr20 _ _ rfl) rfl ?_
                  refine hK.out _ _ (hS8.trans (hb19.mono hS8.size)) (fun hS18 => ?_)
                  clear hK K
                  change wpAnyH _ _ _ _ _ _ _ (Act.put _ (some 12) (.pointer (some ⟨gs17, 0, none⟩))) _
                  simp only [Act.put, List.setIfInBounds_toArray, List.set_cons_zero, List.set_cons_succ]
                  refine wpAnyH_take (i := 19) (v := .string s) rfl (by kernel_rfl) (by kernel_rfl) (by kernel_rfl) (fun _ _ _ h => h) (Or.inl ⟨by rfl, fun w' hS' => by exact op_assign rfl rfl⟩) hS18 ?_
                  change wpAnyH _ _ _ _ _ _ _ (Act.put _ (some 11) (.string s)) _
                  simp only [Act.put, List.setIfInBounds_toArray, List.set_cons_zero, List.set_cons_succ]
                  refine wpAnyH_ready (rs := [20]) (by kernel_rfl) (by simp) (AllReadyH.cons rfl (fun K hK => ?_) (AllReadyH.nil))
                  · skip
                    obtain ⟨W23, hr25, hk26, hgr27⟩ := op_store7 hk21 (d2.width) (d2.room) A10 n11 cp12 (d2.hits) (d2.misses) (d2.clashes) (d2.evicted)
                    refine step_op_skip (hr25 _ _ _ _ rfl rfl rfl) rfl ?_
                    refine hK.out _ _ (hS18.grown hgr27 hS18.size (fun b e => by injection e with e; rw [← e]; exact Nat.le_trans (hS8).size hg22)) (fun hS24 => ?_)
                    clear hK K
                    change wpAnyH _ _ _ _ _ _ _ (Act.put _ none (undef)) _
                    simp only [Act.put]
                    refine wpAnyH_take (i := 21) (v := .int .i64 b) rfl (by kernel_rfl) (by kernel_rfl) (by kernel_rfl) (fun _ _ _ h => h) (Or.inl ⟨by rfl, fun w' hS' => by exact op_assign rfl rfl⟩) hS24 ?_
                    change wpAnyH _ _ _ _ _ _ _ (Act.put _ (some 13) (.int .i64 b)) _
                    simp only [Act.put, List.setIfInBounds_toArray, List.set_cons_zero, List.set_cons_succ]
                    refine wpAnyH_done (by kernel_rfl) ?_ _
                    refine NoPanic.normal ?_
                    go_wp2_with fail
                    go_meet
                    exact ⟨gs17, A10, n11, cp12, rfl, rfl, rfl, hk26, (((hp14.add hg22).up hb19).kept hgr27 (Or.inr rfl)).less (fun _ hb => .inl (Nat.lt_of_lt_of_le hb (hS5).size)), hn13, hc15, hS24, Nat.le_trans (hS8).size hg22⟩
              · skip
                obtain ⟨gs29, W28, hr32, hk33, hb31, hg34⟩ := op_allocC W4
                refine step_op_run (hr32 _ _ rfl) rfl ?_
                refine hK.out _ _ (hS5.trans (hb31.mono hS5.size)) (fun hS30 => ?_)
                clear hK K
                change wpAnyH _ _ _ _ _ _ _ (Act.put _ (some 12) (.pointer (some ⟨gs29, 0, none⟩))) _
                simp only [Act.put, List.setIfInBounds_toArray, List.set_cons_zero, List.set_cons_succ]
                refine wpAnyH_ready (rs := [13]) (by kernel_rfl) (by simp) (AllReadyH.cons rfl (fun K hK => ?_) (AllReadyH.nil))
                · skip
                  go_simp
                  refine (get_new d A9 n9 cap9 (textOf z.1) (textOf z.2.1) _ s d2 b HGM.out (HP9.out.up hS30) HN9.out HF9.out (text_le _) (text_le _)).mono ?_
                  rintro e W35 ⟨A38, n39, cp40, rfl, hn41, hp42, hb37, hc43⟩
                  refine hK.out _ _ (hS30.trans (hb37.mono hS30.size)) (fun hS36 => ?_)
                  clear hK K
                  simp only [List.setIfInBounds_toArray, List.set_cons_zero, List.set_cons_succ]
                  refine wpAnyH_take (i := 14) (v := .tuple #[.string s, .agg #[.int .i64 d2.width, .int .i64 d2.room, .slice A38 n39 cp40, .int .i64 d2.hits, .int .i64 d2.misses, .int .i64 d2.clashes, .int .i64 d2.evicted], .int .i64 b]) rfl (by kernel_rfl) (by kernel_rfl) (by kernel_rfl) (fun _ _ _ h => h) (Or.inl ⟨by rfl, fun w' hS' => by exact op_move rfl rfl⟩) hS36 ?_
                  change wpAnyH _ _ _ _ _ _ _ (Act.put _ (some 37) (.tuple #[.string s, .agg #[.int .i64 d2.width, .int .i64 d2.room, .slice A38 n39 cp40, .int .i64 d2.hits, .int .i64 d2.misses, .int .i64 d2.clashes, .int .i64 d2.evicted], .int .i64 b])) _
                  simp only [Act.put, List.setIfInBounds_toArray, List.set_cons_zero, List.set_cons_succ]
                  refine wpAnyH_take (i := 15) (v := .string s) rfl (by kernel_rfl) (by kernel_rfl) (by kernel_rfl) (fun _ _ _ h => h) (Or.inl ⟨by rfl, fun w' hS' => by go_simp⟩) hS36 ?_
                  change wpAnyH _ _ _ _ _ _ _ (Act.put _ (some 52) (.string s)) _
                  simp only [Act.put, List.setIfInBounds_toArray, List.set_cons_zero, List.set_cons_succ]
                  refine wpAnyH_take (i := 16) (v := .agg #[.int .i64 d2.width, .int .i64 d2.room, .slice A38 n39 cp40, .int .i64 d2.hits, .int .i64 d2.misses, .int .i64 d2.clashes, .int .i64 d2.evicted]) rfl (by kernel_rfl) (by kernel_rfl) (by kernel_rfl) (fun _ _ _ h => h) (Or.inl ⟨by rfl, fun w' hS' => by go_simp⟩) hS36 ?_
                  change wpAnyH _ _ _ _ _ _ _ (Act.put _ (some 53) (.agg #[.int .i64 d2.width, .int .i64 d2.room, .slice A38 n39 cp40, .int .i64 d2.hits, .int .i64 d2.misses, .int .i64 d2.clashes, .int .i64 d2.evicted])) _
                  simp only [Act.put, List.setIfInBounds_toArray, List.set_cons_zero, List.set_cons_succ]
                  refine wpAnyH_take (i := 17) (v := .int .i64 b) rfl (by kernel_rfl) (by kernel_rfl) (by kernel_rfl) (fun _ _ _ h => h) (Or.inl ⟨by rfl, fun w' hS' => by go_simp⟩) hS36 ?_
                  change wpAnyH _ _ _ _ _ _ _ (Act.put _ (some 54) (.int .i64 b)) _
                  simp only [Act.put, List.setIfInBounds_toArray, List.set_cons_zero, List.set_cons_succ]
                  refine wpAnyH_take (i := 19) (v := .string s) rfl (by kernel_rfl) (by kernel_rfl) (by kernel_rfl) (fun _ _ _ h => h) (Or.inl ⟨by rfl, fun w' hS' => by exact op_assign rfl rfl⟩) hS36 ?_
                  change wpAnyH _ _ _ _ _ _ _ (Act.put _ (some 11) (.string s)) _
                  simp only [Act.put, List.setIfInBounds_toArray, List.set_cons_zero, List.set_cons_succ]
                  refine wpAnyH_ready (rs := [20]) (by kernel_rfl) (by simp) (AllReadyH.cons rfl (fun K hK => ?_) (AllReadyH.nil))
                  · skip
                    obtain ⟨W44, hr46, hk47, hgr48⟩ := op_store7 (Blk.below hk33 hb37 hk33.lt) (d2.width) (d2.room) A38 n39 cp40 (d2.hits) (d2.misses) (d2.clashes) (d2.evicted)
                    refine step_op_skip (hr46 _ _ _ _ rfl rfl rfl) rfl ?_
                    refine hK.out _ _ (hS36.grown hgr48 hS36.size (fun b e => by injection e with e; rw [← e]; exact Nat.le_trans (hS5).size hg34)) (fun hS45 => ?_)
                    clear hK K
                    change wpAnyH _ _ _ _ _ _ _ (Act.put _ none (undef)) _
                    simp only [Act.put]
                    refine wpAnyH_take (i := 21) (v := .int .i64 b) rfl (by kernel_rfl) (by kernel_rfl) (by kernel_rfl) (fun _ _ _ h => h) (Or.inl ⟨by rfl, fun w' hS' => by exact op_assign rfl rfl⟩) hS45 ?_
                    change wpAnyH _ _ _ _ _ _ _ (Act.put _ (some 13) (.int .i64 b)) _
                    simp only [Act.put, List.setIfInBounds_toArray, List.set_cons_zero, List.set_cons_succ]
                    refine wpAnyH_done (by kernel_rfl) ?_ _
                    refine NoPanic.normal ?_
                    go_wp2_with fail
                    go_meet
                    exact ⟨gs29, A38, n39, cp40, rfl, rfl, rfl, hk47, (hp42.kept hgr48 ((hk33).lt)).less (fun _ hb => Nat.lt_of_lt_of_le hb (hS30).size), hn41, hc43, hS45, Nat.le_trans (hS5).size hg34⟩
            · skip
              obtain ⟨gs50, W49, hr53, hk54, hb52, hg55⟩ := op_allocC W1
              refine step_op_run (hr53 _ _ rfl) rfl ?_
              refine hK.out _ _ (hS2.trans (hb52.mono hS2.size)) (fun hS51 => ?_)
              clear hK K
              change wpAnyH _ _ _ _ _ _ _ (Act.put _ (some 12) (.pointer (some ⟨gs50, 0, none⟩))) _
              simp only [Act.put, List.setIfInBounds_toArray, List.set_cons_zero, List.set_cons_succ]
              refine wpAnyH_ready (rs := [12]) (by kernel_rfl) (by simp) (AllReadyH.cons rfl (fun K hK => ?_) (AllReadyH.nil))
              · skip
                go_simp
                refine (text_any z.2.1 _ HTF.out.2.1).mono ?_
                rintro e W56 ⟨rfl, hb58⟩
                refine hK.out _ _ (hS51.trans (hb58.mono hS51.size)) (fun hS57 => ?_)
                clear hK K
                simp only [List.setIfInBounds_toArray, List.set_cons_zero, List.set_cons_succ]
                refine wpAnyH_ready (rs := [13]) (by kernel_rfl) (by simp) (AllReadyH.cons rfl (fun K hK => ?_) (AllReadyH.nil))
                · skip
                  go_simp
                  refine (get_new d A9 n9 cap9 (textOf z.1) (textOf z.2.1) _ s d2 b HGM.out (HP9.out.up hS57) HN9.out HF9.out (text_le _) (text_le _)).mono ?_
                  rintro e W59 ⟨A62, n63, cp64, rfl, hn65, hp66, hb61, hc67⟩
                  refine hK.out _ _ (hS57.trans (hb61.mono hS57.size)) (fun hS60 => ?_)
                  clear hK K
                  simp only [List.setIfInBounds_toArray, List.set_cons_zero, List.set_cons_succ]
                  refine wpAnyH_take (i := 14) (v := .tuple #[.string s, .agg #[.int .i64 d2.width, .int .i64 d2.room, .slice A62 n63 cp64, .int .i64 d2.hits, .int .i64 d2.misses, .int .i64 d2.clashes, .int .i64 d2.evicted], .int .i64 b]) rfl (by kernel_rfl) (by kernel_rfl) (by kernel_rfl) (fun _ _ _ h => h) (Or.inl ⟨by rfl, fun w' hS' => by exact op_move rfl rfl⟩) hS60 ?_
                  change wpAnyH _ _ _ _ _ _ _ (Act.put _ (some 37) (.tuple #[.string s, .agg #[.int .i64 d2.width, .int .i64 d2.room, .slice A62 n63 cp64, .int .i64 d2.hits, .int .i64 d2.misses, .int .i64 d2.clashes, .int .i64 d2.evicted], .int .i64 b])) _
                  simp only [Act.put, List.setIfInBounds_toArray, List.set_cons_zero, List.set_cons_succ]
                  refine wpAnyH_take (i := 15) (v := .string s) rfl (by kernel_rfl) (by kernel_rfl) (by kernel_rfl) (fun _ _ _ h => h) (Or.inl ⟨by rfl, fun w' hS' => by go_simp⟩) hS60 ?_
                  change wpAnyH _ _ _ _ _ _ _ (Act.put _ (some 52) (.string s)) _
                  simp only [Act.put, List.setIfInBounds_toArray, List.set_cons_zero, List.set_cons_succ]
                  refine wpAnyH_take (i := 16) (v := .agg #[.int .i64 d2.width, .int .i64 d2.room, .slice A62 n63 cp64, .int .i64 d2.hits, .int .i64 d2.misses, .int .i64 d2.clashes, .int .i64 d2.evicted]) rfl (by kernel_rfl) (by kernel_rfl) (by kernel_rfl) (fun _ _ _ h => h) (Or.inl ⟨by rfl, fun w' hS' => by go_simp⟩) hS60 ?_
                  change wpAnyH _ _ _ _ _ _ _ (Act.put _ (some 53) (.agg #[.int .i64 d2.width, .int .i64 d2.room, .slice A62 n63 cp64, .int .i64 d2.hits, .int .i64 d2.misses, .int .i64 d2.clashes, .int .i64 d2.evicted])) _
                  simp only [Act.put, List.setIfInBounds_toArray, List.set_cons_zero, List.set_cons_succ]
                  refine wpAnyH_take (i := 17) (v := .int .i64 b) rfl (by kernel_rfl) (by kernel_rfl) (by kernel_rfl) (fun _ _ _ h => h) (Or.inl ⟨by rfl, fun w' hS' => by go_simp⟩) hS60 ?_
                  change wpAnyH _ _ _ _ _ _ _ (Act.put _ (some 54) (.int .i64 b)) _
                  simp only [Act.put, List.setIfInBounds_toArray, List.set_cons_zero, List.set_cons_succ]
                  refine wpAnyH_take (i := 19) (v := .string s) rfl (by kernel_rfl) (by kernel_rfl) (by kernel_rfl) (fun _ _ _ h => h) (Or.inl ⟨by rfl, fun w' hS' => by exact op_assign rfl rfl⟩) hS60 ?_
                  change wpAnyH _ _ _ _ _ _ _ (Act.put _ (some 11) (.string s)) _
                  simp only [Act.put, List.setIfInBounds_toArray, List.set_cons_zero, List.set_cons_succ]
                  refine wpAnyH_ready (rs := [20]) (by kernel_rfl) (by simp) (AllReadyH.cons rfl (fun K hK => ?_) (AllReadyH.nil))
                  · skip
                    obtain ⟨W68, hr70, hk71, hgr72⟩ := op_store7 (Blk.below (Blk.below hk54 hb58 hk54.lt) hb61 (Blk.below hk54 hb58 hk54.lt).lt) (d2.width) (d2.room) A62 n63 cp64 (d2.hits) (d2.misses) (d2.clashes) (d2.evicted)
                    refine step_op_skip (hr70 _ _ _ _ rfl rfl rfl) rfl ?_
                    refine hK.out _ _ (hS60.grown hgr72 hS60.size (fun b e => by injection e with e; rw [← e]; exact Nat.le_trans (hS2).size hg55)) (fun hS69 => ?_)
                    clear hK K
                    change wpAnyH _ _ _ _ _ _ _ (Act.put _ none (undef)) _
                    simp only [Act.put]
                    refine wpAnyH_take (i := 21) (v := .int .i64 b) rfl (by kernel_rfl) (by kernel_rfl) (by kernel_rfl) (fun _ _ _ h => h) (Or.inl ⟨by rfl, fun w' hS' => by exact op_assign rfl rfl⟩) hS69 ?_
                    change wpAnyH _ _ _ _ _ _ _ (Act.put _ (some 13) (.int .i64 b)) _
                    simp only [Act.put, List.setIfInBounds_toArray, List.set_cons_zero, List.set_cons_succ]
                    refine wpAnyH_done (by kernel_rfl) ?_ _
                    refine NoPanic.normal ?_
                    go_wp2_with fail
                    go_meet
                    exact ⟨gs50, A62, n63, cp64, rfl, rfl, rfl, hk71, (hp66.kept hgr72 (((Blk.below hk54 hb58 hk54.lt)).lt)).less (fun _ hb => Nat.lt_of_lt_of_le hb (hS57).size), hn65, hc67, hS69, Nat.le_trans (hS2).size hg55⟩
          · skip
            obtain ⟨gs74, W73, hr77, hk78, hb76, hg79⟩ := op_allocC w4.drew
            refine step_op_run (hr77 _ _ rfl) rfl ?_
            refine hK.out _ _ (hS0.trans (hb76.mono hS0.size)) (fun hS75 => ?_)
            clear hK K
            change wpAnyH _ _ _ _ _ _ _ (Act.put _ (some 12) (.pointer (some ⟨gs74, 0, none⟩))) _
            simp only [Act.put, List.setIfInBounds_toArray, List.set_cons_zero, List.set_cons_succ]
            refine wpAnyH_ready (rs := [6]) (by kernel_rfl) (by simp) (AllReadyH.cons rfl (fun K hK => ?_) (AllReadyH.nil))
            · skip
              go_simp
              refine (text_any z.1 _ HTF.out.1).mono ?_
              rintro e W80 ⟨rfl, hb82⟩
              refine hK.out _ _ (hS75.trans (hb82.mono hS75.size)) (fun hS81 => ?_)
              clear hK K
              simp only [List.setIfInBounds_toArray, List.set_cons_zero, List.set_cons_succ]
              refine wpAnyH_ready (rs := [12]) (by kernel_rfl) (by simp) (AllReadyH.cons rfl (fun K hK => ?_) (AllReadyH.nil))
              · skip
                go_simp
                refine (text_any z.2.1 _ HTF.out.2.1).mono ?_
                rintro e W83 ⟨rfl, hb85⟩
                refine hK.out _ _ (hS81.trans (hb85.mono hS81.size)) (fun hS84 => ?_)
                clear hK K
                simp only [List.setIfInBounds_toArray, List.set_cons_zero, List.set_cons_succ]
                refine wpAnyH_ready (rs := [13]) (by kernel_rfl) (by simp) (AllReadyH.cons rfl (fun K hK => ?_) (AllReadyH.nil))
                · skip
                  go_simp
                  refine (get_new d A9 n9 cap9 (textOf z.1) (textOf z.2.1) _ s d2 b HGM.out (HP9.out.up hS84) HN9.out HF9.out (text_le _) (text_le _)).mono ?_
                  rintro e W86 ⟨A89, n90, cp91, rfl, hn92, hp93, hb88, hc94⟩
                  refine hK.out _ _ (hS84.trans (hb88.mono hS84.size)) (fun hS87 => ?_)
                  clear hK K
                  simp only [List.setIfInBounds_toArray, List.set_cons_zero, List.set_cons_succ]
                  refine wpAnyH_take (i := 14) (v := .tuple #[.string s, .agg #[.int .i64 d2.width, .int .i64 d2.room, .slice A89 n90 cp91, .int .i64 d2.hits, .int .i64 d2.misses, .int .i64 d2.clashes, .int .i64 d2.evicted], .int .i64 b]) rfl (by kernel_rfl) (by kernel_rfl) (by kernel_rfl) (fun _ _ _ h => h) (Or.inl ⟨by rfl, fun w' hS' => by exact op_move rfl rfl⟩) hS87 ?_
                  change wpAnyH _ _ _ _ _ _ _ (Act.put _ (some 37) (.tuple #[.string s, .agg #[.int .i64 d2.width, .int .i64 d2.room, .slice A89 n90 cp91, .int .i64 d2.hits, .int .i64 d2.misses, .int .i64 d2.clashes, .int .i64 d2.evicted], .int .i64 b])) _
                  simp only [Act.put, List.setIfInBounds_toArray, List.set_cons_zero, List.set_cons_succ]
                  refine wpAnyH_take (i := 15) (v := .string s) rfl (by kernel_rfl) (by kernel_rfl) (by kernel_rfl) (fun _ _ _ h => h) (Or.inl ⟨by rfl, fun w' hS' => by go_simp⟩) hS87 ?_
                  change wpAnyH _ _ _ _ _ _ _ (Act.put _ (some 52) (.string s)) _
                  simp only [Act.put, List.setIfInBounds_toArray, List.set_cons_zero, List.set_cons_succ]
                  refine wpAnyH_take (i := 16) (v := .agg #[.int .i64 d2.width, .int .i64 d2.room, .slice A89 n90 cp91, .int .i64 d2.hits, .int .i64 d2.misses, .int .i64 d2.clashes, .int .i64 d2.evicted]) rfl (by kernel_rfl) (by kernel_rfl) (by kernel_rfl) (fun _ _ _ h => h) (Or.inl ⟨by rfl, fun w' hS' => by go_simp⟩) hS87 ?_
                  change wpAnyH _ _ _ _ _ _ _ (Act.put _ (some 53) (.agg #[.int .i64 d2.width, .int .i64 d2.room, .slice A89 n90 cp91, .int .i64 d2.hits, .int .i64 d2.misses, .int .i64 d2.clashes, .int .i64 d2.evicted])) _
                  simp only [Act.put, List.setIfInBounds_toArray, List.set_cons_zero, List.set_cons_succ]
                  refine wpAnyH_take (i := 17) (v := .int .i64 b) rfl (by kernel_rfl) (by kernel_rfl) (by kernel_rfl) (fun _ _ _ h => h) (Or.inl ⟨by rfl, fun w' hS' => by go_simp⟩) hS87 ?_
                  change wpAnyH _ _ _ _ _ _ _ (Act.put _ (some 54) (.int .i64 b)) _
                  simp only [Act.put, List.setIfInBounds_toArray, List.set_cons_zero, List.set_cons_succ]
                  refine wpAnyH_take (i := 19) (v := .string s) rfl (by kernel_rfl) (by kernel_rfl) (by kernel_rfl) (fun _ _ _ h => h) (Or.inl ⟨by rfl, fun w' hS' => by exact op_assign rfl rfl⟩) hS87 ?_
                  change wpAnyH _ _ _ _ _ _ _ (Act.put _ (some 11) (.string s)) _
                  simp only [Act.put, List.setIfInBounds_toArray, List.set_cons_zero, List.set_cons_succ]
                  refine wpAnyH_ready (rs := [20]) (by kernel_rfl) (by simp) (AllReadyH.cons rfl (fun K hK => ?_) (AllReadyH.nil))
                  · skip
                    obtain ⟨W95, hr97, hk98, hgr99⟩ := op_store7 (Blk.below (Blk.below (Blk.below hk78 hb82 hk78.lt) hb85 (Blk.below hk78 hb82 hk78.lt).lt) hb88 (Blk.below (Blk.below hk78 hb82 hk78.lt) hb85 (Blk.below hk78 hb82 hk78.lt).lt).lt) (d2.width) (d2.room) A89 n90 cp91 (d2.hits) (d2.misses) (d2.clashes) (d2.evicted)
                    refine step_op_skip (hr97 _ _ _ _ rfl rfl rfl) rfl ?_
                    refine hK.out _ _ (hS87.grown hgr99 hS87.size (fun b e => by injection e with e; rw [← e]; exact Nat.le_trans (hS0).size hg79)) (fun hS96 => ?_)
                    clear hK K
                    change wpAnyH _ _ _ _ _ _ _ (Act.put _ none (undef)) _
                    simp only [Act.put]
                    refine wpAnyH_take (i := 21) (v := .int .i64 b) rfl (by kernel_rfl) (by kernel_rfl) (by kernel_rfl) (fun _ _ _ h => h) (Or.inl ⟨by rfl, fun w' hS' => by exact op_assign rfl rfl⟩) hS96 ?_
                    change wpAnyH _ _ _ _ _ _ _ (Act.put _ (some 13) (.int .i64 b)) _
                    simp only [Act.put, List.setIfInBounds_toArray, List.set_cons_zero, List.set_cons_succ]
                    refine wpAnyH_done (by kernel_rfl) ?_ _
                    refine NoPanic.normal ?_
                    go_wp2_with fail
                    go_meet
                    exact ⟨gs74, A89, n90, cp91, rfl, rfl, rfl, hk98, (hp93.kept hgr99 (((Blk.below (Blk.below hk78 hb82 hk78.lt) hb85 (Blk.below hk78 hb82 hk78.lt).lt)).lt)).less (fun _ hb => Nat.lt_of_lt_of_le hb (hS84).size), hn92, hc94, hS96, Nat.le_trans (hS0).size hg79⟩
        case rest =>
          obtain ⟨gs, A6, n6, c6, rfl, rfl, rfl, hbs, hp6, hn6, hc6, hbw, hge⟩ := hcut
          have HBC := Lib.hid (Blk.below HB9.out hbw HB9.out.lt)
          have HBS := Lib.hid hbs
          have HP6 := Lib.hid hp6
          have HN6 := Lib.hid hn6
          have HBW := Lib.hid hbw
          have hne : gs ≠ g9 := by have := HB9.out.lt; omega
          obtain ⟨x0, x1, x2, x3, x4, x5, x6⟩ := box7 HBS.out (Below.refl _ _)
          obtain ⟨y0, y1, y2, y3, y4, y5, y6⟩ := box7 HBC.out (Below.refl _ _)
          have q0 := Blk.frozen HBC.out 0
          have q1 := Blk.frozen HBC.out 1
          have q2 := Blk.frozen HBC.out 2
          have q3 := Blk.frozen HBC.out 3
          have q4 := Blk.frozen HBC.out 4
          have q5 := Blk.frozen HBC.out 5
          have q6 := Blk.frozen HBC.out 6
          have hl9 := HBC.out.lt
          have HS7 := Lib.hid (set7 HBC.out d2.width d2.room A6 n6 c6 d2.hits d2.misses d2.clashes d2.evicted)
          have HI2 : Hid (Below w3.heap.size w3 _ ∧ Blk _ g8 28 #[.int .i64 c.width, .int .i64 c.room, .slice A8 n8 cap8, .int .i64 c.hits, .int .i64 c.misses, .int .i64 c.clashes, .int .i64 c.evicted] ∧ Boxed (fun b => b = g9) _ g9 d2) := Lib.hid
            ⟨(below_step HI.out.1 hbw).grown HS7.out.2 (Nat.le_trans HI.out.1.size hbw.size) (fun b e => by injection e with e; rw [← e]; exact HG.out.2.1),
             Blk.grown (Blk.below HI.out.2.1 hbw HI.out.2.1.lt) HS7.out.2 (fun e => HG.out.2.2 (Option.some.inj e)),
             A6, n6, c6, HS7.out.1, (hp6.kept HS7.out.2 (show g9 < w4.heap.size from HB9.out.lt)).less (fun b hb => by rw [hb]; exact HB9.out.lt), HN6.out, hc6⟩
          clear hbs hp6 hn6 hbw HS7
          rcases hb010 with rfl | rfl
          · go_wp2_with fail
            go_roundw
            case rel => exact ⟨k + 1, d2, by omega, by omega, by go_num, HQ2, HI2⟩
            case measure => simp [intOf]; omega
          · go_wp2_with fail
            go_roundw
            case rel => exact ⟨k + 1, d2, by omega, by omega, by go_num, HQ2, HI2⟩
            case measure => simp [intOf]; omega
      · have HFIN : Hid (∃ d, Asked c d 20 ∧ Below w3.heap.size w3 w4 ∧ Blk w4 g8 28 #[.int .i64 c.width, .int .i64 c.room, .slice A8 n8 cap8, .int .i64 c.hits, .int .i64 c.misses, .int .i64 c.clashes, .int .i64 c.evicted] ∧ Boxed (fun b => b = g9) w4 g9 d) := Lib.hid ⟨d, HQ.out, HI.out⟩
        by_cases g2 : k < asks.length
        · have g3 : ¬ k < 30 := fun h => g1 ⟨g2, h⟩
          clear g1
          go_wp2_with fail
          go_meet
          exact HFIN.out
        · clear g1
          go_wp2_with fail
          go_meet
          exact HFIN.out
  case rest =>
    obtain ⟨d, hq, hw, hb8, A9, n9, cap9, hb9, hp9, hn9, hc9⟩ := hcut
    obtain ⟨wL, rfl⟩ : ∃ wL, wL = wc := ⟨_, rfl⟩
    have HQ := Lib.hid hq
    have HWL := Lib.hid (below_step HW3.out hw)
    have HB8 := Lib.hid hb8
    have HB9 := Lib.hid hb9
    have HP8 : Hid (PartsAt (fun _ => False) wL A8 c.parts) := Lib.hid (HP3.out.up hw)
    have HP9 := Lib.hid hp9
    have HN9 := Lib.hid hn9
    have HF8 := Lib.hid (HGC.out.fit (by omega))
    have HF9 := Lib.hid (hq.good.fit (by omega))
    clear hq hw hb8 hb9 hp9 hn9
    go_wp2_with fail
    go_loopw [14] (fun s14 wr => ∃ i : Nat, i ≤ 6 ∧ s14 = .int .i64 i ∧ Hid (Below wL.heap.size wL wr)) (fun s14 _ => 6 - (intOf s14).toNat)
    case atStart => exact ⟨0, by omega, rfl, Lib.hid (Below.refl _ _)⟩
    case round =>
      obtain ⟨i, hi, rfl, HB5⟩ := hrel
      obtain ⟨w5b, rfl⟩ : ∃ w5b, w5b = wr := ⟨_, rfl⟩
      by_cases g1 : i < 6
      · have gd : decide ((i : Int) < 6) = true := decide_eq_true (by omega)
        go_wp2_with fail
        go_loopw [15] (fun s15 wr => ∃ k : Nat, k ≤ 6 ∧ s15 = .int .i64 k ∧ Hid (Below wL.heap.size wL wr)) (fun s15 _ => 6 - (intOf s15).toNat)
        case atStart => exact ⟨0, by omega, rfl, HB5⟩
        case round =>
          obtain ⟨k, hk, rfl, HB6⟩ := hrel
          obtain ⟨w6, rfl⟩ : ∃ w6, w6 = wr := ⟨_, rfl⟩
          by_cases g2 : k < 6
          · have gd2 : decide ((k : Int) < 6) = true := decide_eq_true (by omega)
            have HI6 : Hid (I64 (i : Int)) := Lib.hid (small_i64 (by omega))
            have HK6 : Hid (I64 (k : Int)) := Lib.hid (small_i64 (by omega))
            have HC8 : Hid (∀ W, Below w6.heap.size w6 W → W.cell? ⟨g8, 0, none⟩ = some (.int .i64 c.width) ∧ W.cell? ⟨g8, 1, none⟩ = some (.int .i64 c.room) ∧ W.cell? ⟨g8, 2, none⟩ = some (.slice A8 n8 cap8) ∧ W.cell? ⟨g8, 3, none⟩ = some (.int .i64 c.hits) ∧ W.cell? ⟨g8, 4, none⟩ = some (.int .i64 c.misses) ∧ W.cell? ⟨g8, 5, none⟩ = some (.int .i64 c.clashes) ∧ W.cell? ⟨g8, 6, none⟩ = some (.int .i64 c.evicted)) := Lib.hid fun W hW => box7 HB8.out (below_step HB6.out hW)
            obtain ⟨s, e1, b, hg1⟩ : ∃ s d2 b, getC c (textOf (i : Int)) (textOf (k : Int)) = (s, d2, b) := ⟨_, _, _, rfl⟩
            obtain ⟨e2, hg2⟩ : ∃ e2, getC d (textOf (i : Int)) (textOf (k : Int)) = (s, e2, b) := by
              have := get_told HGC.out.right HQ.out.good.right (l := textOf (i : Int)) (r := textOf (k : Int)) (HQ.out.at_ _ _).symm
              rw [hg1] at this
              obtain ⟨t1, t2⟩ := this
              exact ⟨(getC d (textOf (i : Int)) (textOf (k : Int))).2.1, Prod.ext t1.symm (Prod.ext rfl t2.symm)⟩
            have HG1 := Lib.hid hg1
            have HG2 := Lib.hid hg2
            clear hg1 hg2
            go_wp2_with fail
            go_cut [16, 17, 18] (fun s16 s17 s18 wx => GetCut w6 s e1 b s16 s17 s18 wx)
            case first =>
              refine wp_region_noPanic ?_
              refine wp_region_held_drew (S := fun W => Below w6.heap.size w6 W) (by kernel_rfl) ((Below.refl w6.heap.size w6).drew) (fun hS0 => ?_)
              change wpAnyH _ _ _ _ _ 14 #[false, false, false, false, false, false, false, false, false, false, false, false, false, false] _ (World.drew _)
              refine wpAnyH_take (i := 0) (v := .agg #[.int .i64 c.width, .int .i64 c.room, .slice A8 n8 cap8, .int .i64 c.hits, .int .i64 c.misses, .int .i64 c.clashes, .int .i64 c.evicted]) rfl (by kernel_rfl) (by kernel_rfl) (by kernel_rfl) (fun _ _ _ h => h) (Or.inl ⟨by rfl, fun w' hS' => by obtain ⟨y0, y1, y2, y3, y4, y5, y6⟩ := HC8.out _ hS'; go_simp⟩) hS0 ?_
              change wpAnyH _ _ _ _ _ _ _ (Act.put _ (some 71) (.agg #[.int .i64 c.width, .int .i64 c.room, .slice A8 n8 cap8, .int .i64 c.hits, .int .i64 c.misses, .int .i64 c.clashes, .int .i64 c.evicted])) _
              simp only [Act.put, List.setIfInBounds_toArray, List.set_cons_zero, List.set_cons_succ]
              refine wpAnyH_take (i := 1) (v := .int .i64 (i : Int)) rfl (by kernel_rfl) (by kernel_rfl) (by kernel_rfl) (fun _ _ _ h => h) (Or.inl ⟨by rfl, fun w' hS' => by exact op_move rfl rfl⟩) hS0 ?_
              change wpAnyH _ _ _ _ _ _ _ (Act.put _ (some 72) (.int .i64 (i : Int))) _
              simp only [Act.put, List.setIfInBounds_toArray, List.set_cons_zero, List.set_cons_succ]
              refine wpAnyH_take (i := 3) (v := .int .i64 (k : Int)) rfl (by kernel_rfl) (by kernel_rfl) (by kernel_rfl) (fun _ _ _ h => h) (Or.inl ⟨by rfl, fun w' hS' => by exact op_move rfl rfl⟩) hS0 ?_
              change wpAnyH _ _ _ _ _ _ _ (Act.put _ (some 74) (.int .i64 (k : Int))) _
              simp only [Act.put, List.setIfInBounds_toArray, List.set_cons_zero, List.set_cons_succ]
              refine wpAnyH_ready (rs := [2, 10]) (by kernel_rfl) (by simp) (AllReadyH.cons rfl (fun K hK => ?_) (AllReadyH.cons rfl (fun K hK => ?_) (AllReadyH.nil)))
              · skip
                go_simp
                refine (text_any (i : Int) _ HI6.out).mono ?_
                rintro e W1 ⟨rfl, hb3⟩
                refine hK.out _ _ (hS0.trans (hb3.mono hS0.size)) (fun hS2 => ?_)
                clear hK K
                simp only [List.setIfInBounds_toArray, List.set_cons_zero, List.set_cons_succ]
                refine wpAnyH_ready (rs := [4, 10]) (by kernel_rfl) (by simp) (AllReadyH.cons rfl (fun K hK => ?_) (AllReadyH.cons rfl (fun K hK => ?_) (AllReadyH.nil)))
                · skip
                  go_simp
                  refine (text_any (k : Int) _ HK6.out).mono ?_
                  rintro e W4 ⟨rfl, hb6⟩
                  refine hK.out _ _ (hS2.trans (hb6.mono hS2.size)) (fun hS5 => ?_)
                  clear hK K
                  simp only [List.setIfInBounds_toArray, List.set_cons_zero, List.set_cons_succ]
                  refine wpAnyH_ready (rs := [5, 10]) (by kernel_rfl) (by simp) (AllReadyH.cons rfl (fun K hK => ?_) (AllReadyH.cons rfl (fun K hK => ?_) (AllReadyH.nil)))
                  · skip
                    go_simp
                    refine (get_new c A8 n8 cap8 (textOf i) (textOf k) _ s e1 b HG1.out ((HP8.out.up (HB6.out)).up hS5) HN8.out HF8.out (text_le _) (text_le _)).mono ?_
                    rintro e W7 ⟨A10, n11, cp12, rfl, hn13, hp14, hb9, hc15⟩
                    refine hK.out _ _ (hS5.trans (hb9.mono hS5.size)) (fun hS8 => ?_)
                    clear hK K
                    simp only [List.setIfInBounds_toArray, List.set_cons_zero, List.set_cons_succ]
                    refine wpAnyH_take (i := 6) (v := .tuple #[.string s, .agg #[.int .i64 e1.width, .int .i64 e1.room, .slice A10 n11 cp12, .int .i64 e1.hits, .int .i64 e1.misses, .int .i64 e1.clashes, .int .i64 e1.evicted], .int .i64 b]) rfl (by kernel_rfl) (by kernel_rfl) (by kernel_rfl) (fun _ _ _ h => h) (Or.inl ⟨by rfl, fun w' hS' => by exact op_move rfl rfl⟩) hS8 ?_
                    change wpAnyH _ _ _ _ _ _ _ (Act.put _ (some 70) (.tuple #[.string s, .agg #[.int .i64 e1.width, .int .i64 e1.room, .slice A10 n11 cp12, .int .i64 e1.hits, .int .i64 e1.misses, .int .i64 e1.clashes, .int .i64 e1.evicted], .int .i64 b])) _
                    simp only [Act.put, List.setIfInBounds_toArray, List.set_cons_zero, List.set_cons_succ]
                    refine wpAnyH_take (i := 7) (v := .string s) rfl (by kernel_rfl) (by kernel_rfl) (by kernel_rfl) (fun _ _ _ h => h) (Or.inl ⟨by rfl, fun w' hS' => by go_simp⟩) hS8 ?_
                    change wpAnyH _ _ _ _ _ _ _ (Act.put _ (some 77) (.string s)) _
                    simp only [Act.put, List.setIfInBounds_toArray, List.set_cons_zero, List.set_cons_succ]
                    refine wpAnyH_take (i := 8) (v := .agg #[.int .i64 e1.width, .int .i64 e1.room, .slice A10 n11 cp12, .int .i64 e1.hits, .int .i64 e1.misses, .int .i64 e1.clashes, .int .i64 e1.evicted]) rfl (by kernel_rfl) (by kernel_rfl) (by kernel_rfl) (fun _ _ _ h => h) (Or.inl ⟨by rfl, fun w' hS' => by go_simp⟩) hS8 ?_
                    change wpAnyH _ _ _ _ _ _ _ (Act.put _ (some 78) (.agg #[.int .i64 e1.width, .int .i64 e1.room, .slice A10 n11 cp12, .int .i64 e1.hits, .int .i64 e1.misses, .int .i64 e1.clashes, .int .i64 e1.evicted])) _
                    simp only [Act.put, List.setIfInBounds_toArray, List.set_cons_zero, List.set_cons_succ]
                    refine wpAnyH_take (i := 9) (v := .int .i64 b) rfl (by kernel_rfl) (by kernel_rfl) (by kernel_rfl) (fun _ _ _ h => h) (Or.inl ⟨by rfl, fun w' hS' => by go_simp⟩) hS8 ?_
                    change wpAnyH _ _ _ _ _ _ _ (Act.put _ (some 79) (.int .i64 b)) _
                    simp only [Act.put, List.setIfInBounds_toArray, List.set_cons_zero, List.set_cons_succ]
                    refine wpAnyH_ready (rs := [10]) (by kernel_rfl) (by simp) (AllReadyH.cons rfl (fun K hK => ?_) (AllReadyH.nil))
                    · skip
                      obtain ⟨gs17, W16, hr20, hk21, hb19, hg22⟩ := op_allocC W7
                      refine step_op_run (hr20 _ _ rfl) rfl ?_
                      refine hK.out _ _ (hS8.trans (hb19.mono hS8.size)) (fun hS18 => ?_)
                      clear hK K
                      change wpAnyH _ _ _ _ _ _ _ (Act.put _ (some 17) (.pointer (some ⟨gs17, 0, none⟩))) _
                      simp only [Act.put, List.setIfInBounds_toArray, List.set_cons_zero, List.set_cons_succ]
                      refine wpAnyH_take (i := 11) (v := .string s) rfl (by kernel_rfl) (by kernel_rfl) (by kernel_rfl) (fun _ _ _ h => h) (Or.inl ⟨by rfl, fun w' hS' => by exact op_assign rfl rfl⟩) hS18 ?_
                      change wpAnyH _ _ _ _ _ _ _ (Act.put _ (some 16) (.string s)) _
                      simp only [Act.put, List.setIfInBounds_toArray, List.set_cons_zero, List.set_cons_succ]
                      refine wpAnyH_ready (rs := [12]) (by kernel_rfl) (by simp) (AllReadyH.cons rfl (fun K hK => ?_) (AllReadyH.nil))
                      · skip
                        obtain ⟨W23, hr25, hk26, hgr27⟩ := op_store7 hk21 (e1.width) (e1.room) A10 n11 cp12 (e1.hits) (e1.misses) (e1.clashes) (e1.evicted)
                        refine step_op_skip (hr25 _ _ _ _ rfl rfl rfl) rfl ?_
                        refine hK.out _ _ (hS18.grown hgr27 hS18.size (fun b e => by injection e with e; rw [← e]; exact Nat.le_trans (hS8).size hg22)) (fun hS24 => ?_)
                        clear hK K
                        change wpAnyH _ _ _ _ _ _ _ (Act.put _ none (undef)) _
                        simp only [Act.put]
                        refine wpAnyH_take (i := 13) (v := .int .i64 b) rfl (by kernel_rfl) (by kernel_rfl) (by kernel_rfl) (fun _ _ _ h => h) (Or.inl ⟨by rfl, fun w' hS' => by exact op_assign rfl rfl⟩) hS24 ?_
                        change wpAnyH _ _ _ _ _ _ _ (Act.put _ (some 18) (.int .i64 b)) _
                        simp only [Act.put, List.setIfInBounds_toArray, List.set_cons_zero, List.set_cons_succ]
                        refine wpAnyH_done (by kernel_rfl) ?_ _
                        refine NoPanic.normal ?_
                        go_wp2_with fail
                        go_meet
                        exact ⟨gs17, A10, n11, cp12, rfl, rfl, rfl, hk26, (((hp14.add hg22).up hb19).kept hgr27 (Or.inr rfl)).less (fun _ hb => .inl (Nat.lt_of_lt_of_le hb (hS5).size)), hn13, hc15, hS24, Nat.le_trans (hS8).size hg22⟩
                  · skip
                    obtain ⟨gs29, W28, hr32, hk33, hb31, hg34⟩ := op_allocC W4
                    refine step_op_run (hr32 _ _ rfl) rfl ?_
                    refine hK.out _ _ (hS5.trans (hb31.mono hS5.size)) (fun hS30 => ?_)
                    clear hK K
                    change wpAnyH _ _ _ _ _ _ _ (Act.put _ (some 17) (.pointer (some ⟨gs29, 0, none⟩))) _
                    simp only [Act.put, List.setIfInBounds_toArray, List.set_cons_zero, List.set_cons_succ]
                    refine wpAnyH_ready (rs := [5]) (by kernel_rfl) (by simp) (AllReadyH.cons rfl (fun K hK => ?_) (AllReadyH.nil))
                    · skip
                      go_simp
                      refine (get_new c A8 n8 cap8 (textOf i) (textOf k) _ s e1 b HG1.out ((HP8.out.up (HB6.out)).up hS30) HN8.out HF8.out (text_le _) (text_le _)).mono ?_
                      rintro e W35 ⟨A38, n39, cp40, rfl, hn41, hp42, hb37, hc43⟩
                      refine hK.out _ _ (hS30.trans (hb37.mono hS30.size)) (fun hS36 => ?_)
                      clear hK K
                      simp only [List.setIfInBounds_toArray, List.set_cons_zero, List.set_cons_succ]
                      refine wpAnyH_take (i := 6) (v := .tuple #[.string s, .agg #[.int .i64 e1.width, .int .i64 e1.room, .slice A38 n39 cp40, .int .i64 e1.hits, .int .i64 e1.misses, .int .i64 e1.clashes, .int .i64 e1.evicted], .int .i64 b]) rfl (by kernel_rfl) (by kernel_rfl) (by kernel_rfl) (fun _ _ _ h => h) (Or.inl ⟨by rfl, fun w' hS' => by exact op_move rfl rfl⟩) hS36 ?_
                      change wpAnyH _ _ _ _ _ _ _ (Act.put _ (some 70) (.tuple #[.string s, .agg #[.int .i64 e1.width, .int .i64 e1.room, .slice A38 n39 cp40, .int .i64 e1.hits, .int .i64 e1.misses, .int .i64 e1.clashes, .int .i64 e1.evicted], .int .i64 b])) _
                      simp only [Act.put, List.setIfInBounds_toArray, List.set_cons_zero, List.set_cons_succ]
                      refine wpAnyH_take (i := 7) (v := .string s) rfl (by kernel_rfl) (by kernel_rfl) (by kernel_rfl) (fun _ _ _ h => h) (Or.inl ⟨by rfl, fun w' hS' => by go_simp⟩) hS36 ?_
                      change wpAnyH _ _ _ _ _ _ _ (Act.put _ (some 77) (.string s)) _
                      simp only [Act.put, List.setIfInBounds_toArray, List.set_cons_zero, List.set_cons_succ]
                      refine wpAnyH_take (i := 8) (v := .agg #[.int .i64 e1.width, .int .i64 e1.room, .slice A38 n39 cp40, .int .i64 e1.hits, .int .i64 e1.misses, .int .i64 e1.clashes, .int .i64 e1.evicted]) rfl (by kernel_rfl) (by kernel_rfl) (by kernel_rfl) (fun _ _ _ h => h) (Or.inl ⟨by rfl, fun w' hS' => by go_simp⟩) hS36 ?_
                      change wpAnyH _ _ _ _ _ _ _ (Act.put _ (some 78) (.agg #[.int .i64 e1.width, .int .i64 e1.room, .slice A38 n39 cp40, .int .i64 e1.hits, .int .i64 e1.misses, .int .i64 e1.clashes, .int .i64 e1.evicted])) _
                      simp only [Act.put, List.setIfInBounds_toArray, List.set_cons_zero, List.set_cons_succ]
                      refine wpAnyH_take (i := 9) (v := .int .i64 b) rfl (by kernel_rfl) (by kernel_rfl) (by kernel_rfl) (fun _ _ _ h => h) (Or.inl ⟨by rfl, fun w' hS' => by go_simp⟩) hS36 ?_
                      change wpAnyH _ _ _ _ _ _ _ (Act.put _ (some 79) (.int .i64 b)) _
                      simp only [Act.put, List.setIfInBounds_toArray, List.set_cons_zero, List.set_cons_succ]
                      refine wpAnyH_take (i := 11) (v := .string s) rfl (by kernel_rfl) (by kernel_rfl) (by kernel_rfl) (fun _ _ _ h => h) (Or.inl ⟨by rfl, fun w' hS' => by exact op_assign rfl rfl⟩) hS36 ?_
                      change wpAnyH _ _ _ _ _ _ _ (Act.put _ (some 16) (.string s)) _
                      simp only [Act.put, List.setIfInBounds_toArray, List.set_cons_zero, List.set_cons_succ]
                      refine wpAnyH_ready (rs := [12]) (by kernel_rfl) (by simp) (AllReadyH.cons rfl (fun K hK => ?_) (AllReadyH.nil))
                      · skip
                        obtain ⟨W44, hr46, hk47, hgr48⟩ := op_store7 (Blk.below hk33 hb37 hk33.lt) (e1.width) (e1.room) A38 n39 cp40 (e1.hits) (e1.misses) (e1.clashes) (e1.evicted)
                        refine step_op_skip (hr46 _ _ _ _ rfl rfl rfl) rfl ?_
                        refine hK.out _ _ (hS36.grown hgr48 hS36.size (fun b e => by injection e with e; rw [← e]; exact Nat.le_trans (hS5).size hg34)) (fun hS45 => ?_)
                        clear hK K
                        change wpAnyH _ _ _ _ _ _ _ (Act.put _ none (undef)) _
                        simp only [Act.put]
                        refine wpAnyH_take (i := 13) (v := .int .i64 b) rfl (by kernel_rfl) (by kernel_rfl) (by kernel_rfl) (fun _ _ _ h => h) (Or.inl ⟨by rfl, fun w' hS' => by exact op_assign rfl rfl⟩) hS45 ?_
                        change wpAnyH _ _ _ _ _ _ _ (Act.put _ (some 18) (.int .i64 b)) _
                        simp only [Act.put, List.setIfInBounds_toArray, List.set_cons_zero, List.set_cons_succ]
                        refine wpAnyH_done (by kernel_rfl) ?_ _
                        refine NoPanic.normal ?_
                        go_wp2_with fail
                        go_meet
                        exact ⟨gs29, A38, n39, cp40, rfl, rfl, rfl, hk47, (hp42.kept hgr48 ((hk33).lt)).less (fun _ hb => Nat.lt_of_lt_of_le hb (hS30).size), hn41, hc43, hS45, Nat.le_trans (hS5).size hg34⟩
                · skip
                  obtain ⟨gs50, W49, hr53, hk54, hb52, hg55⟩ := op_allocC W1
                  refine step_op_run (hr53 _ _ rfl) rfl ?_
                  refine hK.out _ _ (hS2.trans (hb52.mono hS2.size)) (fun hS51 => ?_)
                  clear hK K
                  change wpAnyH _ _ _ _ _ _ _ (Act.put _ (some 17) (.pointer (some ⟨gs50, 0, none⟩))) _
                  simp only [Act.put, List.setIfInBounds_toArray, List.set_cons_zero, List.set_cons_succ]
                  refine wpAnyH_ready (rs := [4]) (by kernel_rfl) (by simp) (AllReadyH.cons rfl (fun K hK => ?_) (AllReadyH.nil))
                  · skip
                    go_simp
                    refine (text_any (k : Int) _ HK6.out).mono ?_
                    rintro e W56 ⟨rfl, hb58⟩
                    refine hK.out _ _ (hS51.trans (hb58.mono hS51.size)) (fun hS57 => ?_)
                    clear hK K
                    simp only [List.setIfInBounds_toArray, List.set_cons_zero, List.set_cons_succ]
                    refine wpAnyH_ready (rs := [5]) (by kernel_rfl) (by simp) (AllReadyH.cons rfl (fun K hK => ?_) (AllReadyH.nil))
                    · skip
                      go_simp
                      refine (get_new c A8 n8 cap8 (textOf i) (textOf k) _ s e1 b HG1.out ((HP8.out.up (HB6.out)).up hS57) HN8.out HF8.out (text_le _) (text_le _)).mono ?_
                      rintro e W59 ⟨A62, n63, cp64, rfl, hn65, hp66, hb61, hc67⟩
                      refine hK.out _ _ (hS57.trans (hb61.mono hS57.size)) (fun hS60 => ?_)
                      clear hK K
                      simp only [List.setIfInBounds_toArray, List.set_cons_zero, List.set_cons_succ]
                      refine wpAnyH_take (i := 6) (v := .tuple #[.string s, .agg #[.int .i64 e1.width, .int .i64 e1.room, .slice A62 n63 cp64, .int .i64 e1.hits, .int .i64 e1.misses, .int .i64 e1.clashes, .int .i64 e1.evicted], .int .i64 b]) rfl (by kernel_rfl) (by kernel_rfl) (by kernel_rfl) (fun _ _ _ h => h) (Or.inl ⟨by rfl, fun w' hS' => by exact op_move rfl rfl⟩) hS60 ?_
                      change wpAnyH _ _ _ _ _ _ _ (Act.put _ (some 70) (.tuple #[.string s, .agg #[.int .i64 e1.width, .int .i64 e1.room, .slice A62 n63 cp64, .int .i64 e1.hits, .int .i64 e1.misses, .int .i64 e1.clashes, .int .i64 e1.evicted], .int .i64 b])) _
                      simp only [Act.put, List.setIfInBounds_toArray, List.set_cons_zero, List.set_cons_succ]
                      refine wpAnyH_take (i := 7) (v := .string s) rfl (by kernel_rfl) (by kernel_rfl) (by kernel_rfl) (fun _ _ _ h => h) (Or.inl ⟨by rfl, fun w' hS' => by go_simp⟩) hS60 ?_
                      change wpAnyH _ _ _ _ _ _ _ (Act.put _ (some 77) (.string s)) _
                      simp only [Act.put, List.setIfInBounds_toArray, List.set_cons_zero, List.set_cons_succ]
                      refine wpAnyH_take (i := 8) (v := .agg #[.int .i64 e1.width, .int .i64 e1.room, .slice A62 n63 cp64, .int .i64 e1.hits, .int .i64 e1.misses, .int .i64 e1.clashes, .int .i64 e1.evicted]) rfl (by kernel_rfl) (by kernel_rfl) (by kernel_rfl) (fun _ _ _ h => h) (Or.inl ⟨by rfl, fun w' hS' => by go_simp⟩) hS60 ?_
                      change wpAnyH _ _ _ _ _ _ _ (Act.put _ (some 78) (.agg #[.int .i64 e1.width, .int .i64 e1.room, .slice A62 n63 cp64, .int .i64 e1.hits, .int .i64 e1.misses, .int .i64 e1.clashes, .int .i64 e1.evicted])) _
                      simp only [Act.put, List.setIfInBounds_toArray, List.set_cons_zero, List.set_cons_succ]
                      refine wpAnyH_take (i := 9) (v := .int .i64 b) rfl (by kernel_rfl) (by kernel_rfl) (by kernel_rfl) (fun _ _ _ h => h) (Or.inl ⟨by rfl, fun w' hS' => by go_simp⟩) hS60 ?_
                      change wpAnyH _ _ _ _ _ _ _ (Act.put _ (some 79) (.int .i64 b)) _
                      simp only [Act.put, List.setIfInBounds_toArray, List.set_cons_zero, List.set_cons_succ]
                      refine wpAnyH_take (i := 11) (v := .string s) rfl (by kernel_rfl) (by kernel_rfl) (by kernel_rfl) (fun _ _ _ h => h) (Or.inl ⟨by rfl, fun w' hS' => by exact op_assign rfl rfl⟩) hS60 ?_
                      change wpAnyH _ _ _ _ _ _ _ (Act.put _ (some 16) (.string s)) _
                      simp only [Act.put, List.setIfInBounds_toArray, List.set_cons_zero, List.set_cons_succ]
                      refine wpAnyH_ready (rs := [12]) (by kernel_rfl) (by simp) (AllReadyH.cons rfl (fun K hK => ?_) (AllReadyH.nil))
                      · skip
                        obtain ⟨W68, hr70, hk71, hgr72⟩ := op_store7 (Blk.below (Blk.below hk54 hb58 hk54.lt) hb61 (Blk.below hk54 hb58 hk54.lt).lt) (e1.width) (e1.room) A62 n63 cp64 (e1.hits) (e1.misses) (e1.clashes) (e1.evicted)
                        refine step_op_skip (hr70 _ _ _ _ rfl rfl rfl) rfl ?_
                        refine hK.out _ _ (hS60.grown hgr72 hS60.size (fun b e => by injection e with e; rw [← e]; exact Nat.le_trans (hS2).size hg55)) (fun hS69 => ?_)
                        clear hK K
                        change wpAnyH _ _ _ _ _ _ _ (Act.put _ none (undef)) _
                        simp only [Act.put]
                        refine wpAnyH_take (i := 13) (v := .int .i64 b) rfl (by kernel_rfl) (by kernel_rfl) (by kernel_rfl) (fun _ _ _ h => h) (Or.inl ⟨by rfl, fun w' hS' => by exact op_assign rfl rfl⟩) hS69 ?_
                        change wpAnyH _ _ _ _ _ _ _ (Act.put _ (some 18) (.int .i64 b)) _
                        simp only [Act.put, List.setIfInBounds_toArray, List.set_cons_zero, List.set_cons_succ]
                        refine wpAnyH_done (by kernel_rfl) ?_ _
                        refine NoPanic.normal ?_
                        go_wp2_with fail
                        go_meet
                        exact ⟨gs50, A62, n63, cp64, rfl, rfl, rfl, hk71, (hp66.kept hgr72 (((Blk.below hk54 hb58 hk54.lt)).lt)).less (fun _ hb => Nat.lt_of_lt_of_le hb (hS57).size), hn65, hc67, hS69, Nat.le_trans (hS2).size hg55⟩
              · skip
                obtain ⟨gs74, W73, hr77, hk78, hb76, hg79⟩ := op_allocC w6.drew
                refine step_op_run (hr77 _ _ rfl) rfl ?_
                refine hK.out _ _ (hS0.trans (hb76.mono hS0.size)) (fun hS75 => ?_)
                clear hK K
                change wpAnyH _ _ _ _ _ _ _ (Act.put _ (some 17) (.pointer (some ⟨gs74, 0, none⟩))) _
                simp only [Act.put, List.setIfInBounds_toArray, List.set_cons_zero, List.set_cons_succ]
                refine wpAnyH_ready (rs := [2]) (by kernel_rfl) (by simp) (AllReadyH.cons rfl (fun K hK => ?_) (AllReadyH.nil))
                · skip
                  go_simp
                  refine (text_any (i : Int) _ HI6.out).mono ?_
                  rintro e W80 ⟨rfl, hb82⟩
                  refine hK.out _ _ (hS75.trans (hb82.mono hS75.size)) (fun hS81 => ?_)
                  clear hK K
                  simp only [List.setIfInBounds_toArray, List.set_cons_zero, List.set_cons_succ]
                  refine wpAnyH_ready (rs := [4]) (by kernel_rfl) (by simp) (AllReadyH.cons rfl (fun K hK => ?_) (AllReadyH.nil))
                  · skip
                    go_simp
                    refine (text_any (k : Int) _ HK6.out).mono ?_
                    rintro e W83 ⟨rfl, hb85⟩
                    refine hK.out _ _ (hS81.trans (hb85.mono hS81.size)) (fun hS84 => ?_)
                    clear hK K
                    simp only [List.setIfInBounds_toArray, List.set_cons_zero, List.set_cons_succ]
                    refine wpAnyH_ready (rs := [5]) (by kernel_rfl) (by simp) (AllReadyH.cons rfl (fun K hK => ?_) (AllReadyH.nil))
                    · skip
                      go_simp
                      refine (get_new c A8 n8 cap8 (textOf i) (textOf k) _ s e1 b HG1.out ((HP8.out.up (HB6.out)).up hS84) HN8.out HF8.out (text_le _) (text_le _)).mono ?_
                      rintro e W86 ⟨A89, n90, cp91, rfl, hn92, hp93, hb88, hc94⟩
                      refine hK.out _ _ (hS84.trans (hb88.mono hS84.size)) (fun hS87 => ?_)
                      clear hK K
                      simp only [List.setIfInBounds_toArray, List.set_cons_zero, List.set_cons_succ]
                      refine wpAnyH_take (i := 6) (v := .tuple #[.string s, .agg #[.int .i64 e1.width, .int .i64 e1.room, .slice A89 n90 cp91, .int .i64 e1.hits, .int .i64 e1.misses, .int .i64 e1.clashes, .int .i64 e1.evicted], .int .i64 b]) rfl (by kernel_rfl) (by kernel_rfl) (by kernel_rfl) (fun _ _ _ h => h) (Or.inl ⟨by rfl, fun w' hS' => by exact op_move rfl rfl⟩) hS87 ?_
                      change wpAnyH _ _ _ _ _ _ _ (Act.put _ (some 70) (.tuple #[.string s, .agg #[.int .i64 e1.width, .int .i64 e1.room, .slice A89 n90 cp91, .int .i64 e1.hits, .int .i64 e1.misses, .int .i64 e1.clashes, .int .i64 e1.evicted], .int .i64 b])) _
                      simp only [Act.put, List.setIfInBounds_toArray, List.set_cons_zero, List.set_cons_succ]
                      refine wpAnyH_take (i := 7) (v := .string s) rfl (by kernel_rfl) (by kernel_rfl) (by kernel_rfl) (fun _ _ _ h => h) (Or.inl ⟨by rfl, fun w' hS' => by go_simp⟩) hS87 ?_
                      change wpAnyH _ _ _ _ _ _ _ (Act.put _ (some 77) (.string s)) _
                      simp only [Act.put, List.setIfInBounds_toArray, List.set_cons_zero, List.set_cons_succ]
                      refine wpAnyH_take (i := 8) (v := .agg #[.int .i64 e1.width, .int .i64 e1.room, .slice A89 n90 cp91, .int .i64 e1.hits, .int .i64 e1.misses, .int .i64 e1.clashes, .int .i64 e1.evicted]) rfl (by kernel_rfl) (by kernel_rfl) (by kernel_rfl) (fun _ _ _ h => h) (Or.inl ⟨by rfl, fun w' hS' => by go_simp⟩) hS87 ?_
                      change wpAnyH _ _ _ _ _ _ _ (Act.put _ (some 78) (.agg #[.int .i64 e1.width, .int .i64 e1.room, .slice A89 n90 cp91, .int .i64 e1.hits, .int .i64 e1.misses, .int .i64 e1.clashes, .int .i64 e1.evicted])) _
                      simp only [Act.put, List.setIfInBounds_toArray, List.set_cons_zero, List.set_cons_succ]
                      refine wpAnyH_take (i := 9) (v := .int .i64 b) rfl (by kernel_rfl) (by kernel_rfl) (by kernel_rfl) (fun _ _ _ h => h) (Or.inl ⟨by rfl, fun w' hS' => by go_simp⟩) hS87 ?_
                      change wpAnyH _ _ _ _ _ _ _ (Act.put _ (some 79) (.int .i64 b)) _
                      simp only [Act.put, List.setIfInBounds_toArray, List.set_cons_zero, List.set_cons_succ]
                      refine wpAnyH_take (i := 11) (v := .string s) rfl (by kernel_rfl) (by kernel_rfl) (by kernel_rfl) (fun _ _ _ h => h) (Or.inl ⟨by rfl, fun w' hS' => by exact op_assign rfl rfl⟩) hS87 ?_
                      change wpAnyH _ _ _ _ _ _ _ (Act.put _ (some 16) (.string s)) _
                      simp only [Act.put, List.setIfInBounds_toArray, List.set_cons_zero, List.set_cons_succ]
                      refine wpAnyH_ready (rs := [12]) (by kernel_rfl) (by simp) (AllReadyH.cons rfl (fun K hK => ?_) (AllReadyH.nil))
                      · skip
                        obtain ⟨W95, hr97, hk98, hgr99⟩ := op_store7 (Blk.below (Blk.below (Blk.below hk78 hb82 hk78.lt) hb85 (Blk.below hk78 hb82 hk78.lt).lt) hb88 (Blk.below (Blk.below hk78 hb82 hk78.lt) hb85 (Blk.below hk78 hb82 hk78.lt).lt).lt) (e1.width) (e1.room) A89 n90 cp91 (e1.hits) (e1.misses) (e1.clashes) (e1.evicted)
                        refine step_op_skip (hr97 _ _ _ _ rfl rfl rfl) rfl ?_
                        refine hK.out _ _ (hS87.grown hgr99 hS87.size (fun b e => by injection e with e; rw [← e]; exact Nat.le_trans (hS0).size hg79)) (fun hS96 => ?_)
                        clear hK K
                        change wpAnyH _ _ _ _ _ _ _ (Act.put _ none (undef)) _
                        simp only [Act.put]
                        refine wpAnyH_take (i := 13) (v := .int .i64 b) rfl (by kernel_rfl) (by kernel_rfl) (by kernel_rfl) (fun _ _ _ h => h) (Or.inl ⟨by rfl, fun w' hS' => by exact op_assign rfl rfl⟩) hS96 ?_
                        change wpAnyH _ _ _ _ _ _ _ (Act.put _ (some 18) (.int .i64 b)) _
                        simp only [Act.put, List.setIfInBounds_toArray, List.set_cons_zero, List.set_cons_succ]
                        refine wpAnyH_done (by kernel_rfl) ?_ _
                        refine NoPanic.normal ?_
                        go_wp2_with fail
                        go_meet
                        exact ⟨gs74, A89, n90, cp91, rfl, rfl, rfl, hk98, (hp93.kept hgr99 (((Blk.below (Blk.below hk78 hb82 hk78.lt) hb85 (Blk.below hk78 hb82 hk78.lt).lt)).lt)).less (fun _ hb => Nat.lt_of_lt_of_le hb (hS84).size), hn92, hc94, hS96, Nat.le_trans (hS0).size hg79⟩
            case rest =>
              obtain ⟨gs, A6, n6, c6, rfl, rfl, rfl, -, -, -, -, hbw, -⟩ := hcut
              obtain ⟨w7, rfl⟩ : ∃ w7, w7 = wc := ⟨_, rfl⟩
              have HB7 := Lib.hid (below_step HB6.out hbw)
              have HC9 : Hid (∀ W, Below w7.heap.size w7 W → W.cell? ⟨g9, 0, none⟩ = some (.int .i64 d.width) ∧ W.cell? ⟨g9, 1, none⟩ = some (.int .i64 d.room) ∧ W.cell? ⟨g9, 2, none⟩ = some (.slice A9 n9 cap9) ∧ W.cell? ⟨g9, 3, none⟩ = some (.int .i64 d.hits) ∧ W.cell? ⟨g9, 4, none⟩ = some (.int .i64 d.misses) ∧ W.cell? ⟨g9, 5, none⟩ = some (.int .i64 d.clashes) ∧ W.cell? ⟨g9, 6, none⟩ = some (.int .i64 d.evicted)) := Lib.hid fun W hW => box7 HB9.out (below_step HB7.out hW)
              clear hbw
              go_wp2_with fail
              go_cut [19, 20, 21] (fun s19 s20 s21 wx => GetCut w7 s e2 b s19 s20 s21 wx)
              case first =>
                refine wp_region_noPanic ?_
                refine wp_region_held_drew (S := fun W => Below w7.heap.size w7 W) (by kernel_rfl) ((Below.refl w7.heap.size w7).drew) (fun hS0 => ?_)
                change wpAnyH _ _ _ _ _ 14 #[false, false, false, false, false, false, false, false, false, false, false, false, false, false] _ (World.drew _)
                refine wpAnyH_take (i := 0) (v := .agg #[.int .i64 d.width, .int .i64 d.room, .slice A9 n9 cap9, .int .i64 d.hits, .int .i64 d.misses, .int .i64 d.clashes, .int .i64 d.evicted]) rfl (by kernel_rfl) (by kernel_rfl) (by kernel_rfl) (fun _ _ _ h => h) (Or.inl ⟨by rfl, fun w' hS' => by obtain ⟨y0, y1, y2, y3, y4, y5, y6⟩ := HC9.out _ hS'; go_simp⟩) hS0 ?_
                change wpAnyH _ _ _ _ _ _ _ (Act.put _ (some 81) (.agg #[.int .i64 d.width, .int .i64 d.room, .slice A9 n9 cap9, .int .i64 d.hits, .int .i64 d.misses, .int .i64 d.clashes, .int .i64 d.evicted])) _
                simp only [Act.put, List.setIfInBounds_toArray, List.set_cons_zero, List.set_cons_succ]
                refine wpAnyH_take (i := 1) (v := .int .i64 (i : Int)) rfl (by kernel_rfl) (by kernel_rfl) (by kernel_rfl) (fun _ _ _ h => h) (Or.inl ⟨by rfl, fun w' hS' => by exact op_move rfl rfl⟩) hS0 ?_
                change wpAnyH _ _ _ _ _ _ _ (Act.put _ (some 82) (.int .i64 (i : Int))) _
                simp only [Act.put, List.setIfInBounds_toArray, List.set_cons_zero, List.set_cons_succ]
                refine wpAnyH_take (i := 3) (v := .int .i64 (k : Int)) rfl (by kernel_rfl) (by kernel_rfl) (by kernel_rfl) (fun _ _ _ h => h) (Or.inl ⟨by rfl, fun w' hS' => by exact op_move rfl rfl⟩) hS0 ?_
                change wpAnyH _ _ _ _ _ _ _ (Act.put _ (some 84) (.int .i64 (k : Int))) _
                simp only [Act.put, List.setIfInBounds_toArray, List.set_cons_zero, List.set_cons_succ]
                refine wpAnyH_ready (rs := [2, 10]) (by kernel_rfl) (by simp) (AllReadyH.cons rfl (fun K hK => ?_) (AllReadyH.cons rfl (fun K hK => ?_) (AllReadyH.nil)))
                · skip
                  go_simp
                  refine (text_any (i : Int) _ HI6.out).mono ?_
                  rintro e W1 ⟨rfl, hb3⟩
                  refine hK.out _ _ (hS0.trans (hb3.mono hS0.size)) (fun hS2 => ?_)
                  clear hK K
                  simp only [List.setIfInBounds_toArray, List.set_cons_zero, List.set_cons_succ]
                  refine wpAnyH_ready (rs := [4, 10]) (by kernel_rfl) (by simp) (AllReadyH.cons rfl (fun K hK => ?_) (AllReadyH.cons rfl (fun K hK => ?_) (AllReadyH.nil)))
                  · skip
                    go_simp
                    refine (text_any (k : Int) _ HK6.out).mono ?_
                    rintro e W4 ⟨rfl, hb6⟩
                    refine hK.out _ _ (hS2.trans (hb6.mono hS2.size)) (fun hS5 => ?_)
                    clear hK K
                    simp only [List.setIfInBounds_toArray, List.set_cons_zero, List.set_cons_succ]
                    refine wpAnyH_ready (rs := [5, 10]) (by kernel_rfl) (by simp) (AllReadyH.cons rfl (fun K hK => ?_) (AllReadyH.cons rfl (fun K hK => ?_) (AllReadyH.nil)))
                    · skip
                      go_simp
                      refine (get_new d A9 n9 cap9 (textOf i) (textOf k) _ s e2 b HG2.out ((HP9.out.up (HB7.out)).up hS5) HN9.out HF9.out (text_le _) (text_le _)).mono ?_
                      rintro e W7 ⟨A10, n11, cp12, rfl, hn13, hp14, hb9, hc15⟩
                      refine hK.out _ _ (hS5.trans (hb9.mono hS5.size)) (fun hS8 => ?_)
                      clear hK K
                      simp only [List.setIfInBounds_toArray, List.set_cons_zero, List.set_cons_succ]
                      refine wpAnyH_take (i := 6) (v := .tuple #[.string s, .agg #[.int .i64 e2.width, .int .i64 e2.room, .slice A10 n11 cp12, .int .i64 e2.hits, .int .i64 e2.misses, .int .i64 e2.clashes, .int .i64 e2.evicted], .int .i64 b]) rfl (by kernel_rfl) (by kernel_rfl) (by kernel_rfl) (fun _ _ _ h => h) (Or.inl ⟨by rfl, fun w' hS' => by exact op_move rfl rfl⟩) hS8 ?_
                      change wpAnyH _ _ _ _ _ _ _ (Act.put _ (some 80) (.tuple #[.string s, .agg #[.int .i64 e2.width, .int .i64 e2.room, .slice A10 n11 cp12, .int .i64 e2.hits, .int .i64 e2.misses, .int .i64 e2.clashes, .int .i64 e2.evicted], .int .i64 b])) _
                      simp only [Act.put, List.setIfInBounds_toArray, List.set_cons_zero, List.set_cons_succ]
                      refine wpAnyH_take (i := 7) (v := .string s) rfl (by kernel_rfl) (by kernel_rfl) (by kernel_rfl) (fun _ _ _ h => h) (Or.inl ⟨by rfl, fun w' hS' => by go_simp⟩) hS8 ?_
                      change wpAnyH _ _ _ _ _ _ _ (Act.put _ (some 87) (.string s)) _
                      simp only [Act.put, List.setIfInBounds_toArray, List.set_cons_zero, List.set_cons_succ]
                      refine wpAnyH_take (i := 8) (v := .agg #[.int .i64 e2.width, .int .i64 e2.room, .slice A10 n11 cp12, .int .i64 e2.hits, .int .i64 e2.misses, .int .i64 e2.clashes, .int .i64 e2.evicted]) rfl (by kernel_rfl) (by kernel_rfl) (by kernel_rfl) (fun _ _ _ h => h) (Or.inl ⟨by rfl, fun w' hS' => by go_simp⟩) hS8 ?_
                      change wpAnyH _ _ _ _ _ _ _ (Act.put _ (some 88) (.agg #[.int .i64 e2.width, .int .i64 e2.room, .slice A10 n11 cp12, .int .i64 e2.hits, .int .i64 e2.misses, .int .i64 e2.clashes, .int .i64 e2.evicted])) _
                      simp only [Act.put, List.setIfInBounds_toArray, List.set_cons_zero, List.set_cons_succ]
                      refine wpAnyH_take (i := 9) (v := .int .i64 b) rfl (by kernel_rfl) (by kernel_rfl) (by kernel_rfl) (fun _ _ _ h => h) (Or.inl ⟨by rfl, fun w' hS' => by go_simp⟩) hS8 ?_
                      change wpAnyH _ _ _ _ _ _ _ (Act.put _ (some 89) (.int .i64 b)) _
                      simp only [Act.put, List.setIfInBounds_toArray, List.set_cons_zero, List.set_cons_succ]
                      refine wpAnyH_ready (rs := [10]) (by kernel_rfl) (by simp) (AllReadyH.cons rfl (fun K hK => ?_) (AllReadyH.nil))
                      · skip
                        obtain ⟨gs17, W16, hr20, hk21, hb19, hg22⟩ := op_allocC W7
                        refine step_op_run (hr20 _ _ rfl) rfl ?_
                        refine hK.out _ _ (hS8.trans (hb19.mono hS8.size)) (fun hS18 => ?_)
                        clear hK K
                        change wpAnyH _ _ _ _ _ _ _ (Act.put _ (some 20) (.pointer (some ⟨gs17, 0, none⟩))) _
                        simp only [Act.put, List.setIfInBounds_toArray, List.set_cons_zero, List.set_cons_succ]
                        refine wpAnyH_take (i := 11) (v := .string s) rfl (by kernel_rfl) (by kernel_rfl) (by kernel_rfl) (fun _ _ _ h => h) (Or.inl ⟨by rfl, fun w' hS' => by exact op_assign rfl rfl⟩) hS18 ?_
                        change wpAnyH _ _ _ _ _ _ _ (Act.put _ (some 19) (.string s)) _
                        simp only [Act.put, List.setIfInBounds_toArray, List.set_cons_zero, List.set_cons_succ]
                        refine wpAnyH_ready (rs := [12]) (by kernel_rfl) (by simp) (AllReadyH.cons rfl (fun K hK => ?_) (AllReadyH.nil))
                        · skip
                          obtain ⟨W23, hr25, hk26, hgr27⟩ := op_store7 hk21 (e2.width) (e2.room) A10 n11 cp12 (e2.hits) (e2.misses) (e2.clashes) (e2.evicted)
                          refine step_op_skip (hr25 _ _ _ _ rfl rfl rfl) rfl ?_
                          refine hK.out _ _ (hS18.grown hgr27 hS18.size (fun b e => by injection e with e; rw [← e]; exact Nat.le_trans (hS8).size hg22)) (fun hS24 => ?_)
                          clear hK K
                          change wpAnyH _ _ _ _ _ _ _ (Act.put _ none (undef)) _
                          simp only [Act.put]
                          refine wpAnyH_take (i := 13) (v := .int .i64 b) rfl (by kernel_rfl) (by kernel_rfl) (by kernel_rfl) (fun _ _ _ h => h) (Or.inl ⟨by rfl, fun w' hS' => by exact op_assign rfl rfl⟩) hS24 ?_
                          change wpAnyH _ _ _ _ _ _ _ (Act.put _ (some 21) (.int .i64 b)) _
                          simp only [Act.put, List.setIfInBounds_toArray, List.set_cons_zero, List.set_cons_succ]
                          refine wpAnyH_done (by kernel_rfl) ?_ _
                          refine NoPanic.normal ?_
                          go_wp2_with fail
                          go_meet
                          exact ⟨gs17, A10, n11, cp12, rfl, rfl, rfl, hk26, (((hp14.add hg22).up hb19).kept hgr27 (Or.inr rfl)).less (fun _ hb => .inl (Nat.lt_of_lt_of_le hb (hS5).size)), hn13, hc15, hS24, Nat.le_trans (hS8).size hg22⟩
                    · skip
                      obtain ⟨gs29, W28, hr32, hk33, hb31, hg34⟩ := op_allocC W4
                      refine step_op_run (hr32 _ _ rfl) rfl ?_
                      refine hK.out _ _ (hS5.trans (hb31.mono hS5.size)) (fun hS30 => ?_)
                      clear hK K
                      change wpAnyH _ _ _ _ _ _ _ (Act.put _ (some 20) (.pointer (some ⟨gs29, 0, none⟩))) _
                      simp only [Act.put, List.setIfInBounds_toArray, List.set_cons_zero, List.set_cons_succ]
                      refine wpAnyH_ready (rs := [5]) (by kernel_rfl) (by simp) (AllReadyH.cons rfl (fun K hK => ?_) (AllReadyH.nil))
                      · skip
                        go_simp
                        refine (get_new d A9 n9 cap9 (textOf i) (textOf k) _ s e2 b HG2.out ((HP9.out.up (HB7.out)).up hS30) HN9.out HF9.out (text_le _) (text_le _)).mono ?_
                        rintro e W35 ⟨A38, n39, cp40, rfl, hn41, hp42, hb37, hc43⟩
                        refine hK.out _ _ (hS30.trans (hb37.mono hS30.size)) (fun hS36 => ?_)
                        clear hK K
                        simp only [List.setIfInBounds_toArray, List.set_cons_zero, List.set_cons_succ]
                        refine wpAnyH_take (i := 6) (v := .tuple #[.string s, .agg #[.int .i64 e2.width, .int .i64 e2.room, .slice A38 n39 cp40, .int .i64 e2.hits, .int .i64 e2.misses, .int .i64 e2.clashes, .int .i64 e2.evicted], .int .i64 b]) rfl (by kernel_rfl) (by kernel_rfl) (by kernel_rfl) (fun _ _ _ h => h) (Or.inl ⟨by rfl, fun w' hS' => by exact op_move rfl rfl⟩) hS36 ?_
                        change wpAnyH _ _ _ _ _ _ _ (Act.put _ (some 80) (.tuple #[.string s, .agg #[.int .i64 e2.width, .int .i64 e2.room, .slice A38 n39 cp40, .int .i64 e2.hits, .int .i64 e2.misses, .int .i64 e2.clashes, .int .i64 e2.evicted], .int .i64 b])) _
                        simp only [Act.put, List.setIfInBounds_toArray, List.set_cons_zero, List.set_cons_succ]
                        refine wpAnyH_take (i := 7) (v := .string s) rfl (by kernel_rfl) (by kernel_rfl) (by kernel_rfl) (fun _ _ _ h => h) (Or.inl ⟨by rfl, fun w' hS' => by go_simp⟩) hS36 ?_
                        change wpAnyH _ _ _ _ _ _ _ (Act.put _ (some 87) (.string s)) _
                        simp only [Act.put, List.setIfInBounds_toArray, List.set_cons_zero, List.set_cons_succ]
                        refine wpAnyH_take (i := 8) (v := .agg #[.int .i64 e2.width, .int .i64 e2.room, .slice A38 n39 cp40, .int .i64 e2.hits, .int .i64 e2.misses, .int .i64 e2.clashes, .int .i64 e2.evicted]) rfl (by kernel_rfl) (by kernel_rfl) (by kernel_rfl) (fun _ _ _ h => h) (Or.inl ⟨by rfl, fun w' hS' => by go_simp⟩) hS36 ?_
                        change wpAnyH _ _ _ _ _ _ _ (Act.put _ (some 88) (.agg #[.int .i64 e2.width, .int .i64 e2.room, .slice A38 n39 cp40, .int .i64 e2.hits, .int .i64 e2.misses, .int .i64 e2.clashes, .int .i64 e2.evicted])) _
                        simp only [Act.put, List.setIfInBounds_toArray, List.set_cons_zero, List.set_cons_succ]
                        refine wpAnyH_take (i := 9) (v := .int .i64 b) rfl (by kernel_rfl) (by kernel_rfl) (by kernel_rfl) (fun _ _ _ h => h) (Or.inl ⟨by rfl, fun w' hS' => by go_simp⟩) hS36 ?_
                        change wpAnyH _ _ _ _ _ _ _ (Act.put _ (some 89) (.int .i64 b)) _
                        simp only [Act.put, List.setIfInBounds_toArray, List.set_cons_zero, List.set_cons_succ]
                        refine wpAnyH_take (i := 11) (v := .string s) rfl (by kernel_rfl) (by kernel_rfl) (by kernel_rfl) (fun _ _ _ h => h) (Or.inl ⟨by rfl, fun w' hS' => by exact op_assign rfl rfl⟩) hS36 ?_
                        change wpAnyH _ _ _ _ _ _ _ (Act.put _ (some 19) (.string s)) _
                        simp only [Act.put, List.setIfInBounds_toArray, List.set_cons_zero, List.set_cons_succ]
                        refine wpAnyH_ready (rs := [12]) (by kernel_rfl) (by simp) (AllReadyH.cons rfl (fun K hK => ?_) (AllReadyH.nil))
                        · skip
                          obtain ⟨W44, hr46, hk47, hgr48⟩ := op_store7 (Blk.below hk33 hb37 hk33.lt) (e2.width) (e2.room) A38 n39 cp40 (e2.hits) (e2.misses) (e2.clashes) (e2.evicted)
                          refine step_op_skip (hr46 _ _ _ _ rfl rfl rfl) rfl ?_
                          refine hK.out _ _ (hS36.grown hgr48 hS36.size (fun b e => by injection e with e; rw [← e]; exact Nat.le_trans (hS5).size hg34)) (fun hS45 => ?_)
                          clear hK K
                          change wpAnyH _ _ _ _ _ _ _ (Act.put _ none (undef)) _
                          simp only [Act.put]
                          refine wpAnyH_take (i := 13) (v := .int .i64 b) rfl (by kernel_rfl) (by kernel_rfl) (by kernel_rfl) (fun _ _ _ h => h) (Or.inl ⟨by rfl, fun w' hS' => by exact op_assign rfl rfl⟩) hS45 ?_
                          change wpAnyH _ _ _ _ _ _ _ (Act.put _ (some 21) (.int .i64 b)) _
                          simp only [Act.put, List.setIfInBounds_toArray, List.set_cons_zero, List.set_cons_succ]
                          refine wpAnyH_done (by kernel_rfl) ?_ _
                          refine NoPanic.normal ?_
                          go_wp2_with fail
                          go_meet
                          exact ⟨gs29, A38, n39, cp40, rfl, rfl, rfl, hk47, (hp42.kept hgr48 ((hk33).lt)).less (fun _ hb => Nat.lt_of_lt_of_le hb (hS30).size), hn41, hc43, hS45, Nat.le_trans (hS5).size hg34⟩
                  · skip
                    obtain ⟨gs50, W49, hr53, hk54, hb52, hg55⟩ := op_allocC W1
                    refine step_op_run (hr53 _ _ rfl) rfl ?_
                    refine hK.out _ _ (hS2.trans (hb52.mono hS2.size)) (fun hS51 => ?_)
                    clear hK K
                    change wpAnyH _ _ _ _ _ _ _ (Act.put _ (some 20) (.pointer (some ⟨gs50, 0, none⟩))) _
                    simp only [Act.put, List.setIfInBounds_toArray, List.set_cons_zero, List.set_cons_succ]
                    refine wpAnyH_ready (rs := [4]) (by kernel_rfl) (by simp) (AllReadyH.cons rfl (fun K hK => ?_) (AllReadyH.nil))
                    · skip
                      go_simp
                      refine (text_any (k : Int) _ HK6.out).mono ?_
                      rintro e W56 ⟨rfl, hb58⟩
                      refine hK.out _ _ (hS51.trans (hb58.mono hS51.size)) (fun hS57 => ?_)
                      clear hK K
                      simp only [List.setIfInBounds_toArray, List.set_cons_zero, List.set_cons_succ]
                      refine wpAnyH_ready (rs := [5]) (by kernel_rfl) (by simp) (AllReadyH.cons rfl (fun K hK => ?_) (AllReadyH.nil))
                      · skip
                        go_simp
                        refine (get_new d A9 n9 cap9 (textOf i) (textOf k) _ s e2 b HG2.out ((HP9.out.up (HB7.out)).up hS57) HN9.out HF9.out (text_le _) (text_le _)).mono ?_
                        rintro e W59 ⟨A62, n63, cp64, rfl, hn65, hp66, hb61, hc67⟩
                        refine hK.out _ _ (hS57.trans (hb61.mono hS57.size)) (fun hS60 => ?_)
                        clear hK K
                        simp only [List.setIfInBounds_toArray, List.set_cons_zero, List.set_cons_succ]
                        refine wpAnyH_take (i := 6) (v := .tuple #[.string s, .agg #[.int .i64 e2.width, .int .i64 e2.room, .slice A62 n63 cp64, .int .i64 e2.hits, .int .i64 e2.misses, .int .i64 e2.clashes, .int .i64 e2.evicted], .int .i64 b]) rfl (by kernel_rfl) (by kernel_rfl) (by kernel_rfl) (fun _ _ _ h => h) (Or.inl ⟨by rfl, fun w' hS' => by exact op_move rfl rfl⟩) hS60 ?_
                        change wpAnyH _ _ _ _ _ _ _ (Act.put _ (some 80) (.tuple #[.string s, .agg #[.int .i64 e2.width, .int .i64 e2.room, .slice A62 n63 cp64, .int .i64 e2.hits, .int .i64 e2.misses, .int .i64 e2.clashes, .int .i64 e2.evicted], .int .i64 b])) _
                        simp only [Act.put, List.setIfInBounds_toArray, List.set_cons_zero, List.set_cons_succ]
                        refine wpAnyH_take (i := 7) (v := .string s) rfl (by kernel_rfl) (by kernel_rfl) (by kernel_rfl) (fun _ _ _ h => h) (Or.inl ⟨by rfl, fun w' hS' => by go_simp⟩) hS60 ?_
                        change wpAnyH _ _ _ _ _ _ _ (Act.put _ (some 87) (.string s)) _
                        simp only [Act.put, List.setIfInBounds_toArray, List.set_cons_zero, List.set_cons_succ]
                        refine wpAnyH_take (i := 8) (v := .agg #[.int .i64 e2.width, .int .i64 e2.room, .slice A62 n63 cp64, .int .i64 e2.hits, .int .i64 e2.misses, .int .i64 e2.clashes, .int .i64 e2.evicted]) rfl (by kernel_rfl) (by kernel_rfl) (by kernel_rfl) (fun _ _ _ h => h) (Or.inl ⟨by rfl, fun w' hS' => by go_simp⟩) hS60 ?_
                        change wpAnyH _ _ _ _ _ _ _ (Act.put _ (some 88) (.agg #[.int .i64 e2.width, .int .i64 e2.room, .slice A62 n63 cp64, .int .i64 e2.hits, .int .i64 e2.misses, .int .i64 e2.clashes, .int .i64 e2.evicted])) _
                        simp only [Act.put, List.setIfInBounds_toArray, List.set_cons_zero, List.set_cons_succ]
                        refine wpAnyH_take (i := 9) (v := .int .i64 b) rfl (by kernel_rfl) (by kernel_rfl) (by kernel_rfl) (fun _ _ _ h => h) (Or.inl ⟨by rfl, fun w' hS' => by go_simp⟩) hS60 ?_
                        change wpAnyH _ _ _ _ _ _ _ (Act.put _ (some 89) (.int .i64 b)) _
                        simp only [Act.put, List.setIfInBounds_toArray, List.set_cons_zero, List.set_cons_succ]
                        refine wpAnyH_take (i := 11) (v := .string s) rfl (by kernel_rfl) (by kernel_rfl) (by kernel_rfl) (fun _ _ _ h => h) (Or.inl ⟨by rfl, fun w' hS' => by exact op_assign rfl rfl⟩) hS60 ?_
                        change wpAnyH _ _ _ _ _ _ _ (Act.put _ (some 19) (.string s)) _
                        simp only [Act.put, List.setIfInBounds_toArray, List.set_cons_zero, List.set_cons_succ]
                        refine wpAnyH_ready (rs := [12]) (by kernel_rfl) (by simp) (AllReadyH.cons rfl (fun K hK => ?_) (AllReadyH.nil))
                        · skip
                          obtain ⟨W68, hr70, hk71, hgr72⟩ := op_store7 (Blk.below (Blk.below hk54 hb58 hk54.lt) hb61 (Blk.below hk54 hb58 hk54.lt).lt) (e2.width) (e2.room) A62 n63 cp64 (e2.hits) (e2.misses) (e2.clashes) (e2.evicted)
                          refine step_op_skip (hr70 _ _ _ _ rfl rfl rfl) rfl ?_
                          refine hK.out _ _ (hS60.grown hgr72 hS60.size (fun b e => by injection e with e; rw [← e]; exact Nat.le_trans (hS2).size hg55)) (fun hS69 => ?_)
                          clear hK K
                          change wpAnyH _ _ _ _ _ _ _ (Act.put _ none (undef)) _
                          simp only [Act.put]
                          refine wpAnyH_take (i := 13) (v := .int .i64 b) rfl (by kernel_rfl) (by kernel_rfl) (by kernel_rfl) (fun _ _ _ h => h) (Or.inl ⟨by rfl, fun w' hS' => by exact op_assign rfl rfl⟩) hS69 ?_
                          change wpAnyH _ _ _ _ _ _ _ (Act.put _ (some 21) (.int .i64 b)) _
                          simp only [Act.put, List.setIfInBounds_toArray, List.set_cons_zero, List.set_cons_succ]
                          refine wpAnyH_done (by kernel_rfl) ?_ _
                          refine NoPanic.normal ?_
                          go_wp2_with fail
                          go_meet
                          exact ⟨gs50, A62, n63, cp64, rfl, rfl, rfl, hk71, (hp66.kept hgr72 (((Blk.below hk54 hb58 hk54.lt)).lt)).less (fun _ hb => Nat.lt_of_lt_of_le hb (hS57).size), hn65, hc67, hS69, Nat.le_trans (hS2).size hg55⟩
                · skip
                  obtain ⟨gs74, W73, hr77, hk78, hb76, hg79⟩ := op_allocC w7.drew
                  refine step_op_run (hr77 _ _ rfl) rfl ?_
                  refine hK.out _ _ (hS0.trans (hb76.mono hS0.size)) (fun hS75 => ?_)
                  clear hK K
                  change wpAnyH _ _ _ _ _ _ _ (Act.put _ (some 20) (.pointer (some ⟨gs74, 0, none⟩))) _
                  simp only [Act.put, List.setIfInBounds_toArray, List.set_cons_zero, List.set_cons_succ]
                  refine wpAnyH_ready (rs := [2]) (by kernel_rfl) (by simp) (AllReadyH.cons rfl (fun K hK => ?_) (AllReadyH.nil))
                  · skip
                    go_simp
                    refine (text_any (i : Int) _ HI6.out).mono ?_
                    rintro e W80 ⟨rfl, hb82⟩
                    refine hK.out _ _ (hS75.trans (hb82.mono hS75.size)) (fun hS81 => ?_)
                    clear hK K
                    simp only [List.setIfInBounds_toArray, List.set_cons_zero, List.set_cons_succ]
                    refine wpAnyH_ready (rs := [4]) (by kernel_rfl) (by simp) (AllReadyH.cons rfl (fun K hK => ?_) (AllReadyH.nil))
                    · skip
                      go_simp
                      refine (text_any (k : Int) _ HK6.out).mono ?_
                      rintro e W83 ⟨rfl, hb85⟩
                      refine hK.out _ _ (hS81.trans (hb85.mono hS81.size)) (fun hS84 => ?_)
                      clear hK K
                      simp only [List.setIfInBounds_toArray, List.set_cons_zero, List.set_cons_succ]
                      refine wpAnyH_ready (rs := [5]) (by kernel_rfl) (by simp) (AllReadyH.cons rfl (fun K hK => ?_) (AllReadyH.nil))
                      · skip
                        go_simp
                        refine (get_new d A9 n9 cap9 (textOf i) (textOf k) _ s e2 b HG2.out ((HP9.out.up (HB7.out)).up hS84) HN9.out HF9.out (text_le _) (text_le _)).mono ?_
                        rintro e W86 ⟨A89, n90, cp91, rfl, hn92, hp93, hb88, hc94⟩
                        refine hK.out _ _ (hS84.trans (hb88.mono hS84.size)) (fun hS87 => ?_)
                        clear hK K
                        simp only [List.setIfInBounds_toArray, List.set_cons_zero, List.set_cons_succ]
                        refine wpAnyH_take (i := 6) (v := .tuple #[.string s, .agg #[.int .i64 e2.width, .int .i64 e2.room, .slice A89 n90 cp91, .int .i64 e2.hits, .int .i64 e2.misses, .int .i64 e2.clashes, .int .i64 e2.evicted], .int .i64 b]) rfl (by kernel_rfl) (by kernel_rfl) (by kernel_rfl) (fun _ _ _ h => h) (Or.inl ⟨by rfl, fun w' hS' => by exact op_move rfl rfl⟩) hS87 ?_
                        change wpAnyH _ _ _ _ _ _ _ (Act.put _ (some 80) (.tuple #[.string s, .agg #[.int .i64 e2.width, .int .i64 e2.room, .slice A89 n90 cp91, .int .i64 e2.hits, .int .i64 e2.misses, .int .i64 e2.clashes, .int .i64 e2.evicted], .int .i64 b])) _
                        simp only [Act.put, List.setIfInBounds_toArray, List.set_cons_zero, List.set_cons_succ]
                        refine wpAnyH_take (i := 7) (v := .string s) rfl (by kernel_rfl) (by kernel_rfl) (by kernel_rfl) (fun _ _ _ h => h) (Or.inl ⟨by rfl, fun w' hS' => by go_simp⟩) hS87 ?_
                        change wpAnyH _ _ _ _ _ _ _ (Act.put _ (some 87) (.string s)) _
                        simp only [Act.put, List.setIfInBounds_toArray, List.set_cons_zero, List.set_cons_succ]
                        refine wpAnyH_take (i := 8) (v := .agg #[.int .i64 e2.width, .int .i64 e2.room, .slice A89 n90 cp91, .int .i64 e2.hits, .int .i64 e2.misses, .int .i64 e2.clashes, .int .i64 e2.evicted]) rfl (by kernel_rfl) (by kernel_rfl) (by kernel_rfl) (fun _ _ _ h => h) (Or.inl ⟨by rfl, fun w' hS' => by go_simp⟩) hS87 ?_
                        change wpAnyH _ _ _ _ _ _ _ (Act.put _ (some 88) (.agg #[.int .i64 e2.width, .int .i64 e2.room, .slice A89 n90 cp91, .int .i64 e2.hits, .int .i64 e2.misses, .int .i64 e2.clashes, .int .i64 e2.evicted])) _
                        simp only [Act.put, List.setIfInBounds_toArray, List.set_cons_zero, List.set_cons_succ]
                        refine wpAnyH_take (i := 9) (v := .int .i64 b) rfl (by kernel_rfl) (by kernel_rfl) (by kernel_rfl) (fun _ _ _ h => h) (Or.inl ⟨by rfl, fun w' hS' => by go_simp⟩) hS87 ?_
                        change wpAnyH _ _ _ _ _ _ _ (Act.put _ (some 89) (.int .i64 b)) _
                        simp only [Act.put, List.setIfInBounds_toArray, List.set_cons_zero, List.set_cons_succ]
                        refine wpAnyH_take (i := 11) (v := .string s) rfl (by kernel_rfl) (by kernel_rfl) (by kernel_rfl) (fun _ _ _ h => h) (Or.inl ⟨by rfl, fun w' hS' => by exact op_assign rfl rfl⟩) hS87 ?_
                        change wpAnyH _ _ _ _ _ _ _ (Act.put _ (some 19) (.string s)) _
                        simp only [Act.put, List.setIfInBounds_toArray, List.set_cons_zero, List.set_cons_succ]
                        refine wpAnyH_ready (rs := [12]) (by kernel_rfl) (by simp) (AllReadyH.cons rfl (fun K hK => ?_) (AllReadyH.nil))
                        · skip
                          obtain ⟨W95, hr97, hk98, hgr99⟩ := op_store7 (Blk.below (Blk.below (Blk.below hk78 hb82 hk78.lt) hb85 (Blk.below hk78 hb82 hk78.lt).lt) hb88 (Blk.below (Blk.below hk78 hb82 hk78.lt) hb85 (Blk.below hk78 hb82 hk78.lt).lt).lt) (e2.width) (e2.room) A89 n90 cp91 (e2.hits) (e2.misses) (e2.clashes) (e2.evicted)
                          refine step_op_skip (hr97 _ _ _ _ rfl rfl rfl) rfl ?_
                          refine hK.out _ _ (hS87.grown hgr99 hS87.size (fun b e => by injection e with e; rw [← e]; exact Nat.le_trans (hS0).size hg79)) (fun hS96 => ?_)
                          clear hK K
                          change wpAnyH _ _ _ _ _ _ _ (Act.put _ none (undef)) _
                          simp only [Act.put]
                          refine wpAnyH_take (i := 13) (v := .int .i64 b) rfl (by kernel_rfl) (by kernel_rfl) (by kernel_rfl) (fun _ _ _ h => h) (Or.inl ⟨by rfl, fun w' hS' => by exact op_assign rfl rfl⟩) hS96 ?_
                          change wpAnyH _ _ _ _ _ _ _ (Act.put _ (some 21) (.int .i64 b)) _
                          simp only [Act.put, List.setIfInBounds_toArray, List.set_cons_zero, List.set_cons_succ]
                          refine wpAnyH_done (by kernel_rfl) ?_ _
                          refine NoPanic.normal ?_
                          go_wp2_with fail
                          go_meet
                          exact ⟨gs74, A89, n90, cp91, rfl, rfl, rfl, hk98, (hp93.kept hgr99 (((Blk.below (Blk.below hk78 hb82 hk78.lt) hb85 (Blk.below hk78 hb82 hk78.lt).lt)).lt)).less (fun _ hb => Nat.lt_of_lt_of_le hb (hS84).size), hn92, hc94, hS96, Nat.le_trans (hS0).size hg79⟩
              case rest =>
                obtain ⟨gs2, A7, n7, c7, rfl, rfl, rfl, -, -, -, -, hbw, -⟩ := hcut
                have HB8b := Lib.hid (below_step HB7.out hbw)
                clear hbw
                go_wp2_with fail
                go_roundw
                case rel => exact ⟨k + 1, by omega, by go_num, HB8b⟩
                case measure => simp [intOf]; omega
          · obtain rfl : k = 6 := by omega
            go_wp2_with fail
            go_roundw
            case rel => exact ⟨i + 1, by omega, by go_num, HB6⟩
            case measure => simp [intOf]; omega
      · obtain rfl : i = 6 := by omega
        have HC8 : Hid (∀ W, Below w5b.heap.size w5b W → W.cell? ⟨g8, 0, none⟩ = some (.int .i64 c.width) ∧ W.cell? ⟨g8, 1, none⟩ = some (.int .i64 c.room) ∧ W.cell? ⟨g8, 2, none⟩ = some (.slice A8 n8 cap8) ∧ W.cell? ⟨g8, 3, none⟩ = some (.int .i64 c.hits) ∧ W.cell? ⟨g8, 4, none⟩ = some (.int .i64 c.misses) ∧ W.cell? ⟨g8, 5, none⟩ = some (.int .i64 c.clashes) ∧ W.cell? ⟨g8, 6, none⟩ = some (.int .i64 c.evicted)) := Lib.hid fun W hW => box7 HB8.out (below_step HB5.out hW)
        have HC9 : Hid (∀ W, Below w5b.heap.size w5b W → W.cell? ⟨g9, 0, none⟩ = some (.int .i64 d.width) ∧ W.cell? ⟨g9, 1, none⟩ = some (.int .i64 d.room) ∧ W.cell? ⟨g9, 2, none⟩ = some (.slice A9 n9 cap9) ∧ W.cell? ⟨g9, 3, none⟩ = some (.int .i64 d.hits) ∧ W.cell? ⟨g9, 4, none⟩ = some (.int .i64 d.misses) ∧ W.cell? ⟨g9, 5, none⟩ = some (.int .i64 d.clashes) ∧ W.cell? ⟨g9, 6, none⟩ = some (.int .i64 d.evicted)) := Lib.hid fun W hW => box7 HB9.out (below_step HB5.out hW)
        have HRD : Hid (rightC d = true) := Lib.hid (rightC_iff.2 HQ.out.good.right)
        go_wp2_with fail
        refine wp_region_noPanic ?_
        refine wp_region_held_drew (S := fun W => Below w5b.heap.size w5b W) (by kernel_rfl) ((Below.refl w5b.heap.size w5b).drew) (fun hS0 => ?_)
        change wpAnyH _ _ _ _ _ 13 #[false, false, false, false, false, false, false, false, false, false, false, false, false] _ (World.drew _)
        refine wpAnyH_take (i := 0) (v := .bool true) rfl (by kernel_rfl) (by kernel_rfl) (by kernel_rfl) (fun _ _ _ h => h) (Or.inl ⟨by rfl, fun w' hS' => by exact op_move rfl rfl⟩) hS0 ?_
        change wpAnyH _ _ _ _ _ _ _ (Act.put _ (some 98) (.bool true)) _
        simp only [Act.put, List.setIfInBounds_toArray, List.set_cons_zero, List.set_cons_succ]
        refine wpAnyH_take (i := 1) (v := .bool true) rfl (by kernel_rfl) (by kernel_rfl) (by kernel_rfl) (fun _ _ _ h => h) (Or.inl ⟨by rfl, fun w' hS' => by exact op_move rfl rfl⟩) hS0 ?_
        change wpAnyH _ _ _ _ _ _ _ (Act.put _ (some 99) (.bool true)) _
        simp only [Act.put, List.setIfInBounds_toArray, List.set_cons_zero, List.set_cons_succ]
        refine wpAnyH_take (i := 2) (v := .agg #[.int .i64 c.width, .int .i64 c.room, .slice A8 n8 cap8, .int .i64 c.hits, .int .i64 c.misses, .int .i64 c.clashes, .int .i64 c.evicted]) rfl (by kernel_rfl) (by kernel_rfl) (by kernel_rfl) (fun _ _ _ h => h) (Or.inl ⟨by rfl, fun w' hS' => by obtain ⟨y0, y1, y2, y3, y4, y5, y6⟩ := HC8.out _ hS'; go_simp⟩) hS0 ?_
        change wpAnyH _ _ _ _ _ _ _ (Act.put _ (some 100) (.agg #[.int .i64 c.width, .int .i64 c.room, .slice A8 n8 cap8, .int .i64 c.hits, .int .i64 c.misses, .int .i64 c.clashes, .int .i64 c.evicted])) _
        simp only [Act.put, List.setIfInBounds_toArray, List.set_cons_zero, List.set_cons_succ]
        refine wpAnyH_take (i := 4) (v := .agg #[.int .i64 d.width, .int .i64 d.room, .slice A9 n9 cap9, .int .i64 d.hits, .int .i64 d.misses, .int .i64 d.clashes, .int .i64 d.evicted]) rfl (by kernel_rfl) (by kernel_rfl) (by kernel_rfl) (fun _ _ _ h => h) (Or.inl ⟨by rfl, fun w' hS' => by obtain ⟨y0, y1, y2, y3, y4, y5, y6⟩ := HC9.out _ hS'; go_simp⟩) hS0 ?_
        change wpAnyH _ _ _ _ _ _ _ (Act.put _ (some 102) (.agg #[.int .i64 d.width, .int .i64 d.room, .slice A9 n9 cap9, .int .i64 d.hits, .int .i64 d.misses, .int .i64 d.clashes, .int .i64 d.evicted])) _
        simp only [Act.put, List.setIfInBounds_toArray, List.set_cons_zero, List.set_cons_succ]
        refine wpAnyH_ready (rs := [3]) (by kernel_rfl) (by simp) (AllReadyH.cons rfl (fun K hK => ?_) (AllReadyH.nil))
        · skip
          go_simp
          refine (sizeC_any c A8 n8 cap8 _ ((HP8.out.up HB5.out).up hS0) HN8.out HF8.out).mono ?_
          rintro e W1 ⟨rfl, hb3⟩
          refine hK.out _ _ (hS0.trans (hb3.mono hS0.size)) (fun hS2 => ?_)
          clear hK K
          simp only [List.setIfInBounds_toArray, List.set_cons_zero, List.set_cons_succ]
          refine wpAnyH_ready (rs := [5]) (by kernel_rfl) (by simp) (AllReadyH.cons rfl (fun K hK => ?_) (AllReadyH.nil))
          · skip
            go_simp
            refine (sizeC_any d A9 n9 cap9 _ ((HP9.out.up HB5.out).up hS2) HN9.out HF9.out).mono ?_
            rintro e W4 ⟨rfl, hb6⟩
            rw [HQ.out.size]
            refine hK.out _ _ (hS2.trans (hb6.mono hS2.size)) (fun hS5 => ?_)
            clear hK K
            simp only [List.setIfInBounds_toArray, List.set_cons_zero, List.set_cons_succ]
            refine wpAnyH_take (i := 6) (v := .bool true) rfl (by kernel_rfl) (by kernel_rfl) (by kernel_rfl) (fun _ _ _ h => h) (Or.inl ⟨by rfl, fun w' hS' => by go_simp⟩) hS5 ?_
            change wpAnyH _ _ _ _ _ _ _ (Act.put _ (some 104) (.bool true)) _
            simp only [Act.put, List.setIfInBounds_toArray, List.set_cons_zero, List.set_cons_succ]
            refine wpAnyH_take (i := 7) (v := .bool true) rfl (by kernel_rfl) (by kernel_rfl) (by kernel_rfl) (fun _ _ _ h => h) (Or.inl ⟨by rfl, fun w' hS' => by go_simp⟩) hS5 ?_
            change wpAnyH _ _ _ _ _ _ _ (Act.put _ (some 105) (.bool true)) _
            simp only [Act.put, List.setIfInBounds_toArray, List.set_cons_zero, List.set_cons_succ]
            refine wpAnyH_take (i := 8) (v := .bool true) rfl (by kernel_rfl) (by kernel_rfl) (by kernel_rfl) (fun _ _ _ h => h) (Or.inl ⟨by rfl, fun w' hS' => by exact op_move rfl rfl⟩) hS5 ?_
            change wpAnyH _ _ _ _ _ _ _ (Act.put _ (some 106) (.bool true)) _
            simp only [Act.put, List.setIfInBounds_toArray, List.set_cons_zero, List.set_cons_succ]
            refine wpAnyH_take (i := 9) (v := .agg #[.int .i64 d.width, .int .i64 d.room, .slice A9 n9 cap9, .int .i64 d.hits, .int .i64 d.misses, .int .i64 d.clashes, .int .i64 d.evicted]) rfl (by kernel_rfl) (by kernel_rfl) (by kernel_rfl) (fun _ _ _ h => h) (Or.inl ⟨by rfl, fun w' hS' => by obtain ⟨y0, y1, y2, y3, y4, y5, y6⟩ := HC9.out _ hS'; go_simp⟩) hS5 ?_
            change wpAnyH _ _ _ _ _ _ _ (Act.put _ (some 107) (.agg #[.int .i64 d.width, .int .i64 d.room, .slice A9 n9 cap9, .int .i64 d.hits, .int .i64 d.misses, .int .i64 d.clashes, .int .i64 d.evicted])) _
            simp only [Act.put, List.setIfInBounds_toArray, List.set_cons_zero, List.set_cons_succ]
            refine wpAnyH_ready (rs := [10]) (by kernel_rfl) (by simp) (AllReadyH.cons rfl (fun K hK => ?_) (AllReadyH.nil))
            · skip
              go_simp
              refine (rightC_any d A9 n9 cap9 _ true HRD.out ((HP9.out.up HB5.out).up hS5) HN9.out HF9.out).mono ?_
              rintro e W7 ⟨rfl, hb9⟩
              refine hK.out _ _ (hS5.trans (hb9.mono hS5.size)) (fun hS8 => ?_)
              clear hK K
              simp only [List.setIfInBounds_toArray, List.set_cons_zero, List.set_cons_succ]
              refine wpAnyH_take (i := 11) (v := .bool true) rfl (by kernel_rfl) (by kernel_rfl) (by kernel_rfl) (fun _ _ _ h => h) (Or.inl ⟨by rfl, fun w' hS' => by go_simp⟩) hS8 ?_
              change wpAnyH _ _ _ _ _ _ _ (Act.put _ (some 109) (.bool true)) _
              simp only [Act.put, List.setIfInBounds_toArray, List.set_cons_zero, List.set_cons_succ]
              refine wpAnyH_take (i := 12) (v := .bool true) rfl (by kernel_rfl) (by kernel_rfl) (by kernel_rfl) (fun _ _ _ h => h) (Or.inl ⟨by rfl, fun w' hS' => by exact op_assign rfl rfl⟩) hS8 ?_
              change wpAnyH _ _ _ _ _ _ _ (Act.put _ (some 6) (.bool true)) _
              simp only [Act.put, List.setIfInBounds_toArray, List.set_cons_zero, List.set_cons_succ]
              refine wpAnyH_done (by kernel_rfl) ?_ _
              refine NoPanic.normal ?_
              have HS := Lib.hid hS8
              go_wp2_with fail
              go_ret
              exact ⟨rfl, below_step HWL.out (below_step HB5.out HS.out)⟩

end Go.Proofs.Ytjifmfgfmciaeaa
