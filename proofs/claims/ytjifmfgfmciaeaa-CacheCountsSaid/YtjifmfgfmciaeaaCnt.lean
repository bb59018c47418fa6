/-
  collatorlaw14.CacheCounts returns true: each Get is counted once, as a hit, a miss or a clash; Put counts none of these; what is out is counted, and is gone. Nothing that was there is changed.
-/
import Derived.Test.YtjifmfgfmciaeaaLw
import Derived.Deep.CutBlock
import Derived.Test.YtjifmfgfmciaeaaOpn
namespace Go.Proofs.Ytjifmfgfmciaeaa
open Go.RowKit

/-- a cache that has been asked, or in which has been put, so many times: its counts -/
structure Cnt (c : Ca) (k : Nat) : Prop where
  good : Good c (20 + k)
  hits : c.hits ≤ k
  misses : c.misses ≤ k
  clashes : c.clashes ≤ k
  evicted : c.evicted ≤ 20 + k
theorem Cnt.low {c : Ca} {k : Nat} (h : Cnt c k) : 0 ≤ c.hits ∧ 0 ≤ c.misses ∧ 0 ≤ c.clashes ∧ 0 ≤ c.evicted := ⟨h.good.right.ch.1, h.good.right.cm.1, h.good.right.cc.1, h.good.right.ce.1⟩
theorem more_le {n : Int} {k : Nat} {m : Nat} (h : n ≤ m) : more n k ≤ ((m + k : Nat) : Int) := by unfold more; omega
theorem Cnt.get {c : Ca} {k : Nat} (h : Cnt c k) (l r : ByteArray) : Cnt (getC c l r).2.1 (k + 1) := by
  have hg := (h.good.get l r).mono (show 20 + k ≤ 20 + (k + 1) by omega)
  have h1 := h.hits
  have h2 := h.misses
  have h3 := h.clashes
  have h4 := h.evicted
  have hw := get_way h.good.right l r
  generalize getC c l r = g at hw hg
  cases hw with
  | none => exact ⟨hg, by show c.hits ≤ _; omega, more_le h2, by show c.clashes ≤ _; omega, by show c.evicted ≤ _; omega⟩
  | clash => exact ⟨hg, by show c.hits ≤ _; omega, by show c.misses ≤ _; omega, more_le h3, by show c.evicted ≤ _; omega⟩
  | hit => exact ⟨hg, more_le h1, by show c.misses ≤ _; omega, by show c.clashes ≤ _; omega, by show c.evicted ≤ _; omega⟩
theorem put_out {c : Ca} (h : RightC c) (l r v : ByteArray) : ((c.allP l r v).drop (c.roomP l r)).length ≤ 1 := by
  have h1 := all_len h l r v
  have h2 := (h.part _ (Ca.num_lt h l r)).2.1
  rw [List.length_drop]
  have h3 : c.roomP l r = roomN c.parts.length c.room (c.num l r) := rfl
  omega
theorem Cnt.put {c : Ca} {k : Nat} (h : Cnt c k) (l r v : ByteArray) (hk : k ≤ 1000) (hl : l.size ≤ 4096) (hr : r.size ≤ 4096) (hv : v.size ≤ 4096) : Cnt (putC c l r v).1 (k + 1) := by
  have hg := h.good.put l r v hl hr hv
  have h1 := h.hits
  have h2 := h.misses
  have h3 := h.clashes
  have h4 := h.evicted
  obtain ⟨e1, e2, e3, e4, e5⟩ := put_counts h.good.right l r v (by omega)
  have e6 := put_out h.good.right l r v
  exact ⟨hg, by omega, by omega, by omega, by omega⟩
theorem fold_counts : ∀ (zs : List Tri) {c : Ca} {m : Nat}, Good c m → c.hits = 0 → c.misses = 0 → c.clashes = 0 → c.evicted ≤ m → m + zs.length ≤ 1000 → (zs.foldl stepC c).hits = 0 ∧ (zs.foldl stepC c).misses = 0 ∧ (zs.foldl stepC c).clashes = 0 ∧ (zs.foldl stepC c).evicted ≤ m + zs.length
  | [], _, _, _, h1, h2, h3, h4, _ => ⟨h1, h2, h3, by simpa using h4⟩
  | z :: zs, c, m, hg, h1, h2, h3, h4, hm => by
    simp only [List.length_cons] at hm
    obtain ⟨e1, e2, e3, e4, e5⟩ := put_counts hg.right (textOf z.1) (textOf z.2.1) (textOf z.2.2) (by omega)
    have e6 := put_out hg.right (textOf z.1) (textOf z.2.1) (textOf z.2.2)
    have := fold_counts zs (step_good hg z) (c := stepC c z) (e1.trans h1) (e2.trans h2) (e3.trans h3) (by have : (stepC c z).evicted ≤ c.evicted + _ := e5; omega) (by omega)
    simp only [List.foldl_cons, List.length_cons]
    exact ⟨this.1, this.2.1, this.2.2.1, by have := this.2.2.2; omega⟩
theorem cacheOf_counts (z : Tri) (zs : List Tri) : Cnt (cacheOf z zs) 0 := by
  have hl : (zs.take 20).length ≤ 20 := List.length_take_le _ _
  have h0 : (cache0 z).hits = 0 ∧ (cache0 z).misses = 0 ∧ (cache0 z).clashes = 0 ∧ (cache0 z).evicted = 0 := by
    have := cache0_fits z
    unfold cache0 newC
    rw [if_pos this]
    exact ⟨rfl, rfl, rfl, rfl⟩
  have := fold_counts (zs.take 20) (cache0_good z) h0.1 h0.2.1 h0.2.2.1 (by rw [h0.2.2.2]; exact Int.le_refl _) (by omega)
  unfold cacheOf
  exact ⟨cacheOf_good z zs, by rw [this.1]; exact Int.le_refl _, by rw [this.2.1]; exact Int.le_refl _, by rw [this.2.2.1]; exact Int.le_refl _, by have := this.2.2.2; omega⟩
/-- what a Put does to counts and sizes -/
theorem put_sizes {c d : Ca} {k : Nat} {l r v : ByteArray} {b : Int} (h : Cnt c k) (hk : k ≤ 1000) (hm : putC c l r v = (d, b)) :
    b = 0 ∧ d.hits = c.hits ∧ d.misses = c.misses ∧ d.clashes = c.clashes ∧ c.evicted ≤ d.evicted ∧ (sizeC c : Int) ≤ (sizeC d : Int) + d.evicted - c.evicted ∧ (sizeC d : Int) + d.evicted - c.evicted ≤ (sizeC c : Int) + 1 := by
  have h1 := size_put h.good.right l r v
  have h2 := all_len h.good.right l r v
  have h3 := put_out h.good.right l r v
  have h4 := h.evicted
  have h5 := h.low.2.2.2
  have he : (putC c l r v).1.evicted = more c.evicted ((c.allP l r v).drop (c.roomP l r)).length := by rw [put_eq h.good.right]
  have hq := put_eq h.good.right l r v
  obtain ⟨e1, e2, e3, e4, _⟩ := put_counts h.good.right l r v (by omega)
  rw [hm] at h1 he e1 e2 e3 e4 hq
  have hb : b = 0 := congrArg Prod.snd hq
  simp only at h1 he e1 e2 e3 e4
  have hmore : more c.evicted ((c.allP l r v).drop (c.roomP l r)).length = c.evicted + ((c.allP l r v).drop (c.roomP l r)).length := by unfold more maxC; omega
  rw [hmore] at he
  exact ⟨hb, e1, e2, e3, e4, by omega, by omega⟩

set_option maxHeartbeats 8000000 in
set_option maxRecDepth 100000 in
theorem counts_any (z0 z1 z2 : Int) (A1 A2 A3 : Option Addr) (puts deeds : List Tri) (kinds : List Bool) (pn pc dn dc kn kc : Nat) (w : World) (hz : TriFit (z0, z1, z2)) (ha1 : TrisAt w A1 puts) (hn1 : puts.length = pn) (hl1 : pn ≤ 9223372036854775807) (hf1 : ∀ z ∈ puts, TriFit z) (ha2 : TrisAt w A2 deeds) (hn2 : deeds.length = dn) (hl2 : dn ≤ 9223372036854775807) (hf2 : ∀ z ∈ deeds, TriFit z) (ha3 : BoolsAt w A3 kinds) (hn3 : kinds.length = kn) (hl3 : kn ≤ 9223372036854775807) :
    Calls Try.prog 5 #[.agg #[.int .i64 z0, .int .i64 z1, .int .i64 z2], .slice A1 pn pc, .slice A2 dn dc, .slice A3 kn kc] w fun e w' => e = .returned (.bool true) ∧ Below w.heap.size w w' := by
  subst hn1 hn2 hn3
  have HA1 := Lib.hid ha1
  have HA2 := Lib.hid ha2
  have HA3 := Lib.hid ha3
  have HF1 := Lib.hid hf1
  have HF2 := Lib.hid hf2
  have HZ := Lib.hid hz
  clear ha1 ha2 ha3 hf1 hf2 hz
  go_enter Try.func5, Try.ntmps5
  go_wp2_with fail
  have hb0 := Blk.new w 22 #[.int .i64 z0, .int .i64 z1, .int .i64 z2]
  have hw0 : Below w.heap.size w (w.alloc (.cells #[.int .i64 z0, .int .i64 z1, .int .i64 z2] 22)) := (Below.refl _ _).alloc (Nat.le_refl _) _
  obtain ⟨w1, hwe⟩ : ∃ w1, w1 = w.alloc (.cells #[.int .i64 z0, .int .i64 z1, .int .i64 z2] 22) := ⟨_, rfl⟩
  obtain ⟨gn, hg⟩ : ∃ g, g = w.heap.size := ⟨_, rfl⟩
  rw [← hwe] at hb0 hw0 ⊢
  rw [← hg] at hb0 ⊢
  have HX1 := Lib.hid hb0
  have HW1 := Lib.hid hw0
  clear hb0 hw0 hwe hg
  refine (awake_any cache_ok _).mono ?_
  rintro e w2 ⟨rfl, hb⟩
  have HW2 := Lib.hid (below_step HW1.out hb)
  have hb3 := Blk.below HX1.out hb HX1.out.lt
  clear hb
  have k0 := Blk.cell hb3 0
  have k1 := Blk.cell hb3 1
  have k2 := Blk.cell hb3 2
  simp only [List.getElem?_toArray, List.getElem?_cons_zero, List.getElem?_cons_succ] at k0 k1 k2
  clear hb3
  go_wp2_with fail
  refine (cache_any z0 z1 z2 A1 puts puts.length pc _ HZ.out (HA1.out.up HW2.out) rfl hl1 HF1.out).mono ?_
  rintro e w3 ⟨A8, n8, cap8, rfl, hn8, hp8, hb, hc8⟩
  have HW3 := Lib.hid (below_step HW2.out hb)
  have HP3 := Lib.hid hp8
  clear hb hp8 k0 k1 k2
  obtain ⟨c0, hc⟩ : ∃ c, cacheOf (z0, z1, z2) puts = c := ⟨_, rfl⟩
  have HGC : Hid (Cnt c0 0) := Lib.hid (by rw [← hc]; exact cacheOf_counts _ _)
  rw [hc] at hn8 HP3 ⊢
  have HN8 := Lib.hid hn8
  clear hc hn8
  go_upto_region 3 with (fail)
  have hb8 : Blk (w3.alloc (.cells #[.int .i64 c0.width, .int .i64 c0.room, .slice A8 n8 cap8, .int .i64 c0.hits, .int .i64 c0.misses, .int .i64 c0.clashes, .int .i64 c0.evicted] 28)) w3.heap.size 28 #[.int .i64 c0.width, .int .i64 c0.room, .slice A8 n8 cap8, .int .i64 c0.hits, .int .i64 c0.misses, .int .i64 c0.clashes, .int .i64 c0.evicted] := Blk.new w3 _ _
  have hw4 : Below w3.heap.size w3 (w3.alloc (.cells #[.int .i64 c0.width, .int .i64 c0.room, .slice A8 n8 cap8, .int .i64 c0.hits, .int .i64 c0.misses, .int .i64 c0.clashes, .int .i64 c0.evicted] 28)) := (Below.refl _ _).alloc (Nat.le_refl _) _
  obtain ⟨w5, hwe⟩ : ∃ w5, w5 = w3.alloc (.cells #[.int .i64 c0.width, .int .i64 c0.room, .slice A8 n8 cap8, .int .i64 c0.hits, .int .i64 c0.misses, .int .i64 c0.clashes, .int .i64 c0.evicted] 28) := ⟨_, rfl⟩
  obtain ⟨g0, hg0⟩ : ∃ g, g = w3.heap.size := ⟨_, rfl⟩
  rw [← hwe] at hb8 hw4 ⊢
  rw [← hg0] at hb8 ⊢
  have HG : Hid (w3.heap.size ≤ g0) := Lib.hid (by omega)
  have HI0 : Hid (Below w3.heap.size w3 w5 ∧ Boxed (fun b => b = g0) w5 g0 c0) := Lib.hid ⟨hw4, A8, n8, cap8, hb8, ((HP3.out.add (show w3.heap.size ≤ g0 by omega)).less (fun b hb => .inr hb)).up hw4, HN8.out, hc8⟩
  clear hb8 hw4 hwe hg0
  go_wp2_with fail
  go_loopw [11] (fun s11 wr => ∃ (k : Nat) (c : Ca), k ≤ deeds.length ∧ k ≤ 30 ∧ s11 = .int .i64 k ∧ Hid (Cnt c k) ∧ Hid (Below w3.heap.size w3 wr ∧ Boxed (fun b => b = g0) wr g0 c)) (fun s11 _ => deeds.length - (intOf s11).toNat)
  case atStart => exact ⟨0, c0, Nat.zero_le _, Nat.zero_le _, rfl, HGC, HI0⟩
  case round =>
    obtain ⟨k, c, hk, hk30, rfl, HCN, HI⟩ := hrel
    obtain ⟨w4, rfl⟩ : ∃ w4, w4 = wr := ⟨_, rfl⟩
    by_cases g1 : k < deeds.length
    · by_cases g2 : k < 30
      · obtain ⟨A0, n0, cap0, hb0, hp0, hn0, hc0⟩ := HI.out.2
        have HB0 := Lib.hid hb0
        have HP0 := Lib.hid hp0
        have HN0 := Lib.hid hn0
        have HGC : Hid (Good c (20 + k)) := Lib.hid HCN.out.good
        have HF0 := Lib.hid (HCN.out.good.fit (by omega))
        have HWW := Lib.hid (below_step HW3.out HI.out.1)
        obtain ⟨z, hz⟩ : ∃ z, deeds[k]? = some z := ⟨_, List.getElem?_eq_getElem g1⟩
        obtain ⟨aa, rfl, hal, htz⟩ := tri_cells (HA2.out.up HWW.out) hz
        have HTZ0 := Lib.hid htz
        have HTF := Lib.hid (HF2.out z (List.mem_of_getElem? hz))
        clear hb0 hp0 hn0 hz htz
        obtain ⟨t0, t1, t2⟩ := HTZ0.out _ (Below.refl _ _)
        go_wp2_with fail
        refine (text_any z.1 _ HTF.out.1).mono ?_
        rintro e w5 ⟨rfl, hb5⟩
        have HB5 := Lib.hid hb5
        clear hb5 t0 t1 t2
        obtain ⟨t0, t1, t2⟩ := HTZ0.out _ HB5.out
        have hal5 := Nat.lt_of_lt_of_le hal HB5.out.size
        go_wp2_with fail
        refine (text_any z.2.1 _ HTF.out.2.1).mono ?_
        rintro e w6 ⟨rfl, hb6⟩
        have HB6 := Lib.hid (below_step HB5.out hb6)
        clear hb6 t0 t1 t2 hal5
        have HTZ : Hid (∀ W, Below w6.heap.size w6 W → W.cell? (aa.add (k * 3)) = some (.int .i64 z.1) ∧ W.cell? ⟨(aa.add (k * 3)).block, (aa.add (k * 3)).off + 1, none⟩ = some (.int .i64 z.2.1) ∧ W.cell? ⟨(aa.add (k * 3)).block, (aa.add (k * 3)).off + 2, none⟩ = some (.int .i64 z.2.2)) := Lib.hid fun W hW => HTZ0.out W (below_step HB6.out hW)
        have HC0 : Hid (∀ W, Below w6.heap.size w6 W → W.cell? ⟨g0, 0, none⟩ = some (.int .i64 c.width) ∧ W.cell? ⟨g0, 1, none⟩ = some (.int .i64 c.room) ∧ W.cell? ⟨g0, 2, none⟩ = some (.slice A0 n0 cap0) ∧ W.cell? ⟨g0, 3, none⟩ = some (.int .i64 c.hits) ∧ W.cell? ⟨g0, 4, none⟩ = some (.int .i64 c.misses) ∧ W.cell? ⟨g0, 5, none⟩ = some (.int .i64 c.clashes) ∧ W.cell? ⟨g0, 6, none⟩ = some (.int .i64 c.evicted)) := Lib.hid fun W hW => box7 HB0.out (below_step HB6.out hW)
        by_cases g3 : k < kinds.length
        · obtain ⟨bk, hbk⟩ : ∃ b, kinds[k]? = some b := ⟨_, List.getElem?_eq_getElem g3⟩
          obtain ⟨ab, rfl, hab, hcb⟩ := HA3.out.at_ hbk
          have hcell : w6.cell? (ab.add k) = some (.bool bk) := by
            have h1 := hcb 0 _ rfl
            rw [Nat.mul_one, Nat.add_zero] at h1
            exact ((below_step HWW.out HB6.out).cell (by rw [add_block]; exact hab)).trans h1
          clear hbk hcb
          cases bk with
          | true =>
            obtain ⟨d, b, hpm⟩ : ∃ d b, putC c (textOf z.1) (textOf z.2.1) (textOf z.2.2) = (d, b) := ⟨_, _, rfl⟩
            obtain ⟨hbz, hh1, hh2, hh3, hh4, hh5, hh6⟩ := put_sizes HCN.out (by omega) hpm
            subst hbz
            have HPM := Lib.hid hpm
            have HCN2 : Hid (Cnt d (k + 1)) := Lib.hid (by have := HCN.out.put (textOf z.1) (textOf z.2.1) (textOf z.2.2) (by omega) (text_le _) (text_le _) (text_le _); rw [hpm] at this; exact this)
            have HF6 := Lib.hid (HCN2.out.good.fit (by omega))
            have HFC : Hid (d.hits = c.hits ∧ d.misses = c.misses ∧ d.clashes = c.clashes ∧ c.evicted ≤ d.evicted ∧ (sizeC c : Int) ≤ (sizeC d : Int) + d.evicted - c.evicted ∧ (sizeC d : Int) + d.evicted - c.evicted ≤ (sizeC c : Int) + 1) := Lib.hid ⟨hh1, hh2, hh3, hh4, hh5, hh6⟩
            clear hpm hh1 hh2 hh3 hh4 hh5 hh6
            go_wp2_with fail
            clear hcell
            go_cut [14, 15] (fun s14 s15 wx => PutCut w6 d 0 s14 s15 wx)
            case first =>
              refine wp_region_noPanic ?_
              refine wp_region_held_drew (S := fun W => Below w6.heap.size w6 W) (by kernel_rfl) ((Below.refl w6.heap.size w6).drew) (fun hS0 => ?_)
              change wpAnyH _ _ _ _ _ 16 #[false, false, false, false, false, false, false, false, false, false, false, false, false, false, false, false] _ (World.drew _)
              refine wpAnyH_take (i := 0) (v := .agg #[.int .i64 c.width, .int .i64 c.room, .slice A0 n0 cap0, .int .i64 c.hits, .int .i64 c.misses, .int .i64 c.clashes, .int .i64 c.evicted]) rfl (by kernel_rfl) (by kernel_rfl) (by kernel_rfl) (fun _ _ _ h => h) (Or.inl ⟨by rfl, fun w' hS' => by obtain ⟨y0, y1, y2, y3, y4, y5, y6⟩ := HC0.out _ hS'; go_simp⟩) hS0 ?_
              change wpAnyH _ _ _ _ _ _ _ (Act.put _ (some 56) (.agg #[.int .i64 c.width, .int .i64 c.room, .slice A0 n0 cap0, .int .i64 c.hits, .int .i64 c.misses, .int .i64 c.clashes, .int .i64 c.evicted])) _
              simp only [Act.put, List.setIfInBounds_toArray, List.set_cons_zero, List.set_cons_succ]
              refine wpAnyH_take (i := 1) (v := .string (textOf z.1)) rfl (by kernel_rfl) (by kernel_rfl) (by kernel_rfl) (fun _ _ _ h => h) (Or.inl ⟨by rfl, fun w' hS' => by exact op_move rfl rfl⟩) hS0 ?_
              change wpAnyH _ _ _ _ _ _ _ (Act.put _ (some 57) (.string (textOf z.1))) _
              simp only [Act.put, List.setIfInBounds_toArray, List.set_cons_zero, List.set_cons_succ]
              refine wpAnyH_take (i := 2) (v := .string (textOf z.2.1)) rfl (by kernel_rfl) (by kernel_rfl) (by kernel_rfl) (fun _ _ _ h => h) (Or.inl ⟨by rfl, fun w' hS' => by exact op_move rfl rfl⟩) hS0 ?_
              change wpAnyH _ _ _ _ _ _ _ (Act.put _ (some 58) (.string (textOf z.2.1))) _
              simp only [Act.put, List.setIfInBounds_toArray, List.set_cons_zero, List.set_cons_succ]
              refine wpAnyH_take (i := 3) (v := .slice (some aa) deeds.length dc) rfl (by kernel_rfl) (by kernel_rfl) (by kernel_rfl) (fun _ _ _ h => h) (Or.inl ⟨by rfl, fun w' hS' => by exact op_move rfl rfl⟩) hS0 ?_
              change wpAnyH _ _ _ _ _ _ _ (Act.put _ (some 59) (.slice (some aa) deeds.length dc)) _
              simp only [Act.put, List.setIfInBounds_toArray, List.set_cons_zero, List.set_cons_succ]
              refine wpAnyH_take (i := 4) (v := .int .i64 (k : Int)) rfl (by kernel_rfl) (by kernel_rfl) (by kernel_rfl) (fun _ _ _ h => h) (Or.inl ⟨by rfl, fun w' hS' => by exact op_move rfl rfl⟩) hS0 ?_
              change wpAnyH _ _ _ _ _ _ _ (Act.put _ (some 60) (.int .i64 (k : Int))) _
              simp only [Act.put, List.setIfInBounds_toArray, List.set_cons_zero, List.set_cons_succ]
              refine wpAnyH_take (i := 5) (v := .pointer (some (aa.add (k * 3)))) rfl (by kernel_rfl) (by kernel_rfl) (by kernel_rfl) (fun _ _ _ h => h) (Or.inl ⟨by rfl, fun w' hS' => by go_simp⟩) hS0 ?_
              change wpAnyH _ _ _ _ _ _ _ (Act.put _ (some 61) (.pointer (some (aa.add (k * 3))))) _
              simp only [Act.put, List.setIfInBounds_toArray, List.set_cons_zero, List.set_cons_succ]
              refine wpAnyH_take (i := 6) (v := .pointer (some ⟨(aa.add (k * 3)).block, (aa.add (k * 3)).off + 2, none⟩)) rfl (by kernel_rfl) (by kernel_rfl) (by kernel_rfl) (fun _ _ _ h => h) (Or.inl ⟨by rfl, fun w' hS' => by go_simp⟩) hS0 ?_
              change wpAnyH _ _ _ _ _ _ _ (Act.put _ (some 62) (.pointer (some ⟨(aa.add (k * 3)).block, (aa.add (k * 3)).off + 2, none⟩))) _
              simp only [Act.put, List.setIfInBounds_toArray, List.set_cons_zero, List.set_cons_succ]
              refine wpAnyH_take (i := 7) (v := .int .i64 z.2.2) rfl (by kernel_rfl) (by kernel_rfl) (by kernel_rfl) (fun _ _ _ h => h) (Or.inl ⟨by rfl, fun w' hS' => by obtain ⟨t0, t1, t2⟩ := HTZ.out _ hS'; go_simp⟩) hS0 ?_
              change wpAnyH _ _ _ _ _ _ _ (Act.put _ (some 63) (.int .i64 z.2.2)) _
              simp only [Act.put, List.setIfInBounds_toArray, List.set_cons_zero, List.set_cons_succ]
              refine wpAnyH_ready (rs := [8, 13]) (by kernel_rfl) (by simp) (AllReadyH.cons rfl (fun K hK => ?_) (AllReadyH.cons rfl (fun K hK => ?_) (AllReadyH.nil)))
              · skip
                go_simp
                refine (text_any z.2.2 _ HTF.out.2.2).mono ?_
                rintro e W1 ⟨rfl, hb3⟩
                refine hK.out _ _ (hS0.trans (hb3.mono hS0.size)) (fun hS2 => ?_)
                clear hK K
                simp only [List.setIfInBounds_toArray, List.set_cons_zero, List.set_cons_succ]
                refine wpAnyH_ready (rs := [9, 13]) (by kernel_rfl) (by simp) (AllReadyH.cons rfl (fun K hK => ?_) (AllReadyH.cons rfl (fun K hK => ?_) (AllReadyH.nil)))
                · skip
                  go_simp
                  refine (put_new c A0 n0 cap0 (textOf z.1) (textOf z.2.1) (textOf z.2.2) _ d 0 HPM.out ((HP0.out.up HB6.out).up hS2) HN0.out HF0.out (text_le _) (text_le _) (text_le _)).mono ?_
                  rintro e W4 ⟨A7, n8, cp9, rfl, hn10, hp11, hb6, hc12⟩
                  refine hK.out _ _ (hS2.trans (hb6.mono hS2.size)) (fun hS5 => ?_)
                  clear hK K
                  simp only [List.setIfInBounds_toArray, List.set_cons_zero, List.set_cons_succ]
                  refine wpAnyH_take (i := 10) (v := .tuple #[.agg #[.int .i64 d.width, .int .i64 d.room, .slice A7 n8 cp9, .int .i64 d.hits, .int .i64 d.misses, .int .i64 d.clashes, .int .i64 d.evicted], .int .i64 0]) rfl (by kernel_rfl) (by kernel_rfl) (by kernel_rfl) (fun _ _ _ h => h) (Or.inl ⟨by rfl, fun w' hS' => by exact op_move rfl rfl⟩) hS5 ?_
                  change wpAnyH _ _ _ _ _ _ _ (Act.put _ (some 55) (.tuple #[.agg #[.int .i64 d.width, .int .i64 d.room, .slice A7 n8 cp9, .int .i64 d.hits, .int .i64 d.misses, .int .i64 d.clashes, .int .i64 d.evicted], .int .i64 0])) _
                  simp only [Act.put, List.setIfInBounds_toArray, List.set_cons_zero, List.set_cons_succ]
                  refine wpAnyH_take (i := 11) (v := .agg #[.int .i64 d.width, .int .i64 d.room, .slice A7 n8 cp9, .int .i64 d.hits, .int .i64 d.misses, .int .i64 d.clashes, .int .i64 d.evicted]) rfl (by kernel_rfl) (by kernel_rfl) (by kernel_rfl) (fun _ _ _ h => h) (Or.inl ⟨by rfl, fun w' hS' => by go_simp⟩) hS5 ?_
                  change wpAnyH _ _ _ _ _ _ _ (Act.put _ (some 66) (.agg #[.int .i64 d.width, .int .i64 d.room, .slice A7 n8 cp9, .int .i64 d.hits, .int .i64 d.misses, .int .i64 d.clashes, .int .i64 d.evicted])) _
                  simp only [Act.put, List.setIfInBounds_toArray, List.set_cons_zero, List.set_cons_succ]
                  refine wpAnyH_take (i := 12) (v := .int .i64 0) rfl (by kernel_rfl) (by kernel_rfl) (by kernel_rfl) (fun _ _ _ h => h) (Or.inl ⟨by rfl, fun w' hS' => by go_simp⟩) hS5 ?_
                  change wpAnyH _ _ _ _ _ _ _ (Act.put _ (some 67) (.int .i64 0)) _
                  simp only [Act.put, List.setIfInBounds_toArray, List.set_cons_zero, List.set_cons_succ]
                  refine wpAnyH_ready (rs := [13]) (by kernel_rfl) (by simp) (AllReadyH.cons rfl (fun K hK => ?_) (AllReadyH.nil))
                  · skip
                    obtain ⟨gs14, W13, hr17, hk18, hb16, hg19⟩ := op_allocC W4
                    refine step_op_run (hr17 _ _ rfl) rfl ?_
                    refine hK.out _ _ (hS5.trans (hb16.mono hS5.size)) (fun hS15 => ?_)
                    clear hK K
                    change wpAnyH _ _ _ _ _ _ _ (Act.put _ (some 14) (.pointer (some ⟨gs14, 0, none⟩))) _
                    simp only [Act.put, List.setIfInBounds_toArray, List.set_cons_zero, List.set_cons_succ]
                    refine wpAnyH_ready (rs := [14]) (by kernel_rfl) (by simp) (AllReadyH.cons rfl (fun K hK => ?_) (AllReadyH.nil))
                    · skip
                      obtain ⟨W20, hr22, hk23, hgr24⟩ := op_store7 hk18 (d.width) (d.room) A7 n8 cp9 (d.hits) (d.misses) (d.clashes) (d.evicted)
                      refine step_op_skip (hr22 _ _ _ _ rfl rfl rfl) rfl ?_
                      refine hK.out _ _ (hS15.grown hgr24 hS15.size (fun b e => by injection e with e; rw [← e]; exact Nat.le_trans (hS5).size hg19)) (fun hS21 => ?_)
                      clear hK K
                      change wpAnyH _ _ _ _ _ _ _ (Act.put _ none (undef)) _
                      simp only [Act.put]
                      refine wpAnyH_take (i := 15) (v := .int .i64 0) rfl (by kernel_rfl) (by kernel_rfl) (by kernel_rfl) (fun _ _ _ h => h) (Or.inl ⟨by rfl, fun w' hS' => by exact op_assign rfl rfl⟩) hS21 ?_
                      change wpAnyH _ _ _ _ _ _ _ (Act.put _ (some 15) (.int .i64 0)) _
                      simp only [Act.put, List.setIfInBounds_toArray, List.set_cons_zero, List.set_cons_succ]
                      refine wpAnyH_done (by kernel_rfl) ?_ _
                      refine NoPanic.normal ?_
                      go_wp2_with fail
                      go_meet
                      exact ⟨gs14, A7, n8, cp9, rfl, rfl, hk23, (((hp11.add hg19).up hb16).kept hgr24 (Or.inr rfl)).less (fun _ hb => .inl (Nat.lt_of_lt_of_le hb (hS2).size)), hn10, hc12, hS21, Nat.le_trans (hS5).size hg19⟩
                · skip
                  obtain ⟨gs26, W25, hr29, hk30, hb28, hg31⟩ := op_allocC W1
                  refine step_op_run (hr29 _ _ rfl) rfl ?_
                  refine hK.out _ _ (hS2.trans (hb28.mono hS2.size)) (fun hS27 => ?_)
                  clear hK K
                  change wpAnyH _ _ _ _ _ _ _ (Act.put _ (some 14) (.pointer (some ⟨gs26, 0, none⟩))) _
                  simp only [Act.put, List.setIfInBounds_toArray, List.set_cons_zero, List.set_cons_succ]
                  refine wpAnyH_ready (rs := [9]) (by kernel_rfl) (by simp) (AllReadyH.cons rfl (fun K hK => ?_) (AllReadyH.nil))
                  · skip
                    go_simp
                    refine (put_new c A0 n0 cap0 (textOf z.1) (textOf z.2.1) (textOf z.2.2) _ d 0 HPM.out ((HP0.out.up HB6.out).up hS27) HN0.out HF0.out (text_le _) (text_le _) (text_le _)).mono ?_
                    rintro e W32 ⟨A35, n36, cp37, rfl, hn38, hp39, hb34, hc40⟩
                    refine hK.out _ _ (hS27.trans (hb34.mono hS27.size)) (fun hS33 => ?_)
                    clear hK K
                    simp only [List.setIfInBounds_toArray, List.set_cons_zero, List.set_cons_succ]
                    refine wpAnyH_take (i := 10) (v := .tuple #[.agg #[.int .i64 d.width, .int .i64 d.room, .slice A35 n36 cp37, .int .i64 d.hits, .int .i64 d.misses, .int .i64 d.clashes, .int .i64 d.evicted], .int .i64 0]) rfl (by kernel_rfl) (by kernel_rfl) (by kernel_rfl) (fun _ _ _ h => h) (Or.inl ⟨by rfl, fun w' hS' => by exact op_move rfl rfl⟩) hS33 ?_
                    change wpAnyH _ _ _ _ _ _ _ (Act.put _ (some 55) (.tuple #[.agg #[.int .i64 d.width, .int .i64 d.room, .slice A35 n36 cp37, .int .i64 d.hits, .int .i64 d.misses, .int .i64 d.clashes, .int .i64 d.evicted], .int .i64 0])) _
                    simp only [Act.put, List.setIfInBounds_toArray, List.set_cons_zero, List.set_cons_succ]
                    refine wpAnyH_take (i := 11) (v := .agg #[.int .i64 d.width, .int .i64 d.room, .slice A35 n36 cp37, .int .i64 d.hits, .int .i64 d.misses, .int .i64 d.clashes, .int .i64 d.evicted]) rfl (by kernel_rfl) (by kernel_rfl) (by kernel_rfl) (fun _ _ _ h => h) (Or.inl ⟨by rfl, fun w' hS' => by go_simp⟩) hS33 ?_
                    change wpAnyH _ _ _ _ _ _ _ (Act.put _ (some 66) (.agg #[.int .i64 d.width, .int .i64 d.room, .slice A35 n36 cp37, .int .i64 d.hits, .int .i64 d.misses, .int .i64 d.clashes, .int .i64 d.evicted])) _
                    simp only [Act.put, List.setIfInBounds_toArray, List.set_cons_zero, List.set_cons_succ]
                    refine wpAnyH_take (i := 12) (v := .int .i64 0) rfl (by kernel_rfl) (by kernel_rfl) (by kernel_rfl) (fun _ _ _ h => h) (Or.inl ⟨by rfl, fun w' hS' => by go_simp⟩) hS33 ?_
                    change wpAnyH _ _ _ _ _ _ _ (Act.put _ (some 67) (.int .i64 0)) _
                    simp only [Act.put, List.setIfInBounds_toArray, List.set_cons_zero, List.set_cons_succ]
                    refine wpAnyH_ready (rs := [14]) (by kernel_rfl) (by simp) (AllReadyH.cons rfl (fun K hK => ?_) (AllReadyH.nil))
                    · skip
                      obtain ⟨W41, hr43, hk44, hgr45⟩ := op_store7 (Blk.below hk30 hb34 hk30.lt) (d.width) (d.room) A35 n36 cp37 (d.hits) (d.misses) (d.clashes) (d.evicted)
                      refine step_op_skip (hr43 _ _ _ _ rfl rfl rfl) rfl ?_
                      refine hK.out _ _ (hS33.grown hgr45 hS33.size (fun b e => by injection e with e; rw [← e]; exact Nat.le_trans (hS2).size hg31)) (fun hS42 => ?_)
                      clear hK K
                      change wpAnyH _ _ _ _ _ _ _ (Act.put _ none (undef)) _
                      simp only [Act.put]
                      refine wpAnyH_take (i := 15) (v := .int .i64 0) rfl (by kernel_rfl) (by kernel_rfl) (by kernel_rfl) (fun _ _ _ h => h) (Or.inl ⟨by rfl, fun w' hS' => by exact op_assign rfl rfl⟩) hS42 ?_
                      change wpAnyH _ _ _ _ _ _ _ (Act.put _ (some 15) (.int .i64 0)) _
                      simp only [Act.put, List.setIfInBounds_toArray, List.set_cons_zero, List.set_cons_succ]
                      refine wpAnyH_done (by kernel_rfl) ?_ _
                      refine NoPanic.normal ?_
                      go_wp2_with fail
                      go_meet
                      exact ⟨gs26, A35, n36, cp37, rfl, rfl, hk44, (hp39.kept hgr45 ((hk30).lt)).less (fun _ hb => Nat.lt_of_lt_of_le hb (hS27).size), hn38, hc40, hS42, Nat.le_trans (hS2).size hg31⟩
              · skip
                obtain ⟨gs47, W46, hr50, hk51, hb49, hg52⟩ := op_allocC w6.drew
                refine step_op_run (hr50 _ _ rfl) rfl ?_
                refine hK.out _ _ (hS0.trans (hb49.mono hS0.size)) (fun hS48 => ?_)
                clear hK K
                change wpAnyH _ _ _ _ _ _ _ (Act.put _ (some 14) (.pointer (some ⟨gs47, 0, none⟩))) _
                simp only [Act.put, List.setIfInBounds_toArray, List.set_cons_zero, List.set_cons_succ]
                refine wpAnyH_ready (rs := [8]) (by kernel_rfl) (by simp) (AllReadyH.cons rfl (fun K hK => ?_) (AllReadyH.nil))
                · skip
                  go_simp
                  refine (text_any z.2.2 _ HTF.out.2.2).mono ?_
                  rintro e W53 ⟨rfl, hb55⟩
                  refine hK.out _ _ (hS48.trans (hb55.mono hS48.size)) (fun hS54 => ?_)
                  clear hK K
                  simp only [List.setIfInBounds_toArray, List.set_cons_zero, List.set_cons_succ]
                  refine wpAnyH_ready (rs := [9]) (by kernel_rfl) (by simp) (AllReadyH.cons rfl (fun K hK => ?_) (AllReadyH.nil))
                  · skip
                    go_simp
                    refine (put_new c A0 n0 cap0 (textOf z.1) (textOf z.2.1) (textOf z.2.2) _ d 0 HPM.out ((HP0.out.up HB6.out).up hS54) HN0.out HF0.out (text_le _) (text_le _) (text_le _)).mono ?_
                    rintro e W56 ⟨A59, n60, cp61, rfl, hn62, hp63, hb58, hc64⟩
                    refine hK.out _ _ (hS54.trans (hb58.mono hS54.size)) (fun hS57 => ?_)
                    clear hK K
                    simp only [List.setIfInBounds_toArray, List.set_cons_zero, List.set_cons_succ]
                    refine wpAnyH_take (i := 10) (v := .tuple #[.agg #[.int .i64 d.width, .int .i64 d.room, .slice A59 n60 cp61, .int .i64 d.hits, .int .i64 d.misses, .int .i64 d.clashes, .int .i64 d.evicted], .int .i64 0]) rfl (by kernel_rfl) (by kernel_rfl) (by kernel_rfl) (fun _ _ _ h => h) (Or.inl ⟨by rfl, fun w' hS' => by exact op_move rfl rfl⟩) hS57 ?_
                    change wpAnyH _ _ _ _ _ _ _ (Act.put _ (some 55) (.tuple #[.agg #[.int .i64 d.width, .int .i64 d.room, .slice A59 n60 cp61, .int .i64 d.hits, .int .i64 d.misses, .int .i64 d.clashes, .int .i64 d.evicted], .int .i64 0])) _
                    simp only [Act.put, List.setIfInBounds_toArray, List.set_cons_zero, List.set_cons_succ]
                    refine wpAnyH_take (i := 11) (v := .agg #[.int .i64 d.width, .int .i64 d.room, .slice A59 n60 cp61, .int .i64 d.hits, .int .i64 d.misses, .int .i64 d.clashes, .int .i64 d.evicted]) rfl (by kernel_rfl) (by kernel_rfl) (by kernel_rfl) (fun _ _ _ h => h) (Or.inl ⟨by rfl, fun w' hS' => by go_simp⟩) hS57 ?_
                    change wpAnyH _ _ _ _ _ _ _ (Act.put _ (some 66) (.agg #[.int .i64 d.width, .int .i64 d.room, .slice A59 n60 cp61, .int .i64 d.hits, .int .i64 d.misses, .int .i64 d.clashes, .int .i64 d.evicted])) _
                    simp only [Act.put, List.setIfInBounds_toArray, List.set_cons_zero, List.set_cons_succ]
                    refine wpAnyH_take (i := 12) (v := .int .i64 0) rfl (by kernel_rfl) (by kernel_rfl) (by kernel_rfl) (fun _ _ _ h => h) (Or.inl ⟨by rfl, fun w' hS' => by go_simp⟩) hS57 ?_
                    change wpAnyH _ _ _ _ _ _ _ (Act.put _ (some 67) (.int .i64 0)) _
                    simp only [Act.put, List.setIfInBounds_toArray, List.set_cons_zero, List.set_cons_succ]
                    refine wpAnyH_ready (rs := [14]) (by kernel_rfl) (by simp) (AllReadyH.cons rfl (fun K hK => ?_) (AllReadyH.nil))
                    · skip
                      obtain ⟨W65, hr67, hk68, hgr69⟩ := op_store7 (Blk.below (Blk.below hk51 hb55 hk51.lt) hb58 (Blk.below hk51 hb55 hk51.lt).lt) (d.width) (d.room) A59 n60 cp61 (d.hits) (d.misses) (d.clashes) (d.evicted)
                      refine step_op_skip (hr67 _ _ _ _ rfl rfl rfl) rfl ?_
                      refine hK.out _ _ (hS57.grown hgr69 hS57.size (fun b e => by injection e with e; rw [← e]; exact Nat.le_trans (hS0).size hg52)) (fun hS66 => ?_)
                      clear hK K
                      change wpAnyH _ _ _ _ _ _ _ (Act.put _ none (undef)) _
                      simp only [Act.put]
                      refine wpAnyH_take (i := 15) (v := .int .i64 0) rfl (by kernel_rfl) (by kernel_rfl) (by kernel_rfl) (fun _ _ _ h => h) (Or.inl ⟨by rfl, fun w' hS' => by exact op_assign rfl rfl⟩) hS66 ?_
                      change wpAnyH _ _ _ _ _ _ _ (Act.put _ (some 15) (.int .i64 0)) _
                      simp only [Act.put, List.setIfInBounds_toArray, List.set_cons_zero, List.set_cons_succ]
                      refine wpAnyH_done (by kernel_rfl) ?_ _
                      refine NoPanic.normal ?_
                      go_wp2_with fail
                      go_meet
                      exact ⟨gs47, A59, n60, cp61, rfl, rfl, hk68, (hp63.kept hgr69 (((Blk.below hk51 hb55 hk51.lt)).lt)).less (fun _ hb => Nat.lt_of_lt_of_le hb (hS54).size), hn62, hc64, hS66, Nat.le_trans (hS0).size hg52⟩
            case rest =>
              obtain ⟨g6, A6, n6, c6, rfl, rfl, hbs, hp6, hn6, hc6, hbw, hge⟩ := hcut
              obtain ⟨w7, rfl⟩ : ∃ w7, w7 = wc := ⟨_, rfl⟩
              have HB7 := Lib.hid (below_step HB6.out hbw)
              have HB6s := Lib.hid hbs
              have HP6 := Lib.hid hp6
              have HN6 := Lib.hid hn6
              have HC66 := Lib.hid hc6
              have HB0c := Lib.hid (Blk.below HB0.out HB7.out HB0.out.lt)
              have HW7 : Hid (Below w3.heap.size w3 w7) := Lib.hid (below_step HI.out.1 HB7.out)
              have HG6 : Hid (g0 < w6.heap.size) := Lib.hid (Nat.lt_of_lt_of_le HB0.out.lt HB6.out.size)
              have HGN : Hid (g6 ≠ g0) := Lib.hid (by have := HG6.out; omega)
              have HC6 : Hid (∀ W, Below w7.heap.size w7 W → W.cell? ⟨g6, 0, none⟩ = some (.int .i64 d.width) ∧ W.cell? ⟨g6, 1, none⟩ = some (.int .i64 d.room) ∧ W.cell? ⟨g6, 2, none⟩ = some (.slice A6 n6 c6) ∧ W.cell? ⟨g6, 3, none⟩ = some (.int .i64 d.hits) ∧ W.cell? ⟨g6, 4, none⟩ = some (.int .i64 d.misses) ∧ W.cell? ⟨g6, 5, none⟩ = some (.int .i64 d.clashes) ∧ W.cell? ⟨g6, 6, none⟩ = some (.int .i64 d.evicted)) := Lib.hid fun W hW => box7 HB6s.out hW
              have HC7 : Hid (∀ W, Below w7.heap.size w7 W → W.cell? ⟨g0, 0, none⟩ = some (.int .i64 c.width) ∧ W.cell? ⟨g0, 1, none⟩ = some (.int .i64 c.room) ∧ W.cell? ⟨g0, 2, none⟩ = some (.slice A0 n0 cap0) ∧ W.cell? ⟨g0, 3, none⟩ = some (.int .i64 c.hits) ∧ W.cell? ⟨g0, 4, none⟩ = some (.int .i64 c.misses) ∧ W.cell? ⟨g0, 5, none⟩ = some (.int .i64 c.clashes) ∧ W.cell? ⟨g0, 6, none⟩ = some (.int .i64 c.evicted)) := Lib.hid fun W hW => box7 HB0c.out hW
              obtain ⟨sc, hsc⟩ : ∃ n, sizeC c = n := ⟨_, rfl⟩
              obtain ⟨sd, hsd⟩ : ∃ n, sizeC d = n := ⟨_, rfl⟩
              obtain ⟨i1, i2, i3, i4, i5, i6⟩ := HFC.out
              rw [hsc, hsd] at i5 i6
              have hsc1 : sc ≤ 50 := by rw [← hsc]; have := HCN.out.good.size; omega
              have hsd1 : sd ≤ 51 := by rw [← hsd]; have := HCN2.out.good.size; omega
              have hev1 := HCN.out.evicted
              have hev2 := HCN2.out.evicted
              have hev3 := HCN.out.low.2.2.2
              have hev4 := HCN2.out.low.2.2.2
              have HSC := Lib.hid hsc
              have HSD := Lib.hid hsd
              have wa1 : IntKind.i64.wrap ((sd : Int) + d.evicted) = (sd : Int) + d.evicted := IntWalk.i64_in _ (by omega)
              have wa2 : IntKind.i64.wrap ((sd : Int) + d.evicted - c.evicted) = (sd : Int) + d.evicted - c.evicted := IntWalk.i64_in _ (by omega)
              have wa3 : IntKind.i64.wrap ((sc : Int) + 1) = (sc : Int) + 1 := IntWalk.i64_in _ (by omega)
              have e1 : ((d.hits != c.hits) : Bool) = false := by rw [bne_eq_false_iff_eq]; exact i1
              have e2 : ((d.misses != c.misses) : Bool) = false := by rw [bne_eq_false_iff_eq]; exact i2
              have e3 : ((d.clashes != c.clashes) : Bool) = false := by rw [bne_eq_false_iff_eq]; exact i3
              have e4 : decide (d.evicted < c.evicted) = false := decide_eq_false (by omega)
              have e5 : decide ((sd : Int) + d.evicted - c.evicted < (sc : Int)) = false := decide_eq_false (by omega)
              have e6 : decide ((sc : Int) + 1 < (sd : Int) + d.evicted - c.evicted) = false := decide_eq_false (by omega)
              clear i1 i2 i3 i4 i5 i6 hsc hsd hsc1 hsd1 hev1 hev2 hev3 hev4 hbs hp6 hn6 hc6 hbw hge
              go_wp2_with fail
              refine wp_region_noPanic ?_
              refine wp_region_held_drew (S := fun W => Below w7.heap.size w7 W) (by kernel_rfl) ((Below.refl w7.heap.size w7).drew) (fun hS0 => ?_)
              change wpAnyH _ _ _ _ _ 57 #[false, false, false, false, false, false, false, false, false, false, false, false, false, false, false, false, false, false, false, false, false, false, false, false, false, false, false, false, false, false, false, false, false, false, false, false, false, false, false, false, false, false, false, false, false, false, false, false, false, false, false, false, false, false, false, false, false] _ (World.drew _)
              refine wpAnyH_take (i := 0) (v := .int .i64 0) rfl (by kernel_rfl) (by kernel_rfl) (by kernel_rfl) (fun _ _ _ h => h) (Or.inl ⟨by rfl, fun w' hS' => by exact op_move rfl rfl⟩) hS0 ?_
              change wpAnyH _ _ _ _ _ _ _ (Act.put _ (some 68) (.int .i64 0)) _
              simp only [Act.put, List.setIfInBounds_toArray, List.set_cons_zero, List.set_cons_succ]
              refine wpAnyH_take (i := 1) (v := .bool false) rfl (by kernel_rfl) (by kernel_rfl) (by kernel_rfl) (fun _ _ _ h => h) (Or.inl ⟨by rfl, fun w' hS' => by go_simp⟩) hS0 ?_
              change wpAnyH _ _ _ _ _ _ _ (Act.put _ (some 69) (.bool false)) _
              simp only [Act.put, List.setIfInBounds_toArray, List.set_cons_zero, List.set_cons_succ]
              refine wpAnyH_take (i := 2) (v := .bool false) rfl (by kernel_rfl) (by kernel_rfl) (by kernel_rfl) (fun _ _ _ h => h) (Or.inl ⟨by rfl, fun w' hS' => by exact op_move rfl rfl⟩) hS0 ?_
              change wpAnyH _ _ _ _ _ _ _ (Act.put _ (some 70) (.bool false)) _
              simp only [Act.put, List.setIfInBounds_toArray, List.set_cons_zero, List.set_cons_succ]
              refine wpAnyH_take (i := 3) (v := .pointer (some ⟨g6, 3, none⟩)) rfl (by kernel_rfl) (by kernel_rfl) (by kernel_rfl) (fun _ _ _ h => h) (Or.inl ⟨by rfl, fun w' hS' => by go_simp⟩) hS0 ?_
              change wpAnyH _ _ _ _ _ _ _ (Act.put _ (some 71) (.pointer (some ⟨g6, 3, none⟩))) _
              simp only [Act.put, List.setIfInBounds_toArray, List.set_cons_zero, List.set_cons_succ]
              refine wpAnyH_take (i := 4) (v := .int .i64 d.hits) rfl (by kernel_rfl) (by kernel_rfl) (by kernel_rfl) (fun _ _ _ h => h) (Or.inl ⟨by rfl, fun w' hS' => by obtain ⟨y0, y1, y2, y3, y4, y5, y6⟩ := HC6.out _ hS'; go_simp⟩) hS0 ?_
              change wpAnyH _ _ _ _ _ _ _ (Act.put _ (some 72) (.int .i64 d.hits)) _
              simp only [Act.put, List.setIfInBounds_toArray, List.set_cons_zero, List.set_cons_succ]
              refine wpAnyH_take (i := 5) (v := .pointer (some ⟨g0, 3, none⟩)) rfl (by kernel_rfl) (by kernel_rfl) (by kernel_rfl) (fun _ _ _ h => h) (Or.inl ⟨by rfl, fun w' hS' => by go_simp⟩) hS0 ?_
              change wpAnyH _ _ _ _ _ _ _ (Act.put _ (some 73) (.pointer (some ⟨g0, 3, none⟩))) _
              simp only [Act.put, List.setIfInBounds_toArray, List.set_cons_zero, List.set_cons_succ]
              refine wpAnyH_take (i := 6) (v := .int .i64 c.hits) rfl (by kernel_rfl) (by kernel_rfl) (by kernel_rfl) (fun _ _ _ h => h) (Or.inl ⟨by rfl, fun w' hS' => by obtain ⟨y0, y1, y2, y3, y4, y5, y6⟩ := HC7.out _ hS'; go_simp⟩) hS0 ?_
              change wpAnyH _ _ _ _ _ _ _ (Act.put _ (some 74) (.int .i64 c.hits)) _
              simp only [Act.put, List.setIfInBounds_toArray, List.set_cons_zero, List.set_cons_succ]
              refine wpAnyH_take (i := 7) (v := .bool false) rfl (by kernel_rfl) (by kernel_rfl) (by kernel_rfl) (fun _ _ _ h => h) (Or.inl ⟨by rfl, fun w' hS' => by go_simp⟩) hS0 ?_
              change wpAnyH _ _ _ _ _ _ _ (Act.put _ (some 75) (.bool false)) _
              simp only [Act.put, List.setIfInBounds_toArray, List.set_cons_zero, List.set_cons_succ]
              refine wpAnyH_take (i := 8) (v := .bool false) rfl (by kernel_rfl) (by kernel_rfl) (by kernel_rfl) (fun _ _ _ h => h) (Or.inl ⟨by rfl, fun w' hS' => by go_simp⟩) hS0 ?_
              change wpAnyH _ _ _ _ _ _ _ (Act.put _ (some 76) (.bool false)) _
              simp only [Act.put, List.setIfInBounds_toArray, List.set_cons_zero, List.set_cons_succ]
              refine wpAnyH_take (i := 9) (v := .bool false) rfl (by kernel_rfl) (by kernel_rfl) (by kernel_rfl) (fun _ _ _ h => h) (Or.inl ⟨by rfl, fun w' hS' => by exact op_move rfl rfl⟩) hS0 ?_
              change wpAnyH _ _ _ _ _ _ _ (Act.put _ (some 77) (.bool false)) _
              simp only [Act.put, List.setIfInBounds_toArray, List.set_cons_zero, List.set_cons_succ]
              refine wpAnyH_take (i := 10) (v := .pointer (some ⟨g6, 4, none⟩)) rfl (by kernel_rfl) (by kernel_rfl) (by kernel_rfl) (fun _ _ _ h => h) (Or.inl ⟨by rfl, fun w' hS' => by go_simp⟩) hS0 ?_
              change wpAnyH _ _ _ _ _ _ _ (Act.put _ (some 78) (.pointer (some ⟨g6, 4, none⟩))) _
              simp only [Act.put, List.setIfInBounds_toArray, List.set_cons_zero, List.set_cons_succ]
              refine wpAnyH_take (i := 11) (v := .int .i64 d.misses) rfl (by kernel_rfl) (by kernel_rfl) (by kernel_rfl) (fun _ _ _ h => h) (Or.inl ⟨by rfl, fun w' hS' => by obtain ⟨y0, y1, y2, y3, y4, y5, y6⟩ := HC6.out _ hS'; go_simp⟩) hS0 ?_
              change wpAnyH _ _ _ _ _ _ _ (Act.put _ (some 79) (.int .i64 d.misses)) _
              simp only [Act.put, List.setIfInBounds_toArray, List.set_cons_zero, List.set_cons_succ]
              refine wpAnyH_take (i := 12) (v := .pointer (some ⟨g0, 4, none⟩)) rfl (by kernel_rfl) (by kernel_rfl) (by kernel_rfl) (fun _ _ _ h => h) (Or.inl ⟨by rfl, fun w' hS' => by go_simp⟩) hS0 ?_
              change wpAnyH _ _ _ _ _ _ _ (Act.put _ (some 80) (.pointer (some ⟨g0, 4, none⟩))) _
              simp only [Act.put, List.setIfInBounds_toArray, List.set_cons_zero, List.set_cons_succ]
              refine wpAnyH_take (i := 13) (v := .int .i64 c.misses) rfl (by kernel_rfl) (by kernel_rfl) (by kernel_rfl) (fun _ _ _ h => h) (Or.inl ⟨by rfl, fun w' hS' => by obtain ⟨y0, y1, y2, y3, y4, y5, y6⟩ := HC7.out _ hS'; go_simp⟩) hS0 ?_
              change wpAnyH _ _ _ _ _ _ _ (Act.put _ (some 81) (.int .i64 c.misses)) _
              simp only [Act.put, List.setIfInBounds_toArray, List.set_cons_zero, List.set_cons_succ]
              refine wpAnyH_take (i := 14) (v := .bool false) rfl (by kernel_rfl) (by kernel_rfl) (by kernel_rfl) (fun _ _ _ h => h) (Or.inl ⟨by rfl, fun w' hS' => by go_simp⟩) hS0 ?_
              change wpAnyH _ _ _ _ _ _ _ (Act.put _ (some 82) (.bool false)) _
              simp only [Act.put, List.setIfInBounds_toArray, List.set_cons_zero, List.set_cons_succ]
              refine wpAnyH_take (i := 15) (v := .bool false) rfl (by kernel_rfl) (by kernel_rfl) (by kernel_rfl) (fun _ _ _ h => h) (Or.inl ⟨by rfl, fun w' hS' => by go_simp⟩) hS0 ?_
              change wpAnyH _ _ _ _ _ _ _ (Act.put _ (some 83) (.bool false)) _
              simp only [Act.put, List.setIfInBounds_toArray, List.set_cons_zero, List.set_cons_succ]
              refine wpAnyH_take (i := 16) (v := .bool false) rfl (by kernel_rfl) (by kernel_rfl) (by kernel_rfl) (fun _ _ _ h => h) (Or.inl ⟨by rfl, fun w' hS' => by exact op_move rfl rfl⟩) hS0 ?_
              change wpAnyH _ _ _ _ _ _ _ (Act.put _ (some 84) (.bool false)) _
              simp only [Act.put, List.setIfInBounds_toArray, List.set_cons_zero, List.set_cons_succ]
              refine wpAnyH_take (i := 17) (v := .pointer (some ⟨g6, 5, none⟩)) rfl (by kernel_rfl) (by kernel_rfl) (by kernel_rfl) (fun _ _ _ h => h) (Or.inl ⟨by rfl, fun w' hS' => by go_simp⟩) hS0 ?_
              change wpAnyH _ _ _ _ _ _ _ (Act.put _ (some 85) (.pointer (some ⟨g6, 5, none⟩))) _
              simp only [Act.put, List.setIfInBounds_toArray, List.set_cons_zero, List.set_cons_succ]
              refine wpAnyH_take (i := 18) (v := .int .i64 d.clashes) rfl (by kernel_rfl) (by kernel_rfl) (by kernel_rfl) (fun _ _ _ h => h) (Or.inl ⟨by rfl, fun w' hS' => by obtain ⟨y0, y1, y2, y3, y4, y5, y6⟩ := HC6.out _ hS'; go_simp⟩) hS0 ?_
              change wpAnyH _ _ _ _ _ _ _ (Act.put _ (some 86) (.int .i64 d.clashes)) _
              simp only [Act.put, List.setIfInBounds_toArray, List.set_cons_zero, List.set_cons_succ]
              refine wpAnyH_take (i := 19) (v := .pointer (some ⟨g0, 5, none⟩)) rfl (by kernel_rfl) (by kernel_rfl) (by kernel_rfl) (fun _ _ _ h => h) (Or.inl ⟨by rfl, fun w' hS' => by go_simp⟩) hS0 ?_
              change wpAnyH _ _ _ _ _ _ _ (Act.put _ (some 87) (.pointer (some ⟨g0, 5, none⟩))) _
              simp only [Act.put, List.setIfInBounds_toArray, List.set_cons_zero, List.set_cons_succ]
              refine wpAnyH_take (i := 20) (v := .int .i64 c.clashes) rfl (by kernel_rfl) (by kernel_rfl) (by kernel_rfl) (fun _ _ _ h => h) (Or.inl ⟨by rfl, fun w' hS' => by obtain ⟨y0, y1, y2, y3, y4, y5, y6⟩ := HC7.out _ hS'; go_simp⟩) hS0 ?_
              change wpAnyH _ _ _ _ _ _ _ (Act.put _ (some 88) (.int .i64 c.clashes)) _
              simp only [Act.put, List.setIfInBounds_toArray, List.set_cons_zero, List.set_cons_succ]
              refine wpAnyH_take (i := 21) (v := .bool false) rfl (by kernel_rfl) (by kernel_rfl) (by kernel_rfl) (fun _ _ _ h => h) (Or.inl ⟨by rfl, fun w' hS' => by go_simp⟩) hS0 ?_
              change wpAnyH _ _ _ _ _ _ _ (Act.put _ (some 89) (.bool false)) _
              simp only [Act.put, List.setIfInBounds_toArray, List.set_cons_zero, List.set_cons_succ]
              refine wpAnyH_take (i := 22) (v := .bool false) rfl (by kernel_rfl) (by kernel_rfl) (by kernel_rfl) (fun _ _ _ h => h) (Or.inl ⟨by rfl, fun w' hS' => by go_simp⟩) hS0 ?_
              change wpAnyH _ _ _ _ _ _ _ (Act.put _ (some 90) (.bool false)) _
              simp only [Act.put, List.setIfInBounds_toArray, List.set_cons_zero, List.set_cons_succ]
              refine wpAnyH_take (i := 23) (v := .bool false) rfl (by kernel_rfl) (by kernel_rfl) (by kernel_rfl) (fun _ _ _ h => h) (Or.inl ⟨by rfl, fun w' hS' => by exact op_move rfl rfl⟩) hS0 ?_
              change wpAnyH _ _ _ _ _ _ _ (Act.put _ (some 91) (.bool false)) _
              simp only [Act.put, List.setIfInBounds_toArray, List.set_cons_zero, List.set_cons_succ]
              refine wpAnyH_take (i := 24) (v := .pointer (some ⟨g6, 6, none⟩)) rfl (by kernel_rfl) (by kernel_rfl) (by kernel_rfl) (fun _ _ _ h => h) (Or.inl ⟨by rfl, fun w' hS' => by go_simp⟩) hS0 ?_
              change wpAnyH _ _ _ _ _ _ _ (Act.put _ (some 92) (.pointer (some ⟨g6, 6, none⟩))) _
              simp only [Act.put, List.setIfInBounds_toArray, List.set_cons_zero, List.set_cons_succ]
              refine wpAnyH_take (i := 25) (v := .int .i64 d.evicted) rfl (by kernel_rfl) (by kernel_rfl) (by kernel_rfl) (fun _ _ _ h => h) (Or.inl ⟨by rfl, fun w' hS' => by obtain ⟨y0, y1, y2, y3, y4, y5, y6⟩ := HC6.out _ hS'; go_simp⟩) hS0 ?_
              change wpAnyH _ _ _ _ _ _ _ (Act.put _ (some 93) (.int .i64 d.evicted)) _
              simp only [Act.put, List.setIfInBounds_toArray, List.set_cons_zero, List.set_cons_succ]
              refine wpAnyH_take (i := 26) (v := .pointer (some ⟨g0, 6, none⟩)) rfl (by kernel_rfl) (by kernel_rfl) (by kernel_rfl) (fun _ _ _ h => h) (Or.inl ⟨by rfl, fun w' hS' => by go_simp⟩) hS0 ?_
              change wpAnyH _ _ _ _ _ _ _ (Act.put _ (some 94) (.pointer (some ⟨g0, 6, none⟩))) _
              simp only [Act.put, List.setIfInBounds_toArray, List.set_cons_zero, List.set_cons_succ]
              refine wpAnyH_take (i := 27) (v := .int .i64 c.evicted) rfl (by kernel_rfl) (by kernel_rfl) (by kernel_rfl) (fun _ _ _ h => h) (Or.inl ⟨by rfl, fun w' hS' => by obtain ⟨y0, y1, y2, y3, y4, y5, y6⟩ := HC7.out _ hS'; go_simp⟩) hS0 ?_
              change wpAnyH _ _ _ _ _ _ _ (Act.put _ (some 95) (.int .i64 c.evicted)) _
              simp only [Act.put, List.setIfInBounds_toArray, List.set_cons_zero, List.set_cons_succ]
              refine wpAnyH_take (i := 28) (v := .bool false) rfl (by kernel_rfl) (by kernel_rfl) (by kernel_rfl) (fun _ _ _ h => h) (Or.inl ⟨by rfl, fun w' hS' => by go_simp⟩) hS0 ?_
              change wpAnyH _ _ _ _ _ _ _ (Act.put _ (some 96) (.bool false)) _
              simp only [Act.put, List.setIfInBounds_toArray, List.set_cons_zero, List.set_cons_succ]
              refine wpAnyH_take (i := 29) (v := .bool false) rfl (by kernel_rfl) (by kernel_rfl) (by kernel_rfl) (fun _ _ _ h => h) (Or.inl ⟨by rfl, fun w' hS' => by go_simp⟩) hS0 ?_
              change wpAnyH _ _ _ _ _ _ _ (Act.put _ (some 97) (.bool false)) _
              simp only [Act.put, List.setIfInBounds_toArray, List.set_cons_zero, List.set_cons_succ]
              refine wpAnyH_take (i := 30) (v := .bool false) rfl (by kernel_rfl) (by kernel_rfl) (by kernel_rfl) (fun _ _ _ h => h) (Or.inl ⟨by rfl, fun w' hS' => by exact op_move rfl rfl⟩) hS0 ?_
              change wpAnyH _ _ _ _ _ _ _ (Act.put _ (some 98) (.bool false)) _
              simp only [Act.put, List.setIfInBounds_toArray, List.set_cons_zero, List.set_cons_succ]
              refine wpAnyH_take (i := 31) (v := .agg #[.int .i64 d.width, .int .i64 d.room, .slice A6 n6 c6, .int .i64 d.hits, .int .i64 d.misses, .int .i64 d.clashes, .int .i64 d.evicted]) rfl (by kernel_rfl) (by kernel_rfl) (by kernel_rfl) (fun _ _ _ h => h) (Or.inl ⟨by rfl, fun w' hS' => by obtain ⟨y0, y1, y2, y3, y4, y5, y6⟩ := HC6.out _ hS'; go_simp⟩) hS0 ?_
              change wpAnyH _ _ _ _ _ _ _ (Act.put _ (some 99) (.agg #[.int .i64 d.width, .int .i64 d.room, .slice A6 n6 c6, .int .i64 d.hits, .int .i64 d.misses, .int .i64 d.clashes, .int .i64 d.evicted])) _
              simp only [Act.put, List.setIfInBounds_toArray, List.set_cons_zero, List.set_cons_succ]
              refine wpAnyH_take (i := 33) (v := .pointer (some ⟨g6, 6, none⟩)) rfl (by kernel_rfl) (by kernel_rfl) (by kernel_rfl) (fun _ _ _ h => h) (Or.inl ⟨by rfl, fun w' hS' => by go_simp⟩) hS0 ?_
              change wpAnyH _ _ _ _ _ _ _ (Act.put _ (some 101) (.pointer (some ⟨g6, 6, none⟩))) _
              simp only [Act.put, List.setIfInBounds_toArray, List.set_cons_zero, List.set_cons_succ]
              refine wpAnyH_take (i := 34) (v := .int .i64 d.evicted) rfl (by kernel_rfl) (by kernel_rfl) (by kernel_rfl) (fun _ _ _ h => h) (Or.inl ⟨by rfl, fun w' hS' => by obtain ⟨y0, y1, y2, y3, y4, y5, y6⟩ := HC6.out _ hS'; go_simp⟩) hS0 ?_
              change wpAnyH _ _ _ _ _ _ _ (Act.put _ (some 102) (.int .i64 d.evicted)) _
              simp only [Act.put, List.setIfInBounds_toArray, List.set_cons_zero, List.set_cons_succ]
              refine wpAnyH_take (i := 36) (v := .pointer (some ⟨g0, 6, none⟩)) rfl (by kernel_rfl) (by kernel_rfl) (by kernel_rfl) (fun _ _ _ h => h) (Or.inl ⟨by rfl, fun w' hS' => by go_simp⟩) hS0 ?_
              change wpAnyH _ _ _ _ _ _ _ (Act.put _ (some 104) (.pointer (some ⟨g0, 6, none⟩))) _
              simp only [Act.put, List.setIfInBounds_toArray, List.set_cons_zero, List.set_cons_succ]
              refine wpAnyH_take (i := 37) (v := .int .i64 c.evicted) rfl (by kernel_rfl) (by kernel_rfl) (by kernel_rfl) (fun _ _ _ h => h) (Or.inl ⟨by rfl, fun w' hS' => by obtain ⟨y0, y1, y2, y3, y4, y5, y6⟩ := HC7.out _ hS'; go_simp⟩) hS0 ?_
              change wpAnyH _ _ _ _ _ _ _ (Act.put _ (some 105) (.int .i64 c.evicted)) _
              simp only [Act.put, List.setIfInBounds_toArray, List.set_cons_zero, List.set_cons_succ]
              refine wpAnyH_take (i := 39) (v := .agg #[.int .i64 c.width, .int .i64 c.room, .slice A0 n0 cap0, .int .i64 c.hits, .int .i64 c.misses, .int .i64 c.clashes, .int .i64 c.evicted]) rfl (by kernel_rfl) (by kernel_rfl) (by kernel_rfl) (fun _ _ _ h => h) (Or.inl ⟨by rfl, fun w' hS' => by obtain ⟨y0, y1, y2, y3, y4, y5, y6⟩ := HC7.out _ hS'; go_simp⟩) hS0 ?_
              change wpAnyH _ _ _ _ _ _ _ (Act.put _ (some 107) (.agg #[.int .i64 c.width, .int .i64 c.room, .slice A0 n0 cap0, .int .i64 c.hits, .int .i64 c.misses, .int .i64 c.clashes, .int .i64 c.evicted])) _
              simp only [Act.put, List.setIfInBounds_toArray, List.set_cons_zero, List.set_cons_succ]
              refine wpAnyH_ready (rs := [32]) (by kernel_rfl) (by simp) (AllReadyH.cons rfl (fun K hK => ?_) (AllReadyH.nil))
              · skip
                go_simp
                refine (sizeC_any d A6 n6 c6 _ (HP6.out.up hS0) HN6.out HF6.out).mono ?_
                rintro e W1 ⟨rfl, hb3⟩
                rw [HSD.out]
                refine hK.out _ _ (hS0.trans (hb3.mono hS0.size)) (fun hS2 => ?_)
                clear hK K
                simp only [List.setIfInBounds_toArray, List.set_cons_zero, List.set_cons_succ]
                refine wpAnyH_take (i := 35) (v := .int .i64 ((sd : Int) + d.evicted)) rfl (by kernel_rfl) (by kernel_rfl) (by kernel_rfl) (fun _ _ _ h => h) (Or.inl ⟨by rfl, fun w' hS' => by go_simp⟩) hS2 ?_
                change wpAnyH _ _ _ _ _ _ _ (Act.put _ (some 103) (.int .i64 ((sd : Int) + d.evicted))) _
                simp only [Act.put, List.setIfInBounds_toArray, List.set_cons_zero, List.set_cons_succ]
                refine wpAnyH_take (i := 38) (v := .int .i64 ((sd : Int) + d.evicted - c.evicted)) rfl (by kernel_rfl) (by kernel_rfl) (by kernel_rfl) (fun _ _ _ h => h) (Or.inl ⟨by rfl, fun w' hS' => by go_simp⟩) hS2 ?_
                change wpAnyH _ _ _ _ _ _ _ (Act.put _ (some 106) (.int .i64 ((sd : Int) + d.evicted - c.evicted))) _
                simp only [Act.put, List.setIfInBounds_toArray, List.set_cons_zero, List.set_cons_succ]
                refine wpAnyH_ready (rs := [40]) (by kernel_rfl) (by simp) (AllReadyH.cons rfl (fun K hK => ?_) (AllReadyH.nil))
                · skip
                  go_simp
                  refine (sizeC_any c A0 n0 cap0 _ ((HP0.out.up HB7.out).up hS2) HN0.out HF0.out).mono ?_
                  rintro e W4 ⟨rfl, hb6⟩
                  rw [HSC.out]
                  refine hK.out _ _ (hS2.trans (hb6.mono hS2.size)) (fun hS5 => ?_)
                  clear hK K
                  simp only [List.setIfInBounds_toArray, List.set_cons_zero, List.set_cons_succ]
                  refine wpAnyH_take (i := 41) (v := .bool false) rfl (by kernel_rfl) (by kernel_rfl) (by kernel_rfl) (fun _ _ _ h => h) (Or.inl ⟨by rfl, fun w' hS' => by go_simp⟩) hS5 ?_
                  change wpAnyH _ _ _ _ _ _ _ (Act.put _ (some 109) (.bool false)) _
                  simp only [Act.put, List.setIfInBounds_toArray, List.set_cons_zero, List.set_cons_succ]
                  refine wpAnyH_take (i := 42) (v := .bool false) rfl (by kernel_rfl) (by kernel_rfl) (by kernel_rfl) (fun _ _ _ h => h) (Or.inl ⟨by rfl, fun w' hS' => by go_simp⟩) hS5 ?_
                  change wpAnyH _ _ _ _ _ _ _ (Act.put _ (some 110) (.bool false)) _
                  simp only [Act.put, List.setIfInBounds_toArray, List.set_cons_zero, List.set_cons_succ]
                  refine wpAnyH_take (i := 43) (v := .bool false) rfl (by kernel_rfl) (by kernel_rfl) (by kernel_rfl) (fun _ _ _ h => h) (Or.inl ⟨by rfl, fun w' hS' => by exact op_move rfl rfl⟩) hS5 ?_
                  change wpAnyH _ _ _ _ _ _ _ (Act.put _ (some 111) (.bool false)) _
                  simp only [Act.put, List.setIfInBounds_toArray, List.set_cons_zero, List.set_cons_succ]
                  refine wpAnyH_take (i := 44) (v := .agg #[.int .i64 d.width, .int .i64 d.room, .slice A6 n6 c6, .int .i64 d.hits, .int .i64 d.misses, .int .i64 d.clashes, .int .i64 d.evicted]) rfl (by kernel_rfl) (by kernel_rfl) (by kernel_rfl) (fun _ _ _ h => h) (Or.inl ⟨by rfl, fun w' hS' => by obtain ⟨y0, y1, y2, y3, y4, y5, y6⟩ := HC6.out _ hS'; go_simp⟩) hS5 ?_
                  change wpAnyH _ _ _ _ _ _ _ (Act.put _ (some 112) (.agg #[.int .i64 d.width, .int .i64 d.room, .slice A6 n6 c6, .int .i64 d.hits, .int .i64 d.misses, .int .i64 d.clashes, .int .i64 d.evicted])) _
                  simp only [Act.put, List.setIfInBounds_toArray, List.set_cons_zero, List.set_cons_succ]
                  refine wpAnyH_take (i := 46) (v := .pointer (some ⟨g6, 6, none⟩)) rfl (by kernel_rfl) (by kernel_rfl) (by kernel_rfl) (fun _ _ _ h => h) (Or.inl ⟨by rfl, fun w' hS' => by go_simp⟩) hS5 ?_
                  change wpAnyH _ _ _ _ _ _ _ (Act.put _ (some 114) (.pointer (some ⟨g6, 6, none⟩))) _
                  simp only [Act.put, List.setIfInBounds_toArray, List.set_cons_zero, List.set_cons_succ]
                  refine wpAnyH_take (i := 47) (v := .int .i64 d.evicted) rfl (by kernel_rfl) (by kernel_rfl) (by kernel_rfl) (fun _ _ _ h => h) (Or.inl ⟨by rfl, fun w' hS' => by obtain ⟨y0, y1, y2, y3, y4, y5, y6⟩ := HC6.out _ hS'; go_simp⟩) hS5 ?_
                  change wpAnyH _ _ _ _ _ _ _ (Act.put _ (some 115) (.int .i64 d.evicted)) _
                  simp only [Act.put, List.setIfInBounds_toArray, List.set_cons_zero, List.set_cons_succ]
                  refine wpAnyH_take (i := 49) (v := .pointer (some ⟨g0, 6, none⟩)) rfl (by kernel_rfl) (by kernel_rfl) (by kernel_rfl) (fun _ _ _ h => h) (Or.inl ⟨by rfl, fun w' hS' => by go_simp⟩) hS5 ?_
                  change wpAnyH _ _ _ _ _ _ _ (Act.put _ (some 117) (.pointer (some ⟨g0, 6, none⟩))) _
                  simp only [Act.put, List.setIfInBounds_toArray, List.set_cons_zero, List.set_cons_succ]
                  refine wpAnyH_take (i := 50) (v := .int .i64 c.evicted) rfl (by kernel_rfl) (by kernel_rfl) (by kernel_rfl) (fun _ _ _ h => h) (Or.inl ⟨by rfl, fun w' hS' => by obtain ⟨y0, y1, y2, y3, y4, y5, y6⟩ := HC7.out _ hS'; go_simp⟩) hS5 ?_
                  change wpAnyH _ _ _ _ _ _ _ (Act.put _ (some 118) (.int .i64 c.evicted)) _
                  simp only [Act.put, List.setIfInBounds_toArray, List.set_cons_zero, List.set_cons_succ]
                  refine wpAnyH_take (i := 52) (v := .agg #[.int .i64 c.width, .int .i64 c.room, .slice A0 n0 cap0, .int .i64 c.hits, .int .i64 c.misses, .int .i64 c.clashes, .int .i64 c.evicted]) rfl (by kernel_rfl) (by kernel_rfl) (by kernel_rfl) (fun _ _ _ h => h) (Or.inl ⟨by rfl, fun w' hS' => by obtain ⟨y0, y1, y2, y3, y4, y5, y6⟩ := HC7.out _ hS'; go_simp⟩) hS5 ?_
                  change wpAnyH _ _ _ _ _ _ _ (Act.put _ (some 120) (.agg #[.int .i64 c.width, .int .i64 c.room, .slice A0 n0 cap0, .int .i64 c.hits, .int .i64 c.misses, .int .i64 c.clashes, .int .i64 c.evicted])) _
                  simp only [Act.put, List.setIfInBounds_toArray, List.set_cons_zero, List.set_cons_succ]
                  refine wpAnyH_ready (rs := [45]) (by kernel_rfl) (by simp) (AllReadyH.cons rfl (fun K hK => ?_) (AllReadyH.nil))
                  · skip
                    go_simp
                    refine (sizeC_any d A6 n6 c6 _ (HP6.out.up hS5) HN6.out HF6.out).mono ?_
                    rintro e W7 ⟨rfl, hb9⟩
                    rw [HSD.out]
                    refine hK.out _ _ (hS5.trans (hb9.mono hS5.size)) (fun hS8 => ?_)
                    clear hK K
                    simp only [List.setIfInBounds_toArray, List.set_cons_zero, List.set_cons_succ]
                    refine wpAnyH_take (i := 48) (v := .int .i64 ((sd : Int) + d.evicted)) rfl (by kernel_rfl) (by kernel_rfl) (by kernel_rfl) (fun _ _ _ h => h) (Or.inl ⟨by rfl, fun w' hS' => by go_simp⟩) hS8 ?_
                    change wpAnyH _ _ _ _ _ _ _ (Act.put _ (some 116) (.int .i64 ((sd : Int) + d.evicted))) _
                    simp only [Act.put, List.setIfInBounds_toArray, List.set_cons_zero, List.set_cons_succ]
                    refine wpAnyH_take (i := 51) (v := .int .i64 ((sd : Int) + d.evicted - c.evicted)) rfl (by kernel_rfl) (by kernel_rfl) (by kernel_rfl) (fun _ _ _ h => h) (Or.inl ⟨by rfl, fun w' hS' => by go_simp⟩) hS8 ?_
                    change wpAnyH _ _ _ _ _ _ _ (Act.put _ (some 119) (.int .i64 ((sd : Int) + d.evicted - c.evicted))) _
                    simp only [Act.put, List.setIfInBounds_toArray, List.set_cons_zero, List.set_cons_succ]
                    refine wpAnyH_ready (rs := [53]) (by kernel_rfl) (by simp) (AllReadyH.cons rfl (fun K hK => ?_) (AllReadyH.nil))
                    · skip
                      go_simp
                      refine (sizeC_any c A0 n0 cap0 _ ((HP0.out.up HB7.out).up hS8) HN0.out HF0.out).mono ?_
                      rintro e W10 ⟨rfl, hb12⟩
                      rw [HSC.out]
                      refine hK.out _ _ (hS8.trans (hb12.mono hS8.size)) (fun hS11 => ?_)
                      clear hK K
                      simp only [List.setIfInBounds_toArray, List.set_cons_zero, List.set_cons_succ]
                      refine wpAnyH_take (i := 54) (v := .int .i64 ((sc : Int) + 1)) rfl (by kernel_rfl) (by kernel_rfl) (by kernel_rfl) (fun _ _ _ h => h) (Or.inl ⟨by rfl, fun w' hS' => by go_simp⟩) hS11 ?_
                      change wpAnyH _ _ _ _ _ _ _ (Act.put _ (some 122) (.int .i64 ((sc : Int) + 1))) _
                      simp only [Act.put, List.setIfInBounds_toArray, List.set_cons_zero, List.set_cons_succ]
                      refine wpAnyH_take (i := 55) (v := .bool false) rfl (by kernel_rfl) (by kernel_rfl) (by kernel_rfl) (fun _ _ _ h => h) (Or.inl ⟨by rfl, fun w' hS' => by go_simp⟩) hS11 ?_
                      change wpAnyH _ _ _ _ _ _ _ (Act.put _ (some 123) (.bool false)) _
                      simp only [Act.put, List.setIfInBounds_toArray, List.set_cons_zero, List.set_cons_succ]
                      refine wpAnyH_take (i := 56) (v := .bool false) rfl (by kernel_rfl) (by kernel_rfl) (by kernel_rfl) (fun _ _ _ h => h) (Or.inl ⟨by rfl, fun w' hS' => by go_simp⟩) hS11 ?_
                      change wpAnyH _ _ _ _ _ _ _ (Act.put _ (some 124) (.bool false)) _
                      simp only [Act.put, List.setIfInBounds_toArray, List.set_cons_zero, List.set_cons_succ]
                      refine wpAnyH_done (by kernel_rfl) ?_ _
                      refine NoPanic.normal ?_
                      have HS := Lib.hid hS11
                      obtain ⟨w8, hw8, HB8⟩ : ∃ w8, w8 = _ ∧ Hid (Below w7.heap.size w7 w8) := ⟨_, rfl, HS⟩
                      rw [← hw8]
                      clear hw8
                      have HBS := Lib.hid (Blk.below HB6s.out HB8.out HB6s.out.lt)
                      have HBC := Lib.hid (Blk.below HB0c.out HB8.out HB0c.out.lt)
                      have HWX : Hid (Below w3.heap.size w3 w8) := Lib.hid (below_step HW7.out HB8.out)
                      have HPX := Lib.hid (HP6.out.up HB8.out)
                      have hne : g6 ≠ g0 := HGN.out
                      obtain ⟨x0, x1, x2, x3, x4, x5, x6⟩ := box7 HBS.out (Below.refl _ _)
                      obtain ⟨y0, y1, y2, y3, y4, y5, y6⟩ := box7 HBC.out (Below.refl _ _)
                      have q0 := Blk.frozen HBC.out 0
                      have q1 := Blk.frozen HBC.out 1
                      have q2 := Blk.frozen HBC.out 2
                      have q3 := Blk.frozen HBC.out 3
                      have q4 := Blk.frozen HBC.out 4
                      have q5 := Blk.frozen HBC.out 5
                      have q6 := Blk.frozen HBC.out 6
                      have hl0 := HBC.out.lt
                      have HS7 := Lib.hid (set7 HBC.out d.width d.room A6 n6 c6 d.hits d.misses d.clashes d.evicted)
                      have HI2 : Hid (Below w3.heap.size w3 _ ∧ Boxed (fun b => b = g0) _ g0 d) := Lib.hid
                        ⟨HWX.out.grown HS7.out.2 HWX.out.size (fun b e => by injection e with e; rw [← e]; exact HG.out),
                         A6, n6, c6, HS7.out.1, (HPX.out.kept HS7.out.2 (show g0 < w6.heap.size from HG6.out)).less (fun b hb => by rw [hb]; exact HG6.out), HN6.out, HC66.out⟩
                      clear HS7
                      go_wp2_with fail
                      go_roundw
                      case rel => exact ⟨k + 1, d, by omega, by omega, by go_num, HCN2, HI2⟩
                      case measure => simp [intOf]; omega
          | false =>
            obtain ⟨y0, y1, y2, y3, y4, y5, y6⟩ := HC0.out _ (Below.refl _ _)
            obtain ⟨s, d, b, hgm⟩ : ∃ s d b, getC c (textOf z.1) (textOf z.2.1) = (s, d, b) := ⟨_, _, _, rfl⟩
            have HGM := Lib.hid hgm
            have hct := get_counts HGC.out.right (textOf z.1) (textOf z.2.1) (by have h1 := HCN.out.hits; have h2 := HCN.out.misses; have h3 := HCN.out.clashes; unfold maxC; exact ⟨by omega, by omega, by omega⟩)
            rw [hgm] at hct
            obtain ⟨hsum, hev, hcase⟩ := hct
            have HCN2 : Hid (Cnt d (k + 1)) := Lib.hid (by have := HCN.out.get (textOf z.1) (textOf z.2.1); rw [hgm] at this; exact this)
            have HF6 := Lib.hid (HCN2.out.good.fit (by omega))
            obtain ⟨p1, p2, p3, p4⟩ := HCN.out.low
            obtain ⟨p5, p6, p7, p8⟩ := HCN2.out.low
            have u1 := HCN.out.hits
            have u2 := HCN.out.misses
            have u3 := HCN.out.clashes
            have u5 := HCN2.out.hits
            have u6 := HCN2.out.misses
            have u7 := HCN2.out.clashes
            have t1 : ((d.hits + d.misses + d.clashes != c.hits + c.misses + c.clashes + 1) : Bool) = false := by rw [bne_eq_false_iff_eq]; exact hsum
            have t3 : ((d.evicted != c.evicted) : Bool) = false := by rw [bne_eq_false_iff_eq]; exact hev
            clear hgm hsum hev
            have HT2 : Hid ((b = 0 ∧ (d.hits == c.hits + 1) = true) ∨ (b = 10 ∧ (d.hits == c.hits + 1) = false)) := Lib.hid (by
              rcases hcase with ⟨h1, h2⟩ | ⟨h1, h2⟩
              · exact .inl ⟨h1, by rw [beq_iff_eq]; exact h2⟩
              · exact .inr ⟨h1, by rw [beq_eq_false_iff_ne]; intro h; have := h.symm.trans h2; omega⟩)
            clear hcase
            go_wp2_with fail
            refine (get_new c A0 n0 cap0 (textOf z.1) (textOf z.2.1) _ s d b HGM.out (HP0.out.up HB6.out) HN0.out HF0.out (text_le _) (text_le _)).mono ?_
            rintro e w7 ⟨A6, n6, c6, rfl, hn6, hp6, hb7, hc6⟩
            clear y0 y1 y2 y3 y4 y5 y6
            have HC66 := Lib.hid hc6
            have HN6 := Lib.hid hn6
            have HB0c := Lib.hid (Blk.below (Blk.below HB0.out HB6.out HB0.out.lt) hb7 (Blk.below HB0.out HB6.out HB0.out.lt).lt)
            have HW7 : Hid (Below w3.heap.size w3 w7) := Lib.hid (below_step (below_step HI.out.1 HB6.out) hb7)
            have HP7 := Lib.hid hp6
            have HG6 : Hid (g0 < w6.heap.size) := Lib.hid (Nat.lt_of_lt_of_le HB0.out.lt HB6.out.size)
            clear hb7 hp6 hn6 hc6
            go_upto_region 14 with (fail)
            have hbs : Blk (w7.alloc (.cells #[.int .i64 d.width, .int .i64 d.room, .slice A6 n6 c6, .int .i64 d.hits, .int .i64 d.misses, .int .i64 d.clashes, .int .i64 d.evicted] 28)) w7.heap.size 28 #[.int .i64 d.width, .int .i64 d.room, .slice A6 n6 c6, .int .i64 d.hits, .int .i64 d.misses, .int .i64 d.clashes, .int .i64 d.evicted] := Blk.new w7 _ _
            have hbw : Below w7.heap.size w7 (w7.alloc (.cells #[.int .i64 d.width, .int .i64 d.room, .slice A6 n6 c6, .int .i64 d.hits, .int .i64 d.misses, .int .i64 d.clashes, .int .i64 d.evicted] 28)) := (Below.refl _ _).alloc (Nat.le_refl _) _
            obtain ⟨w8, hw8⟩ : ∃ w8, w8 = w7.alloc (.cells #[.int .i64 d.width, .int .i64 d.room, .slice A6 n6 c6, .int .i64 d.hits, .int .i64 d.misses, .int .i64 d.clashes, .int .i64 d.evicted] 28) := ⟨_, rfl⟩
            obtain ⟨g6, hg6⟩ : ∃ g, g = w7.heap.size := ⟨_, rfl⟩
            rw [← hw8] at hbs hbw ⊢
            rw [← hg6] at hbs ⊢
            have HBS := Lib.hid hbs
            have HBC := Lib.hid (Blk.below HB0c.out hbw HB0c.out.lt)
            have HWX : Hid (Below w3.heap.size w3 w8) := Lib.hid (below_step HW7.out hbw)
            have HPX := Lib.hid (HP7.out.up hbw)
            have HGN : Hid (g6 ≠ g0) := Lib.hid (by have := HB0c.out.lt; omega)
            clear hbs hbw hw8 hg6
            have hne : g6 ≠ g0 := HGN.out
            obtain ⟨x0, x1, x2, x3, x4, x5, x6⟩ := box7 HBS.out (Below.refl _ _)
            obtain ⟨y0, y1, y2, y3, y4, y5, y6⟩ := box7 HBC.out (Below.refl _ _)
            have q0 := Blk.frozen HBC.out 0
            have q1 := Blk.frozen HBC.out 1
            have q2 := Blk.frozen HBC.out 2
            have q3 := Blk.frozen HBC.out 3
            have q4 := Blk.frozen HBC.out 4
            have q5 := Blk.frozen HBC.out 5
            have q6 := Blk.frozen HBC.out 6
            have hl0 := HBC.out.lt
            have HS7 := Lib.hid (set7 HBC.out d.width d.room A6 n6 c6 d.hits d.misses d.clashes d.evicted)
            have HI2 : Hid (Below w3.heap.size w3 _ ∧ Boxed (fun b => b = g0) _ g0 d) := Lib.hid
              ⟨HWX.out.grown HS7.out.2 HWX.out.size (fun b e => by injection e with e; rw [← e]; exact HG.out),
               A6, n6, c6, HS7.out.1, (HPX.out.kept HS7.out.2 (show g0 < w6.heap.size from HG6.out)).less (fun b hb => by rw [hb]; exact HG6.out), HN6.out, HC66.out⟩
            clear HS7
            rcases HT2.out with ⟨rfl, t2⟩ | ⟨rfl, t2⟩
            · go_wp2_with fail
              go_roundw
              case rel => exact ⟨k + 1, d, by omega, by omega, by go_num, HCN2, HI2⟩
              case measure => simp [intOf]; omega
            · go_wp2_with fail
              go_roundw
              case rel => exact ⟨k + 1, d, by omega, by omega, by go_num, HCN2, HI2⟩
              case measure => simp [intOf]; omega
        · obtain ⟨y0, y1, y2, y3, y4, y5, y6⟩ := HC0.out _ (Below.refl _ _)
          obtain ⟨s, d, b, hgm⟩ : ∃ s d b, getC c (textOf z.1) (textOf z.2.1) = (s, d, b) := ⟨_, _, _, rfl⟩
          have HGM := Lib.hid hgm
          have hct := get_counts HGC.out.right (textOf z.1) (textOf z.2.1) (by have h1 := HCN.out.hits; have h2 := HCN.out.misses; have h3 := HCN.out.clashes; unfold maxC; exact ⟨by omega, by omega, by omega⟩)
          rw [hgm] at hct
          obtain ⟨hsum, hev, hcase⟩ := hct
          have HCN2 : Hid (Cnt d (k + 1)) := Lib.hid (by have := HCN.out.get (textOf z.1) (textOf z.2.1); rw [hgm] at this; exact this)
          have HF6 := Lib.hid (HCN2.out.good.fit (by omega))
          obtain ⟨p1, p2, p3, p4⟩ := HCN.out.low
          obtain ⟨p5, p6, p7, p8⟩ := HCN2.out.low
          have u1 := HCN.out.hits
          have u2 := HCN.out.misses
          have u3 := HCN.out.clashes
          have u5 := HCN2.out.hits
          have u6 := HCN2.out.misses
          have u7 := HCN2.out.clashes
          have t1 : ((d.hits + d.misses + d.clashes != c.hits + c.misses + c.clashes + 1) : Bool) = false := by rw [bne_eq_false_iff_eq]; exact hsum
          have t3 : ((d.evicted != c.evicted) : Bool) = false := by rw [bne_eq_false_iff_eq]; exact hev
          clear hgm hsum hev
          have HT2 : Hid ((b = 0 ∧ (d.hits == c.hits + 1) = true) ∨ (b = 10 ∧ (d.hits == c.hits + 1) = false)) := Lib.hid (by
            rcases hcase with ⟨h1, h2⟩ | ⟨h1, h2⟩
            · exact .inl ⟨h1, by rw [beq_iff_eq]; exact h2⟩
            · exact .inr ⟨h1, by rw [beq_eq_false_iff_ne]; intro h; have := h.symm.trans h2; omega⟩)
          clear hcase
          go_wp2_with fail
          refine (get_new c A0 n0 cap0 (textOf z.1) (textOf z.2.1) _ s d b HGM.out (HP0.out.up HB6.out) HN0.out HF0.out (text_le _) (text_le _)).mono ?_
          rintro e w7 ⟨A6, n6, c6, rfl, hn6, hp6, hb7, hc6⟩
          clear y0 y1 y2 y3 y4 y5 y6
          have HC66 := Lib.hid hc6
          have HN6 := Lib.hid hn6
          have HB0c := Lib.hid (Blk.below (Blk.below HB0.out HB6.out HB0.out.lt) hb7 (Blk.below HB0.out HB6.out HB0.out.lt).lt)
          have HW7 : Hid (Below w3.heap.size w3 w7) := Lib.hid (below_step (below_step HI.out.1 HB6.out) hb7)
          have HP7 := Lib.hid hp6
          have HG6 : Hid (g0 < w6.heap.size) := Lib.hid (Nat.lt_of_lt_of_le HB0.out.lt HB6.out.size)
          clear hb7 hp6 hn6 hc6
          go_upto_region 14 with (fail)
          have hbs : Blk (w7.alloc (.cells #[.int .i64 d.width, .int .i64 d.room, .slice A6 n6 c6, .int .i64 d.hits, .int .i64 d.misses, .int .i64 d.clashes, .int .i64 d.evicted] 28)) w7.heap.size 28 #[.int .i64 d.width, .int .i64 d.room, .slice A6 n6 c6, .int .i64 d.hits, .int .i64 d.misses, .int .i64 d.clashes, .int .i64 d.evicted] := Blk.new w7 _ _
          have hbw : Below w7.heap.size w7 (w7.alloc (.cells #[.int .i64 d.width, .int .i64 d.room, .slice A6 n6 c6, .int .i64 d.hits, .int .i64 d.misses, .int .i64 d.clashes, .int .i64 d.evicted] 28)) := (Below.refl _ _).alloc (Nat.le_refl _) _
          obtain ⟨w8, hw8⟩ : ∃ w8, w8 = w7.alloc (.cells #[.int .i64 d.width, .int .i64 d.room, .slice A6 n6 c6, .int .i64 d.hits, .int .i64 d.misses, .int .i64 d.clashes, .int .i64 d.evicted] 28) := ⟨_, rfl⟩
          obtain ⟨g6, hg6⟩ : ∃ g, g = w7.heap.size := ⟨_, rfl⟩
          rw [← hw8] at hbs hbw ⊢
          rw [← hg6] at hbs ⊢
          have HBS := Lib.hid hbs
          have HBC := Lib.hid (Blk.below HB0c.out hbw HB0c.out.lt)
          have HWX : Hid (Below w3.heap.size w3 w8) := Lib.hid (below_step HW7.out hbw)
          have HPX := Lib.hid (HP7.out.up hbw)
          have HGN : Hid (g6 ≠ g0) := Lib.hid (by have := HB0c.out.lt; omega)
          clear hbs hbw hw8 hg6
          have hne : g6 ≠ g0 := HGN.out
          obtain ⟨x0, x1, x2, x3, x4, x5, x6⟩ := box7 HBS.out (Below.refl _ _)
          obtain ⟨y0, y1, y2, y3, y4, y5, y6⟩ := box7 HBC.out (Below.refl _ _)
          have q0 := Blk.frozen HBC.out 0
          have q1 := Blk.frozen HBC.out 1
          have q2 := Blk.frozen HBC.out 2
          have q3 := Blk.frozen HBC.out 3
          have q4 := Blk.frozen HBC.out 4
          have q5 := Blk.frozen HBC.out 5
          have q6 := Blk.frozen HBC.out 6
          have hl0 := HBC.out.lt
          have HS7 := Lib.hid (set7 HBC.out d.width d.room A6 n6 c6 d.hits d.misses d.clashes d.evicted)
          have HI2 : Hid (Below w3.heap.size w3 _ ∧ Boxed (fun b => b = g0) _ g0 d) := Lib.hid
            ⟨HWX.out.grown HS7.out.2 HWX.out.size (fun b e => by injection e with e; rw [← e]; exact HG.out),
             A6, n6, c6, HS7.out.1, (HPX.out.kept HS7.out.2 (show g0 < w6.heap.size from HG6.out)).less (fun b hb => by rw [hb]; exact HG6.out), HN6.out, HC66.out⟩
          clear HS7
          rcases HT2.out with ⟨rfl, t2⟩ | ⟨rfl, t2⟩
          · go_wp2_with fail
            go_roundw
            case rel => exact ⟨k + 1, d, by omega, by omega, by go_num, HCN2, HI2⟩
            case measure => simp [intOf]; omega
          · go_wp2_with fail
            go_roundw
            case rel => exact ⟨k + 1, d, by omega, by omega, by go_num, HCN2, HI2⟩
            case measure => simp [intOf]; omega
      · go_wp2_with fail
        go_ret
        exact ⟨rfl, below_step HW3.out HI.out.1⟩
    · go_wp2_with fail
      go_ret
      exact ⟨rfl, below_step HW3.out HI.out.1⟩

end Go.Proofs.Ytjifmfgfmciaeaa
