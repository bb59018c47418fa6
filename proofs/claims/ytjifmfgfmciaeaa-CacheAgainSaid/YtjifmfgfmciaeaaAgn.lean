/-
  collatorlaw14.CacheAgain returns true: what has just been put is there, if its part has room; what was got is got again, and nothing else is changed by that but counts; with no bits all texts of one length are one key, and with all of them those here are not. Nothing that was there is changed.
-/
import Derived.Test.YtjifmfgfmciaeaaLw
import Derived.Deep.CutBlock
import Derived.Test.YtjifmfgfmciaeaaOpn
import Derived.Test.YtjifmfgfmciaeaaAgP
namespace Go.Proofs.Ytjifmfgfmciaeaa
open Go.RowKit


set_option maxHeartbeats 8000000 in
set_option maxRecDepth 100000 in
theorem again_any (z0 z1 z2 : Int) (A1 : Option Addr) (puts : List Tri) (pn pc : Nat) (k0 k1 k2 k3 : Int) (w : World) (hz : TriFit (z0, z1, z2)) (ha1 : TrisAt w A1 puts) (hn1 : puts.length = pn) (hl1 : pn ≤ 9223372036854775807) (hf1 : ∀ z ∈ puts, TriFit z) (hk0 : I64 k0) (hk1 : I64 k1) (hk2 : I64 k2) (hk3 : I64 k3) :
    Calls Try.prog 6 #[.agg #[.int .i64 z0, .int .i64 z1, .int .i64 z2], .slice A1 pn pc, .agg #[.int .i64 k0, .int .i64 k1, .int .i64 k2, .int .i64 k3]] w fun e w' => e = .returned (.bool true) ∧ Below w.heap.size w w' := by
  subst hn1
  have HA1 := Lib.hid ha1
  have HF1 := Lib.hid hf1
  have HZ := Lib.hid hz
  have Hk0 := Lib.hid hk0
  have Hk1 := Lib.hid hk1
  have Hk2 := Lib.hid hk2
  have Hk3 := Lib.hid hk3
  clear ha1 hf1 hz hk0 hk1 hk2 hk3
  go_enter Try.func6, Try.ntmps6
  go_wp2_with fail
  have hb3 : Blk ((w.alloc (.cells #[.int .i64 z0, .int .i64 z1, .int .i64 z2] 22)).alloc (.cells #[.int .i64 k0, .int .i64 k1, .int .i64 k2, .int .i64 k3] 50)) w.heap.size 22 #[.int .i64 z0, .int .i64 z1, .int .i64 z2] := (Blk.new w _ _).alloc _
  have hb5 : Blk ((w.alloc (.cells #[.int .i64 z0, .int .i64 z1, .int .i64 z2] 22)).alloc (.cells #[.int .i64 k0, .int .i64 k1, .int .i64 k2, .int .i64 k3] 50)) (w.heap.size + 1) 50 #[.int .i64 k0, .int .i64 k1, .int .i64 k2, .int .i64 k3] := by
    have := Blk.new (w.alloc (.cells #[.int .i64 z0, .int .i64 z1, .int .i64 z2] 22)) 50 #[.int .i64 k0, .int .i64 k1, .int .i64 k2, .int .i64 k3]
    simpa using this
  have hw0 : Below w.heap.size w ((w.alloc (.cells #[.int .i64 z0, .int .i64 z1, .int .i64 z2] 22)).alloc (.cells #[.int .i64 k0, .int .i64 k1, .int .i64 k2, .int .i64 k3] 50)) := ((Below.refl _ _).alloc (Nat.le_refl _) _).alloc (by simp) _
  obtain ⟨v2, hw⟩ : ∃ xw, xw = (w.alloc (.cells #[.int .i64 z0, .int .i64 z1, .int .i64 z2] 22)).alloc (.cells #[.int .i64 k0, .int .i64 k1, .int .i64 k2, .int .i64 k3] 50) := ⟨_, rfl⟩
  obtain ⟨g3, hg3⟩ : ∃ g, g = w.heap.size := ⟨_, rfl⟩
  obtain ⟨g5, hg5⟩ : ∃ g, g = w.heap.size + 1 := ⟨_, rfl⟩
  rw [← hw] at hb3 hb5 hw0 ⊢
  rw [← hg5] at hb5 ⊢
  rw [← hg3] at hb3
  rw [show (⟨w.heap.size, 0, none⟩ : Addr) = ⟨g3, 0, none⟩ from by rw [hg3]]
  have HB3 := Lib.hid hb3
  have HB5 := Lib.hid hb5
  have HW := Lib.hid hw0
  clear hb3 hb5 hw0 hw hg3 hg5
  refine (awake_any cache_ok _).mono ?_
  rintro e v3 ⟨rfl, hb⟩
  have HB3 := Lib.hid (Blk.below HB3.out hb HB3.out.lt)
  have HB5 := Lib.hid (Blk.below HB5.out hb HB5.out.lt)
  have HW := Lib.hid (below_step HW.out hb)
  clear hb
  have y0 := Blk.cell HB3.out 0
  have y1 := Blk.cell HB3.out 1
  have y2 := Blk.cell HB3.out 2
  simp only [List.getElem?_toArray, List.getElem?_cons_zero, List.getElem?_cons_succ] at y0 y1 y2
  go_wp2_with fail
  refine (cache_any z0 z1 z2 A1 puts puts.length pc _ HZ.out (HA1.out.up HW.out) rfl hl1 HF1.out).mono ?_
  rintro e v4 ⟨A8, n8, cap8, rfl, hn, hp, hb, hc8⟩
  have HB3 := Lib.hid (Blk.below HB3.out hb HB3.out.lt)
  have HB5 := Lib.hid (Blk.below HB5.out hb HB5.out.lt)
  have HW := Lib.hid (below_step HW.out hb)
  have HP8 := Lib.hid hp
  clear hb hp y0 y1 y2
  obtain ⟨c, hc⟩ : ∃ c, cacheOf (z0, z1, z2) puts = c := ⟨_, rfl⟩
  have HGC : Hid (Good c 20) := Lib.hid (by rw [← hc]; exact cacheOf_good _ _)
  rw [hc] at hn HP8 ⊢
  have HN8 := Lib.hid hn
  clear hc hn
  go_upto_region 3 with (fail)
  have hbx : Blk (v4.alloc (.cells #[.int .i64 c.width, .int .i64 c.room, .slice A8 n8 cap8, .int .i64 c.hits, .int .i64 c.misses, .int .i64 c.clashes, .int .i64 c.evicted] 28)) v4.heap.size 28 #[.int .i64 c.width, .int .i64 c.room, .slice A8 n8 cap8, .int .i64 c.hits, .int .i64 c.misses, .int .i64 c.clashes, .int .i64 c.evicted] := Blk.new v4 _ _
  have hb : Below v4.heap.size v4 (v4.alloc (.cells #[.int .i64 c.width, .int .i64 c.room, .slice A8 n8 cap8, .int .i64 c.hits, .int .i64 c.misses, .int .i64 c.clashes, .int .i64 c.evicted] 28)) := (Below.refl _ _).alloc (Nat.le_refl _) _
  obtain ⟨v5, hw⟩ : ∃ xw, xw = v4.alloc (.cells #[.int .i64 c.width, .int .i64 c.room, .slice A8 n8 cap8, .int .i64 c.hits, .int .i64 c.misses, .int .i64 c.clashes, .int .i64 c.evicted] 28) := ⟨_, rfl⟩
  obtain ⟨g8, hg⟩ : ∃ g, g = v4.heap.size := ⟨_, rfl⟩
  rw [← hw] at hbx hb ⊢
  rw [← hg] at hbx ⊢
  have HB8 := Lib.hid hbx
  have HB3 := Lib.hid (Blk.below HB3.out hb HB3.out.lt)
  have HB5 := Lib.hid (Blk.below HB5.out hb HB5.out.lt)
  have HW := Lib.hid (below_step HW.out hb)
  have HP8 := Lib.hid (HP8.out.up hb)
  clear hbx hb hw hg
  have y0 := Blk.cell HB5.out 0
  have y1 := Blk.cell HB5.out 1
  have y2 := Blk.cell HB5.out 2
  have y3 := Blk.cell HB5.out 3
  simp only [List.getElem?_toArray, List.getElem?_cons_zero, List.getElem?_cons_succ] at y0 y1 y2 y3
  go_wp2_with fail
  refine (text_any k0 _ Hk0.out).mono ?_
  rintro e v6 ⟨rfl, hb⟩
  have HB5 := Lib.hid (Blk.below HB5.out hb HB5.out.lt)
  have HW := Lib.hid (below_step HW.out hb)
  have HP8 := Lib.hid (HP8.out.up hb)
  have HB8 := Lib.hid (Blk.below HB8.out hb HB8.out.lt)
  clear hb
  clear y0 y1 y2 y3
  have y0 := Blk.cell HB5.out 0
  have y1 := Blk.cell HB5.out 1
  have y2 := Blk.cell HB5.out 2
  have y3 := Blk.cell HB5.out 3
  simp only [List.getElem?_toArray, List.getElem?_cons_zero, List.getElem?_cons_succ] at y0 y1 y2 y3
  go_wp2_with fail
  refine (text_any k1 _ Hk1.out).mono ?_
  rintro e v7 ⟨rfl, hb⟩
  have HB5 := Lib.hid (Blk.below HB5.out hb HB5.out.lt)
  have HW := Lib.hid (below_step HW.out hb)
  have HP8 := Lib.hid (HP8.out.up hb)
  have HB8 := Lib.hid (Blk.below HB8.out hb HB8.out.lt)
  clear hb
  clear y0 y1 y2 y3
  obtain ⟨d, e0, hpm⟩ : ∃ d e, putC c (textOf k0) (textOf k1) ⟨#[110, 101, 119]⟩ = (d, e) := ⟨_, _, rfl⟩
  obtain rfl : e0 = 0 := by have := put_eq HGC.out.right (textOf k0) (textOf k1) ⟨#[110, 101, 119]⟩; rw [hpm] at this; exact congrArg Prod.snd this
  obtain ⟨s, f, e1, hg1⟩ : ∃ s f e, getC d (textOf k0) (textOf k1) = (s, f, e) := ⟨_, _, _, rfl⟩
  obtain ⟨t, h, e2, hg2⟩ : ∃ t h e, getC f (textOf k0) (textOf k1) = (t, h, e) := ⟨_, _, _, rfl⟩
  have HAG := Lib.hid (again_put HGC.out.right hpm hg1 hg2)
  have HGD : Hid (Good d 21) := Lib.hid (by have := HGC.out.put (textOf k0) (textOf k1) ⟨#[110, 101, 119]⟩ (text_le _) (text_le _) newT_size; rw [hpm] at this; exact this)
  have HGF : Hid (Good f 21) := Lib.hid (by have := HGD.out.get (textOf k0) (textOf k1); rw [hg1] at this; exact this)
  have HFC := Lib.hid (HGC.out.fit (by omega))
  have HFD := Lib.hid (HGD.out.fit (by omega))
  have HFF := Lib.hid (HGF.out.fit (by omega))
  have HPM := Lib.hid hpm
  have HG1 := Lib.hid hg1
  have HG2 := Lib.hid hg2
  clear hpm hg1 hg2
  obtain ⟨y0, y1, y2, y3, y4, y5, y6⟩ := box7 HB8.out (Below.refl _ _)
  go_wp2_with fail
  refine (put_new c A8 n8 cap8 (textOf k0) (textOf k1) ⟨#[110, 101, 119]⟩ _ d 0 HPM.out HP8.out HN8.out HFC.out (text_le _) (text_le _) newT_size).mono ?_
  rintro e v8 ⟨A11, n11, cap11, rfl, hn, hp, hb, hc⟩
  have HB5 := Lib.hid (Blk.below HB5.out hb HB5.out.lt)
  have HW := Lib.hid (below_step HW.out hb)
  have HP8 := Lib.hid (HP8.out.up hb)
  have HB8 := Lib.hid (Blk.below HB8.out hb HB8.out.lt)
  have HN11 := Lib.hid hn
  have HP11 := Lib.hid hp
  have HK11 := Lib.hid hc
  clear hb hn hp hc
  clear y0 y1 y2 y3 y4 y5 y6
  go_upto_region 6 with (fail)
  have hbx : Blk (v8.alloc (.cells #[.int .i64 d.width, .int .i64 d.room, .slice A11 n11 cap11, .int .i64 d.hits, .int .i64 d.misses, .int .i64 d.clashes, .int .i64 d.evicted] 28)) v8.heap.size 28 #[.int .i64 d.width, .int .i64 d.room, .slice A11 n11 cap11, .int .i64 d.hits, .int .i64 d.misses, .int .i64 d.clashes, .int .i64 d.evicted] := Blk.new v8 _ _
  have hb : Below v8.heap.size v8 (v8.alloc (.cells #[.int .i64 d.width, .int .i64 d.room, .slice A11 n11 cap11, .int .i64 d.hits, .int .i64 d.misses, .int .i64 d.clashes, .int .i64 d.evicted] 28)) := (Below.refl _ _).alloc (Nat.le_refl _) _
  obtain ⟨v9, hw⟩ : ∃ xw, xw = v8.alloc (.cells #[.int .i64 d.width, .int .i64 d.room, .slice A11 n11 cap11, .int .i64 d.hits, .int .i64 d.misses, .int .i64 d.clashes, .int .i64 d.evicted] 28) := ⟨_, rfl⟩
  obtain ⟨g11, hg⟩ : ∃ g, g = v8.heap.size := ⟨_, rfl⟩
  have HG11 : Hid (v8.heap.size ≤ g11) := Lib.hid (by omega)
  rw [← hw] at hbx hb ⊢
  rw [← hg] at hbx ⊢
  have HB11 := Lib.hid hbx
  have HB5 := Lib.hid (Blk.below HB5.out hb HB5.out.lt)
  have HW := Lib.hid (below_step HW.out hb)
  have HP8 := Lib.hid (HP8.out.up hb)
  have HB8 := Lib.hid (Blk.below HB8.out hb HB8.out.lt)
  have HP11 := Lib.hid (HP11.out.up hb)
  clear hbx hb hw hg
  obtain ⟨y0, y1, y2, y3, y4, y5, y6⟩ := box7 HB11.out (Below.refl _ _)
  go_wp2_with fail
  refine (get_new d A11 n11 cap11 (textOf k0) (textOf k1) _ s f e1 HG1.out HP11.out HN11.out HFD.out (text_le _) (text_le _)).mono ?_
  rintro e v10 ⟨A14, n14, cap14, rfl, hn, hp, hb, hc⟩
  have HB5 := Lib.hid (Blk.below HB5.out hb HB5.out.lt)
  have HW := Lib.hid (below_step HW.out hb)
  have HB8 := Lib.hid (Blk.below HB8.out hb HB8.out.lt)
  have HP11 := Lib.hid (HP11.out.up hb)
  have HB11 := Lib.hid (Blk.below HB11.out hb HB11.out.lt)
  have HN14 := Lib.hid hn
  have HP14 := Lib.hid hp
  have HK14 := Lib.hid hc
  clear hb hn hp hc
  clear y0 y1 y2 y3 y4 y5 y6
  go_upto_region 7 with (fail)
  have hbx : Blk (v10.alloc (.cells #[.int .i64 f.width, .int .i64 f.room, .slice A14 n14 cap14, .int .i64 f.hits, .int .i64 f.misses, .int .i64 f.clashes, .int .i64 f.evicted] 28)) v10.heap.size 28 #[.int .i64 f.width, .int .i64 f.room, .slice A14 n14 cap14, .int .i64 f.hits, .int .i64 f.misses, .int .i64 f.clashes, .int .i64 f.evicted] := Blk.new v10 _ _
  have hb : Below v10.heap.size v10 (v10.alloc (.cells #[.int .i64 f.width, .int .i64 f.room, .slice A14 n14 cap14, .int .i64 f.hits, .int .i64 f.misses, .int .i64 f.clashes, .int .i64 f.evicted] 28)) := (Below.refl _ _).alloc (Nat.le_refl _) _
  obtain ⟨v11, hw⟩ : ∃ xw, xw = v10.alloc (.cells #[.int .i64 f.width, .int .i64 f.room, .slice A14 n14 cap14, .int .i64 f.hits, .int .i64 f.misses, .int .i64 f.clashes, .int .i64 f.evicted] 28) := ⟨_, rfl⟩
  obtain ⟨g14, hg⟩ : ∃ g, g = v10.heap.size := ⟨_, rfl⟩
  have HG14 : Hid (v10.heap.size ≤ g14) := Lib.hid (by omega)
  rw [← hw] at hbx hb ⊢
  rw [← hg] at hbx ⊢
  have HB14 := Lib.hid hbx
  have HB5 := Lib.hid (Blk.below HB5.out hb HB5.out.lt)
  have HW := Lib.hid (below_step HW.out hb)
  have HB8 := Lib.hid (Blk.below HB8.out hb HB8.out.lt)
  have HP11 := Lib.hid (HP11.out.up hb)
  have HB11 := Lib.hid (Blk.below HB11.out hb HB11.out.lt)
  have HP14 := Lib.hid (HP14.out.up hb)
  clear hbx hb hw hg
  obtain ⟨y0, y1, y2, y3, y4, y5, y6⟩ := box7 HB14.out (Below.refl _ _)
  go_wp2_with fail
  refine (get_new f A14 n14 cap14 (textOf k0) (textOf k1) _ t h e2 HG2.out HP14.out HN14.out HFF.out (text_le _) (text_le _)).mono ?_
  rintro e v12 ⟨A17, n17, cap17, rfl, hn, hp, hb, hc⟩
  have HB5 := Lib.hid (Blk.below HB5.out hb HB5.out.lt)
  have HW := Lib.hid (below_step HW.out hb)
  have HB8 := Lib.hid (Blk.below HB8.out hb HB8.out.lt)
  have HP11 := Lib.hid (HP11.out.up hb)
  have HB11 := Lib.hid (Blk.below HB11.out hb HB11.out.lt)
  have HP14 := Lib.hid (HP14.out.up hb)
  have HB14 := Lib.hid (Blk.below HB14.out hb HB14.out.lt)
  have HN17 := Lib.hid hn
  have HP17 := Lib.hid hp
  have HK17 := Lib.hid hc
  clear hb hn hp hc
  clear y0 y1 y2 y3 y4 y5 y6
  go_upto_region 8 with (fail)
  have hbx : Blk (v12.alloc (.cells #[.int .i64 h.width, .int .i64 h.room, .slice A17 n17 cap17, .int .i64 h.hits, .int .i64 h.misses, .int .i64 h.clashes, .int .i64 h.evicted] 28)) v12.heap.size 28 #[.int .i64 h.width, .int .i64 h.room, .slice A17 n17 cap17, .int .i64 h.hits, .int .i64 h.misses, .int .i64 h.clashes, .int .i64 h.evicted] := Blk.new v12 _ _
  have hb : Below v12.heap.size v12 (v12.alloc (.cells #[.int .i64 h.width, .int .i64 h.room, .slice A17 n17 cap17, .int .i64 h.hits, .int .i64 h.misses, .int .i64 h.clashes, .int .i64 h.evicted] 28)) := (Below.refl _ _).alloc (Nat.le_refl _) _
  obtain ⟨v13, hw⟩ : ∃ xw, xw = v12.alloc (.cells #[.int .i64 h.width, .int .i64 h.room, .slice A17 n17 cap17, .int .i64 h.hits, .int .i64 h.misses, .int .i64 h.clashes, .int .i64 h.evicted] 28) := ⟨_, rfl⟩
  obtain ⟨g17, hg⟩ : ∃ g, g = v12.heap.size := ⟨_, rfl⟩
  have HG17 : Hid (v12.heap.size ≤ g17) := Lib.hid (by omega)
  rw [← hw] at hbx hb ⊢
  rw [← hg] at hbx ⊢
  have HB17 := Lib.hid hbx
  have HLT11 : Hid (g11 < v12.heap.size) := Lib.hid HB11.out.lt
  have HLT5 : Hid (g5 < v12.heap.size) := Lib.hid HB5.out.lt
  have HLTW : Hid (w.heap.size ≤ v12.heap.size) := Lib.hid HW.out.size
  have HP17a := Lib.hid ((HP17.out.add HG17.out).up hb)
  have HP11a := Lib.hid ((HP11.out.add HG17.out).up hb)
  have HB5 := Lib.hid (Blk.below HB5.out hb HB5.out.lt)
  have HW := Lib.hid (below_step HW.out hb)
  have HB8 := Lib.hid (Blk.below HB8.out hb HB8.out.lt)
  have HP11 := Lib.hid (HP11.out.up hb)
  have HB11 := Lib.hid (Blk.below HB11.out hb HB11.out.lt)
  have HP14 := Lib.hid (HP14.out.up hb)
  have HB14 := Lib.hid (Blk.below HB14.out hb HB14.out.lt)
  have HP17 := Lib.hid (HP17.out.up hb)
  clear hbx hb hw hg
  obtain ⟨y0, y1, y2, y3, y4, y5, y6⟩ := box7 HB8.out (Below.refl _ _)
  have HAG1 := HAG.out.1
  obtain ⟨hcode, htext, hsaid, hsame⟩ := HAG.out.1
  have HSAME := Lib.hid hsame
  have HROOM : Hid (n8 ≤ c.room → e1 = 0) := Lib.hid (by rw [← HN8.out]; exact HAG.out.2)
  subst hcode htext
  have hsaid' := hsaid
  clear HAG1 hsame hsaid HAG
  have HSAID := Lib.hid hsaid'
  clear hsaid'
  go_cut [100] (fun s100 wx => s100 = .bool false ∧ wx = v13)
  case first => as_aux_lemma =>
    rcases HSAID.out with ⟨rfl, rfl⟩ | ⟨rfl, rfl⟩
    · by_cases hge : (n8 : Int) ≤ c.room
      · go_wp2_with fail
        go_meet
        exact ⟨rfl, rfl⟩
      · go_wp2_with fail
        go_meet
        exact ⟨rfl, rfl⟩
    · have hge : ¬ (n8 : Int) ≤ c.room := fun hh => by have := HROOM.out hh; omega
      go_wp2_with fail
      go_meet
      exact ⟨rfl, rfl⟩
  case rest =>
  obtain ⟨rfl, hwc⟩ := hcut
  obtain rfl : v13 = wc := hwc.symm
  clear y0 y1 y2 y3 y4 y5 y6
  obtain ⟨y0, y1, y2, y3, y4, y5, y6⟩ := box7 HB11.out (Below.refl _ _)
  obtain ⟨x0, x1, x2, x3, x4, x5, x6⟩ := box7 HB17.out (Below.refl _ _)
  have q3 := Blk.frozen HB17.out 3
  have q4 := Blk.frozen HB17.out 4
  have hl17 := HB17.out.lt
  have hne : g11 ≠ g17 := by have h1 := HG17.out; have h2 := HLT11.out; omega
  go_upto_region 12 with (fail)
  have hgr : v13.grownBy ((v13.setCell ⟨g17, 3, none⟩ (.int .i64 d.hits)).setCell ⟨g17, 4, none⟩ (.int .i64 d.misses)) (some g17) := (grown_set _ _ _ _).trans (grown_set _ _ _ _)
  have hb17 := Blk.set_ (Blk.set_ HB17.out 3 (.int .i64 d.hits)) 4 (.int .i64 d.misses)
  simp only [List.setIfInBounds_toArray, List.set_cons_zero, List.set_cons_succ] at hb17
  obtain ⟨ew, er, ep, ec, ee⟩ : h.width = d.width ∧ h.room = d.room ∧ h.parts = d.parts ∧ h.clashes = d.clashes ∧ h.evicted = d.evicted := by
    have hs := HSAME.out
    have j1 := congrArg Ca.width hs
    have j2 := congrArg Ca.room hs
    have j3 := congrArg Ca.parts hs
    have j4 := congrArg Ca.clashes hs
    have j5 := congrArg Ca.evicted hs
    exact ⟨j1, j2, j3, j4, j5⟩
  rw [ew, er, ec, ee] at hb17
  have hp17 := HP17a.out
  have hn17 := HN17.out
  rw [ep] at hp17 hn17
  clear ew er ep ec ee
  obtain ⟨v14, hw⟩ : ∃ xw, xw = (v13.setCell ⟨g17, 3, none⟩ (.int .i64 d.hits)).setCell ⟨g17, 4, none⟩ (.int .i64 d.misses) := ⟨_, rfl⟩
  rw [← hw] at hgr hb17 ⊢
  have HB17 := Lib.hid hb17
  have HP17 := Lib.hid (hp17.kept hgr (.inr rfl))
  have HN17 := Lib.hid hn17
  have HP11 := Lib.hid (HP11a.out.kept hgr (.inr rfl))
  have HB11 := Lib.hid (Blk.grown HB11.out hgr (fun e => hne (Option.some.inj e)))
  have HB5 := Lib.hid (Blk.grown HB5.out hgr (fun e => by have h1 := Option.some.inj e; have h2 := HG17.out; have h3 := HLT5.out; omega))
  have HW := Lib.hid (HW.out.grown hgr HW.out.size (fun b e => by injection e with e; have h2 := HG17.out; have h3 := HLTW.out; omega))
  clear hgr hb17 hp17 hn17 hw hne hl17 q3 q4 x0 x1 x2 x3 x4 x5 x6 y0 y1 y2 y3 y4 y5 y6
  obtain ⟨y0, y1, y2, y3, y4, y5, y6⟩ := box7 HB11.out (Below.refl _ _)
  obtain ⟨x0, x1, x2, x3, x4, x5, x6⟩ := box7 HB17.out (Below.refl _ _)
  go_wp2_with fail
  refine (sameC_true d A17 A11 n17 n11 cap17 cap11 _ (HP17.out.less (Y := fun _ => False) (fun _ hh => hh.elim)) (HP11.out.less (Y := fun _ => False) (fun _ hh => hh.elim)) HN17.out HN11.out HFD.out).mono ?_
  rintro e v15 ⟨rfl, hb⟩
  have HB5 := Lib.hid (Blk.below HB5.out hb HB5.out.lt)
  have HW := Lib.hid (below_step HW.out hb)
  clear hb y0 y1 y2 y3 y4 y5 y6 x0 x1 x2 x3 x4 x5 x6
  obtain ⟨wd, hwd⟩ : ∃ x, (newC 1 50 64).1 = x := ⟨_, rfl⟩
  obtain ⟨nn, hnn⟩ : ∃ x, (newC 1 50 0).1 = x := ⟨_, rfl⟩
  have hf64 : fitsB 1 50 64 = true := by decide
  have hf0 : fitsB 1 50 0 = true := by decide
  have HNWD : Hid (newC 1 50 64 = (wd, 0)) := Lib.hid (by rw [← hwd]; unfold newC; rw [if_pos hf64])
  have HNNN : Hid (newC 1 50 0 = (nn, 0)) := Lib.hid (by rw [← hnn]; unfold newC; rw [if_pos hf0])
  have HGW : Hid (Good wd 0) := Lib.hid (by rw [← hwd]; exact Good.new hf64)
  have HGN : Hid (Good nn 0) := Lib.hid (by rw [← hnn]; exact Good.new hf0)
  obtain ⟨x, o1, hpx⟩ : ∃ x e, putC wd (textOf k0) (textOf k1) ⟨#[118]⟩ = (x, e) := ⟨_, _, rfl⟩
  obtain ⟨y, o2, hpy⟩ : ∃ x e, putC nn (textOf k0) (textOf k1) ⟨#[118]⟩ = (x, e) := ⟨_, _, rfl⟩
  obtain ⟨s3, u, e3, hgu⟩ : ∃ s u e, getC x (textOf k2) (textOf k3) = (s, u, e) := ⟨_, _, _, rfl⟩
  obtain ⟨s4, v, e4, hgv⟩ : ∃ s u e, getC y (textOf k2) (textOf k3) = (s, u, e) := ⟨_, _, _, rfl⟩
  obtain ⟨ho1, ho2, htwo⟩ := two_caches (by rw [hwd]; exact hpx) (by rw [hnn]; exact hpy) hgu hgv
  subst ho1 ho2
  have HTWO := Lib.hid htwo
  have HGX : Hid (Good x 1) := Lib.hid (by have := HGW.out.put (textOf k0) (textOf k1) ⟨#[118]⟩ (text_le _) (text_le _) vT_size; rw [hpx] at this; exact this)
  have HGY : Hid (Good y 1) := Lib.hid (by have := HGN.out.put (textOf k0) (textOf k1) ⟨#[118]⟩ (text_le _) (text_le _) vT_size; rw [hpy] at this; exact this)
  have HFW := Lib.hid (HGW.out.fit (by omega))
  have HFN := Lib.hid (HGN.out.fit (by omega))
  have HFX := Lib.hid (HGX.out.fit (by omega))
  have HFY := Lib.hid (HGY.out.fit (by omega))
  have HPX := Lib.hid hpx
  have HPY := Lib.hid hpy
  have HGU := Lib.hid hgu
  have HGV := Lib.hid hgv
  clear hwd hnn hf64 hf0 hpx hpy hgu hgv htwo
  go_wp2_with fail
  refine (new_new 1 50 64 _ wd 0 HNWD.out).mono ?_
  rintro e v16 ⟨A19, n19, cap19, rfl, hn, hp, hb, hc⟩
  have HB5 := Lib.hid (Blk.below HB5.out hb HB5.out.lt)
  have HW := Lib.hid (below_step HW.out hb)
  have HN19 := Lib.hid hn
  have HP19 := Lib.hid hp
  have HK19 := Lib.hid hc
  clear hb hn hp hc
  go_upto_region 15 with (fail)
  have hbx : Blk (v16.alloc (.cells #[.int .i64 wd.width, .int .i64 wd.room, .slice A19 n19 cap19, .int .i64 wd.hits, .int .i64 wd.misses, .int .i64 wd.clashes, .int .i64 wd.evicted] 28)) v16.heap.size 28 #[.int .i64 wd.width, .int .i64 wd.room, .slice A19 n19 cap19, .int .i64 wd.hits, .int .i64 wd.misses, .int .i64 wd.clashes, .int .i64 wd.evicted] := Blk.new v16 _ _
  have hb : Below v16.heap.size v16 (v16.alloc (.cells #[.int .i64 wd.width, .int .i64 wd.room, .slice A19 n19 cap19, .int .i64 wd.hits, .int .i64 wd.misses, .int .i64 wd.clashes, .int .i64 wd.evicted] 28)) := (Below.refl _ _).alloc (Nat.le_refl _) _
  obtain ⟨v17, hw⟩ : ∃ xw, xw = v16.alloc (.cells #[.int .i64 wd.width, .int .i64 wd.room, .slice A19 n19 cap19, .int .i64 wd.hits, .int .i64 wd.misses, .int .i64 wd.clashes, .int .i64 wd.evicted] 28) := ⟨_, rfl⟩
  obtain ⟨g19, hg⟩ : ∃ g, g = v16.heap.size := ⟨_, rfl⟩
  have HG19 : Hid (v16.heap.size ≤ g19) := Lib.hid (by omega)
  rw [← hw] at hbx hb ⊢
  rw [← hg] at hbx ⊢
  have HB19 := Lib.hid hbx
  have HB5 := Lib.hid (Blk.below HB5.out hb HB5.out.lt)
  have HW := Lib.hid (below_step HW.out hb)
  have HP19 := Lib.hid (HP19.out.up hb)
  clear hbx hb hw hg
  go_wp2_with fail
  refine (new_new 1 50 0 _ nn 0 HNNN.out).mono ?_
  rintro e v18 ⟨A21, n21, cap21, rfl, hn, hp, hb, hc⟩
  have HB5 := Lib.hid (Blk.below HB5.out hb HB5.out.lt)
  have HW := Lib.hid (below_step HW.out hb)
  have HP19 := Lib.hid (HP19.out.up hb)
  have HB19 := Lib.hid (Blk.below HB19.out hb HB19.out.lt)
  have HN21 := Lib.hid hn
  have HP21 := Lib.hid hp
  have HK21 := Lib.hid hc
  clear hb hn hp hc
  go_upto_region 16 with (fail)
  have hbx : Blk (v18.alloc (.cells #[.int .i64 nn.width, .int .i64 nn.room, .slice A21 n21 cap21, .int .i64 nn.hits, .int .i64 nn.misses, .int .i64 nn.clashes, .int .i64 nn.evicted] 28)) v18.heap.size 28 #[.int .i64 nn.width, .int .i64 nn.room, .slice A21 n21 cap21, .int .i64 nn.hits, .int .i64 nn.misses, .int .i64 nn.clashes, .int .i64 nn.evicted] := Blk.new v18 _ _
  have hb : Below v18.heap.size v18 (v18.alloc (.cells #[.int .i64 nn.width, .int .i64 nn.room, .slice A21 n21 cap21, .int .i64 nn.hits, .int .i64 nn.misses, .int .i64 nn.clashes, .int .i64 nn.evicted] 28)) := (Below.refl _ _).alloc (Nat.le_refl _) _
  obtain ⟨v19, hw⟩ : ∃ xw, xw = v18.alloc (.cells #[.int .i64 nn.width, .int .i64 nn.room, .slice A21 n21 cap21, .int .i64 nn.hits, .int .i64 nn.misses, .int .i64 nn.clashes, .int .i64 nn.evicted] 28) := ⟨_, rfl⟩
  obtain ⟨g21, hg⟩ : ∃ g, g = v18.heap.size := ⟨_, rfl⟩
  have HG21 : Hid (v18.heap.size ≤ g21) := Lib.hid (by omega)
  rw [← hw] at hbx hb ⊢
  rw [← hg] at hbx ⊢
  have HB21 := Lib.hid hbx
  have HB5 := Lib.hid (Blk.below HB5.out hb HB5.out.lt)
  have HW := Lib.hid (below_step HW.out hb)
  have HP19 := Lib.hid (HP19.out.up hb)
  have HB19 := Lib.hid (Blk.below HB19.out hb HB19.out.lt)
  have HP21 := Lib.hid (HP21.out.up hb)
  clear hbx hb hw hg
  obtain ⟨y0, y1, y2, y3, y4, y5, y6⟩ := box7 HB19.out (Below.refl _ _)
  go_wp2_with fail
  refine (put_new wd A19 n19 cap19 (textOf k0) (textOf k1) ⟨#[118]⟩ _ x 0 HPX.out HP19.out HN19.out HFW.out (text_le _) (text_le _) vT_size).mono ?_
  rintro e v20 ⟨A23, n23, cap23, rfl, hn, hp, hb, hc⟩
  have HB5 := Lib.hid (Blk.below HB5.out hb HB5.out.lt)
  have HW := Lib.hid (below_step HW.out hb)
  have HP19 := Lib.hid (HP19.out.up hb)
  have HB19 := Lib.hid (Blk.below HB19.out hb HB19.out.lt)
  have HP21 := Lib.hid (HP21.out.up hb)
  have HB21 := Lib.hid (Blk.below HB21.out hb HB21.out.lt)
  have HN23 := Lib.hid hn
  have HP23 := Lib.hid hp
  have HK23 := Lib.hid hc
  clear hb hn hp hc
  clear y0 y1 y2 y3 y4 y5 y6
  go_upto_region 17 with (fail)
  have hbx : Blk (v20.alloc (.cells #[.int .i64 x.width, .int .i64 x.room, .slice A23 n23 cap23, .int .i64 x.hits, .int .i64 x.misses, .int .i64 x.clashes, .int .i64 x.evicted] 28)) v20.heap.size 28 #[.int .i64 x.width, .int .i64 x.room, .slice A23 n23 cap23, .int .i64 x.hits, .int .i64 x.misses, .int .i64 x.clashes, .int .i64 x.evicted] := Blk.new v20 _ _
  have hb : Below v20.heap.size v20 (v20.alloc (.cells #[.int .i64 x.width, .int .i64 x.room, .slice A23 n23 cap23, .int .i64 x.hits, .int .i64 x.misses, .int .i64 x.clashes, .int .i64 x.evicted] 28)) := (Below.refl _ _).alloc (Nat.le_refl _) _
  obtain ⟨v21, hw⟩ : ∃ xw, xw = v20.alloc (.cells #[.int .i64 x.width, .int .i64 x.room, .slice A23 n23 cap23, .int .i64 x.hits, .int .i64 x.misses, .int .i64 x.clashes, .int .i64 x.evicted] 28) := ⟨_, rfl⟩
  obtain ⟨g23, hg⟩ : ∃ g, g = v20.heap.size := ⟨_, rfl⟩
  have HG23 : Hid (v20.heap.size ≤ g23) := Lib.hid (by omega)
  rw [← hw] at hbx hb ⊢
  rw [← hg] at hbx ⊢
  have HB23 := Lib.hid hbx
  have HB5 := Lib.hid (Blk.below HB5.out hb HB5.out.lt)
  have HW := Lib.hid (below_step HW.out hb)
  have HP19 := Lib.hid (HP19.out.up hb)
  have HB19 := Lib.hid (Blk.below HB19.out hb HB19.out.lt)
  have HP21 := Lib.hid (HP21.out.up hb)
  have HB21 := Lib.hid (Blk.below HB21.out hb HB21.out.lt)
  have HP23 := Lib.hid (HP23.out.up hb)
  clear hbx hb hw hg
  obtain ⟨y0, y1, y2, y3, y4, y5, y6⟩ := box7 HB21.out (Below.refl _ _)
  go_wp2_with fail
  refine (put_new nn A21 n21 cap21 (textOf k0) (textOf k1) ⟨#[118]⟩ _ y 0 HPY.out HP21.out HN21.out HFN.out (text_le _) (text_le _) vT_size).mono ?_
  rintro e v22 ⟨A25, n25, cap25, rfl, hn, hp, hb, hc⟩
  have HB5 := Lib.hid (Blk.below HB5.out hb HB5.out.lt)
  have HW := Lib.hid (below_step HW.out hb)
  have HP21 := Lib.hid (HP21.out.up hb)
  have HB21 := Lib.hid (Blk.below HB21.out hb HB21.out.lt)
  have HP23 := Lib.hid (HP23.out.up hb)
  have HB23 := Lib.hid (Blk.below HB23.out hb HB23.out.lt)
  have HN25 := Lib.hid hn
  have HP25 := Lib.hid hp
  have HK25 := Lib.hid hc
  clear hb hn hp hc
  clear y0 y1 y2 y3 y4 y5 y6
  go_upto_region 18 with (fail)
  have hbx : Blk (v22.alloc (.cells #[.int .i64 y.width, .int .i64 y.room, .slice A25 n25 cap25, .int .i64 y.hits, .int .i64 y.misses, .int .i64 y.clashes, .int .i64 y.evicted] 28)) v22.heap.size 28 #[.int .i64 y.width, .int .i64 y.room, .slice A25 n25 cap25, .int .i64 y.hits, .int .i64 y.misses, .int .i64 y.clashes, .int .i64 y.evicted] := Blk.new v22 _ _
  have hb : Below v22.heap.size v22 (v22.alloc (.cells #[.int .i64 y.width, .int .i64 y.room, .slice A25 n25 cap25, .int .i64 y.hits, .int .i64 y.misses, .int .i64 y.clashes, .int .i64 y.evicted] 28)) := (Below.refl _ _).alloc (Nat.le_refl _) _
  obtain ⟨v23, hw⟩ : ∃ xw, xw = v22.alloc (.cells #[.int .i64 y.width, .int .i64 y.room, .slice A25 n25 cap25, .int .i64 y.hits, .int .i64 y.misses, .int .i64 y.clashes, .int .i64 y.evicted] 28) := ⟨_, rfl⟩
  obtain ⟨g25, hg⟩ : ∃ g, g = v22.heap.size := ⟨_, rfl⟩
  have HG25 : Hid (v22.heap.size ≤ g25) := Lib.hid (by omega)
  rw [← hw] at hbx hb ⊢
  rw [← hg] at hbx ⊢
  have HB25 := Lib.hid hbx
  have HB5 := Lib.hid (Blk.below HB5.out hb HB5.out.lt)
  have HW := Lib.hid (below_step HW.out hb)
  have HP21 := Lib.hid (HP21.out.up hb)
  have HB21 := Lib.hid (Blk.below HB21.out hb HB21.out.lt)
  have HP23 := Lib.hid (HP23.out.up hb)
  have HB23 := Lib.hid (Blk.below HB23.out hb HB23.out.lt)
  have HP25 := Lib.hid (HP25.out.up hb)
  clear hbx hb hw hg
  have y0 := Blk.cell HB5.out 0
  have y1 := Blk.cell HB5.out 1
  have y2 := Blk.cell HB5.out 2
  have y3 := Blk.cell HB5.out 3
  simp only [List.getElem?_toArray, List.getElem?_cons_zero, List.getElem?_cons_succ] at y0 y1 y2 y3
  go_wp2_with fail
  refine (text_any k2 _ Hk2.out).mono ?_
  rintro e v24 ⟨rfl, hb⟩
  have HB5 := Lib.hid (Blk.below HB5.out hb HB5.out.lt)
  have HW := Lib.hid (below_step HW.out hb)
  have HP23 := Lib.hid (HP23.out.up hb)
  have HB23 := Lib.hid (Blk.below HB23.out hb HB23.out.lt)
  have HP25 := Lib.hid (HP25.out.up hb)
  have HB25 := Lib.hid (Blk.below HB25.out hb HB25.out.lt)
  clear hb
  clear y0 y1 y2 y3
  have y0 := Blk.cell HB5.out 0
  have y1 := Blk.cell HB5.out 1
  have y2 := Blk.cell HB5.out 2
  have y3 := Blk.cell HB5.out 3
  simp only [List.getElem?_toArray, List.getElem?_cons_zero, List.getElem?_cons_succ] at y0 y1 y2 y3
  go_wp2_with fail
  refine (text_any k3 _ Hk3.out).mono ?_
  rintro e v25 ⟨rfl, hb⟩
  have HB5 := Lib.hid (Blk.below HB5.out hb HB5.out.lt)
  have HW := Lib.hid (below_step HW.out hb)
  have HP23 := Lib.hid (HP23.out.up hb)
  have HB23 := Lib.hid (Blk.below HB23.out hb HB23.out.lt)
  have HP25 := Lib.hid (HP25.out.up hb)
  have HB25 := Lib.hid (Blk.below HB25.out hb HB25.out.lt)
  clear hb
  clear y0 y1 y2 y3
  obtain ⟨y0, y1, y2, y3, y4, y5, y6⟩ := box7 HB23.out (Below.refl _ _)
  go_wp2_with fail
  refine (get_new x A23 n23 cap23 (textOf k2) (textOf k3) _ s3 u e3 HGU.out HP23.out HN23.out HFX.out (text_le _) (text_le _)).mono ?_
  rintro e v26 ⟨A30, n30, cap30, rfl, hn, hp, hb, hc⟩
  have HB5 := Lib.hid (Blk.below HB5.out hb HB5.out.lt)
  have HW := Lib.hid (below_step HW.out hb)
  have HP23 := Lib.hid (HP23.out.up hb)
  have HB23 := Lib.hid (Blk.below HB23.out hb HB23.out.lt)
  have HP25 := Lib.hid (HP25.out.up hb)
  have HB25 := Lib.hid (Blk.below HB25.out hb HB25.out.lt)
  have HN30 := Lib.hid hn
  have HP30 := Lib.hid hp
  have HK30 := Lib.hid hc
  clear hb hn hp hc
  clear y0 y1 y2 y3 y4 y5 y6
  go_upto_region 21 with (fail)
  have hbx : Blk (v26.alloc (.cells #[.int .i64 u.width, .int .i64 u.room, .slice A30 n30 cap30, .int .i64 u.hits, .int .i64 u.misses, .int .i64 u.clashes, .int .i64 u.evicted] 28)) v26.heap.size 28 #[.int .i64 u.width, .int .i64 u.room, .slice A30 n30 cap30, .int .i64 u.hits, .int .i64 u.misses, .int .i64 u.clashes, .int .i64 u.evicted] := Blk.new v26 _ _
  have hb : Below v26.heap.size v26 (v26.alloc (.cells #[.int .i64 u.width, .int .i64 u.room, .slice A30 n30 cap30, .int .i64 u.hits, .int .i64 u.misses, .int .i64 u.clashes, .int .i64 u.evicted] 28)) := (Below.refl _ _).alloc (Nat.le_refl _) _
  obtain ⟨v27, hw⟩ : ∃ xw, xw = v26.alloc (.cells #[.int .i64 u.width, .int .i64 u.room, .slice A30 n30 cap30, .int .i64 u.hits, .int .i64 u.misses, .int .i64 u.clashes, .int .i64 u.evicted] 28) := ⟨_, rfl⟩
  obtain ⟨g30, hg⟩ : ∃ g, g = v26.heap.size := ⟨_, rfl⟩
  have HG30 : Hid (v26.heap.size ≤ g30) := Lib.hid (by omega)
  rw [← hw] at hbx hb ⊢
  rw [← hg] at hbx ⊢
  have HB30 := Lib.hid hbx
  have HB5 := Lib.hid (Blk.below HB5.out hb HB5.out.lt)
  have HW := Lib.hid (below_step HW.out hb)
  have HP23 := Lib.hid (HP23.out.up hb)
  have HB23 := Lib.hid (Blk.below HB23.out hb HB23.out.lt)
  have HP25 := Lib.hid (HP25.out.up hb)
  have HB25 := Lib.hid (Blk.below HB25.out hb HB25.out.lt)
  have HP30 := Lib.hid (HP30.out.up hb)
  clear hbx hb hw hg
  obtain ⟨y0, y1, y2, y3, y4, y5, y6⟩ := box7 HB25.out (Below.refl _ _)
  go_wp2_with fail
  refine (get_new y A25 n25 cap25 (textOf k2) (textOf k3) _ s4 v e4 HGV.out HP25.out HN25.out HFY.out (text_le _) (text_le _)).mono ?_
  rintro e v28 ⟨A33, n33, cap33, rfl, hn, hp, hb, hc⟩
  have HB5 := Lib.hid (Blk.below HB5.out hb HB5.out.lt)
  have HW := Lib.hid (below_step HW.out hb)
  have HP23 := Lib.hid (HP23.out.up hb)
  have HB23 := Lib.hid (Blk.below HB23.out hb HB23.out.lt)
  have HP25 := Lib.hid (HP25.out.up hb)
  have HB25 := Lib.hid (Blk.below HB25.out hb HB25.out.lt)
  have HP30 := Lib.hid (HP30.out.up hb)
  have HB30 := Lib.hid (Blk.below HB30.out hb HB30.out.lt)
  have HN33 := Lib.hid hn
  have HP33 := Lib.hid hp
  have HK33 := Lib.hid hc
  clear hb hn hp hc
  clear y0 y1 y2 y3 y4 y5 y6
  go_upto_region 22 with (fail)
  have hbx : Blk (v28.alloc (.cells #[.int .i64 v.width, .int .i64 v.room, .slice A33 n33 cap33, .int .i64 v.hits, .int .i64 v.misses, .int .i64 v.clashes, .int .i64 v.evicted] 28)) v28.heap.size 28 #[.int .i64 v.width, .int .i64 v.room, .slice A33 n33 cap33, .int .i64 v.hits, .int .i64 v.misses, .int .i64 v.clashes, .int .i64 v.evicted] := Blk.new v28 _ _
  have hb : Below v28.heap.size v28 (v28.alloc (.cells #[.int .i64 v.width, .int .i64 v.room, .slice A33 n33 cap33, .int .i64 v.hits, .int .i64 v.misses, .int .i64 v.clashes, .int .i64 v.evicted] 28)) := (Below.refl _ _).alloc (Nat.le_refl _) _
  obtain ⟨v29, hw⟩ : ∃ xw, xw = v28.alloc (.cells #[.int .i64 v.width, .int .i64 v.room, .slice A33 n33 cap33, .int .i64 v.hits, .int .i64 v.misses, .int .i64 v.clashes, .int .i64 v.evicted] 28) := ⟨_, rfl⟩
  obtain ⟨g33, hg⟩ : ∃ g, g = v28.heap.size := ⟨_, rfl⟩
  have HG33 : Hid (v28.heap.size ≤ g33) := Lib.hid (by omega)
  rw [← hw] at hbx hb ⊢
  rw [← hg] at hbx ⊢
  have HB33 := Lib.hid hbx
  have HB5 := Lib.hid (Blk.below HB5.out hb HB5.out.lt)
  have HW := Lib.hid (below_step HW.out hb)
  have HP23 := Lib.hid (HP23.out.up hb)
  have HB23 := Lib.hid (Blk.below HB23.out hb HB23.out.lt)
  have HP25 := Lib.hid (HP25.out.up hb)
  have HB25 := Lib.hid (Blk.below HB25.out hb HB25.out.lt)
  have HP30 := Lib.hid (HP30.out.up hb)
  have HB30 := Lib.hid (Blk.below HB30.out hb HB30.out.lt)
  have HP33 := Lib.hid (HP33.out.up hb)
  clear hbx hb hw hg
  obtain ⟨y0, y1, y2, y3, y4, y5, y6⟩ := box7 HB30.out (Below.refl _ _)
  obtain ⟨x0, x1, x2, x3, x4, x5, x6⟩ := box7 HB33.out (Below.refl _ _)
  obtain ⟨l, hl⟩ : ∃ l, textOf k0 = l := ⟨_, rfl⟩
  obtain ⟨r, hr⟩ : ∃ l, textOf k1 = l := ⟨_, rfl⟩
  obtain ⟨p, hp⟩ : ∃ l, textOf k2 = l := ⟨_, rfl⟩
  obtain ⟨q, hq⟩ : ∃ l, textOf k3 = l := ⟨_, rfl⟩
  have hsz : l.size ≤ 2 ∧ r.size ≤ 2 ∧ p.size ≤ 2 ∧ q.size ≤ 2 := by rw [← hl, ← hr, ← hp, ← hq]; exact ⟨textOf_size _, textOf_size _, textOf_size _, textOf_size _⟩
  obtain ⟨l1, l2, l3, l4⟩ := hsz
  obtain ⟨htwo⟩ := HTWO.out
  rw [hl, hr, hp, hq] at htwo ⊢
  have HT2 := Lib.hid htwo
  clear hl hr hp hq htwo HTWO
  rcases HT2.out with ⟨rfl, rfl, rfl, rfl, hu, hv⟩ | ⟨hne, rfl, rfl, hu, hcase⟩
  · have f1 : ((u.clashes == 0) : Bool) = true := by rw [hu]; rfl
    have f2 : ((v.clashes == 1) : Bool) = false := by rw [hv]; rfl
    clear hu hv
    go_wp2_with fail
    go_ret
    exact ⟨rfl, HW.out⟩
  · have f1 : ((u.clashes == 0) : Bool) = true := by rw [hu]; rfl
    have HCASE := Lib.hid hcase
    have HNEQ := Lib.hid hne
    clear hu hcase hne
    obtain ⟨le, hle, f2⟩ : ∃ le : Bool, (((l.size : Int) + (r.size : Int) == (p.size : Int) + (q.size : Int)) : Bool) = le ∧ ((v.clashes == 1) : Bool) = le := by
      rcases HCASE.out with ⟨h1, h2⟩ | ⟨h1, h2⟩
      · exact ⟨true, by rw [beq_iff_eq]; exact h2, by rw [h1]; rfl⟩
      · exact ⟨false, by rw [beq_eq_false_iff_ne]; exact h2, by rw [h1]; rfl⟩
    have wa : IntKind.i64.wrap ((l.size : Int) + (r.size : Int)) = (l.size : Int) + (r.size : Int) := IntWalk.i64_in _ (by omega)
    have wb : IntKind.i64.wrap ((p.size : Int) + (q.size : Int)) = (p.size : Int) + (q.size : Int) := IntWalk.i64_in _ (by omega)
    cases t1 : (l.toList == p.toList) with
    | false =>
      cases le with
      | false =>
        go_wp2_with fail
        go_ret
        exact ⟨rfl, HW.out⟩
      | true =>
        go_wp2_with fail
        go_ret
        exact ⟨rfl, HW.out⟩
    | true =>
      have t2 : (r.toList == q.toList) = false := by
        rw [Bool.eq_false_iff]
        intro h2
        exact HNEQ.out ⟨text_eq t1, text_eq h2⟩
      cases le with
      | false =>
        go_wp2_with fail
        go_ret
        exact ⟨rfl, HW.out⟩
      | true =>
        go_wp2_with fail
        go_ret
        exact ⟨rfl, HW.out⟩


end Go.Proofs.Ytjifmfgfmciaeaa
