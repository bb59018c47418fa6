/-
  collatorlaw14.awake: chapter 14's example, and more; it returns true, if package cache is as the chapter says. Nothing that was there is changed.
-/
import Derived.Test.YtjifmfgfmciaeaaOk
namespace Go.Proofs.Ytjifmfgfmciaeaa
open Go.RowKit

theorem i64_0 : I64 0 := ⟨by omega, by omega⟩
theorem i64_1 : I64 1 := ⟨by omega, by omega⟩
/-- what chapter 14's example comes to -/
structure AwF (k1 k2 k3 k4 k5 k6 : Ca) : Prop where
  n1 : newC 1 1 0 = (k1, 0)
  p2 : putC k1 ⟨#[97]⟩ ⟨#[98]⟩ ⟨#[118]⟩ = (k2, 0)
  g3 : getC k2 ⟨#[97]⟩ ⟨#[98]⟩ = (⟨#[118]⟩, k3, 0)
  g4 : getC k3 ⟨#[99]⟩ ⟨#[100]⟩ = (⟨#[]⟩, k4, 10)
  g5 : getC k4 ⟨#[99]⟩ ⟨#[]⟩ = (⟨#[]⟩, k5, 10)
  p6 : putC k5 ⟨#[99]⟩ ⟨#[100]⟩ ⟨#[119]⟩ = (k6, 0)
  n7 : newC 0 1 1 = (zeroC, 1)
  g8 : getC zeroC ⟨#[]⟩ ⟨#[]⟩ = (⟨#[]⟩, zeroC, 1)
  h1 : k3.hits = 1
  h2 : k4.clashes = 1
  h3 : k5.misses = 1
  h4 : k6.evicted = 0
  sz : ((sizeC k6 : Nat) : Int) = 1
  r6 : rightC k6 = true
  r0 : rightC zeroC = false
  f0 : CaFit zeroC
  f1 : CaFit k1
  f2 : CaFit k2
  f3 : CaFit k3
  f4 : CaFit k4
  f5 : CaFit k5
  f6 : CaFit k6
theorem good_next {c d : Ca} {m : Nat} {l r v : ByteArray} {b : Int} (h : Good c m) (e : putC c l r v = (d, b)) (hl : l.size ≤ 4096) (hr : r.size ≤ 4096) (hv : v.size ≤ 4096) : Good d (m + 1) := by
  have := h.put l r v hl hr hv
  rwa [e] at this
theorem good_got {c d : Ca} {m : Nat} {l r s : ByteArray} {b : Int} (h : Good c m) (e : getC c l r = (s, d, b)) : Good d m := by
  have := h.get l r
  rwa [e] at this
def aS : Sl := ⟨0, 2, ⟨#[97]⟩, ⟨#[98]⟩, ⟨#[118]⟩⟩
def aS2 : Sl := ⟨0, 2, ⟨#[99]⟩, ⟨#[100]⟩, ⟨#[119]⟩⟩
theorem aw_facts : ∃ k1 k2 k3 k4 k5 k6, AwF k1 k2 k3 k4 k5 k6 := by
  have n1 : newC 1 1 0 = (⟨0, 1, [[]], 0, 0, 0, 0⟩, 0) := by kernel_rfl
  have p2 : putC ⟨0, 1, [[]], 0, 0, 0, 0⟩ ⟨#[97]⟩ ⟨#[98]⟩ ⟨#[118]⟩ = (⟨0, 1, [[aS]], 0, 0, 0, 0⟩, 0) := by kernel_rfl
  have g3 : getC ⟨0, 1, [[aS]], 0, 0, 0, 0⟩ ⟨#[97]⟩ ⟨#[98]⟩ = (⟨#[118]⟩, ⟨0, 1, [[aS]], 1, 0, 0, 0⟩, 0) := by kernel_rfl
  have g4 : getC ⟨0, 1, [[aS]], 1, 0, 0, 0⟩ ⟨#[99]⟩ ⟨#[100]⟩ = (⟨#[]⟩, ⟨0, 1, [[aS]], 1, 0, 1, 0⟩, 10) := by kernel_rfl
  have g5 : getC ⟨0, 1, [[aS]], 1, 0, 1, 0⟩ ⟨#[99]⟩ ⟨#[]⟩ = (⟨#[]⟩, ⟨0, 1, [[aS]], 1, 1, 1, 0⟩, 10) := by kernel_rfl
  have p6 : putC ⟨0, 1, [[aS]], 1, 1, 1, 0⟩ ⟨#[99]⟩ ⟨#[100]⟩ ⟨#[119]⟩ = (⟨0, 1, [[aS2]], 1, 1, 1, 0⟩, 0) := by kernel_rfl
  have d1 : Good ⟨0, 1, [[]], 0, 0, 0, 0⟩ 0 := by
    have h := Good.new (p := 1) (r := 1) (w := 0) (by decide)
    rwa [n1] at h
  have d2 := good_next d1 p2 (by decide) (by decide) (by decide)
  have d3 := good_got d2 g3
  have d4 := good_got d3 g4
  have d5 := good_got d4 g5
  have d6 := good_next d5 p6 (by decide) (by decide) (by decide)
  refine ⟨_, _, _, _, _, _, n1, p2, g3, g4, g5, p6, by kernel_rfl, by kernel_rfl, rfl, rfl, rfl, rfl, rfl, rightC_iff.2 d6.right, by kernel_rfl, ?_, d1.fit (by omega), d2.fit (by omega), d3.fit (by omega), d4.fit (by omega), d5.fit (by omega), d6.fit (by omega)⟩
  exact ⟨by decide, (fun L hL => by cases hL), i64_0, i64_0, i64_0, i64_0, i64_0, i64_0⟩

set_option maxHeartbeats 8000000 in
set_option maxRecDepth 100000 in
theorem awake_any (H : CacheOk) (w : World) : Calls Try.prog 9 #[] w fun e w' => e = .returned (.bool true) ∧ Below w.heap.size w w' := by
  obtain ⟨k1, k2, k3, k4, k5, k6, hF⟩ := aw_facts
  have F := Lib.hid hF
  clear hF
  go_enter Try.func9, Try.ntmps9
  go_wp2_with fail
  refine (H.new 1 1 0 _ k1 0 F.out.n1 i64_1 i64_1 i64_0 (fun _ => False) (fun _ (e : False) => e.elim)).mono ?_
  rintro e w1 ⟨A1, n1, cap1, rfl, hn1, hp, hb, hc1⟩
  have HP1 := Lib.hid hp
  have HB1 := Lib.hid hb
  clear hp hb
  go_upto_region 2 with (fail)
  have hbk := Blk.new w1 28 #[.int .i64 k1.width, .int .i64 k1.room, .slice A1 n1 cap1, .int .i64 k1.hits, .int .i64 k1.misses, .int .i64 k1.clashes, .int .i64 k1.evicted]
  have hal : Below w1.heap.size w1 (w1.alloc (.cells #[.int .i64 k1.width, .int .i64 k1.room, .slice A1 n1 cap1, .int .i64 k1.hits, .int .i64 k1.misses, .int .i64 k1.clashes, .int .i64 k1.evicted] 28)) := (Below.refl _ _).alloc (Nat.le_refl _) _
  obtain ⟨v1, hv⟩ : ∃ v, v = w1.alloc (.cells #[.int .i64 k1.width, .int .i64 k1.room, .slice A1 n1 cap1, .int .i64 k1.hits, .int .i64 k1.misses, .int .i64 k1.clashes, .int .i64 k1.evicted] 28) := ⟨_, rfl⟩
  obtain ⟨g1, hg⟩ : ∃ g, g = w1.heap.size := ⟨_, rfl⟩
  rw [← hv] at hbk hal ⊢
  rw [← hg] at hbk ⊢
  have HK1 := Lib.hid hbk
  have HL1 := Lib.hid hal
  have HQ1 := Lib.hid (HP1.out.up hal)
  clear hbk hal hv hg
  obtain ⟨y0, y1, y2, y3, y4, y5, y6⟩ := box7 HK1.out (Below.refl _ _)
  go_wp2_with fail
  refine (H.put k1 A1 n1 cap1 ⟨#[97]⟩ ⟨#[98]⟩ ⟨#[118]⟩ _ k2 0 F.out.p2 (fun _ => False) (fun _ (e : False) => e.elim) HQ1.out hn1 hc1 F.out.f1 (by decide) (by decide) (by decide)).mono ?_
  rintro e w2 ⟨A2, n2, cap2, rfl, hn2, hp, hb, hc2⟩
  have HP2 := Lib.hid hp
  have HB2 := Lib.hid hb
  clear hp hb
  clear y0 y1 y2 y3 y4 y5 y6
  go_upto_region 3 with (fail)
  have hbk := Blk.new w2 28 #[.int .i64 k2.width, .int .i64 k2.room, .slice A2 n2 cap2, .int .i64 k2.hits, .int .i64 k2.misses, .int .i64 k2.clashes, .int .i64 k2.evicted]
  have hal : Below w2.heap.size w2 (w2.alloc (.cells #[.int .i64 k2.width, .int .i64 k2.room, .slice A2 n2 cap2, .int .i64 k2.hits, .int .i64 k2.misses, .int .i64 k2.clashes, .int .i64 k2.evicted] 28)) := (Below.refl _ _).alloc (Nat.le_refl _) _
  obtain ⟨v2, hv⟩ : ∃ v, v = w2.alloc (.cells #[.int .i64 k2.width, .int .i64 k2.room, .slice A2 n2 cap2, .int .i64 k2.hits, .int .i64 k2.misses, .int .i64 k2.clashes, .int .i64 k2.evicted] 28) := ⟨_, rfl⟩
  obtain ⟨g2, hg⟩ : ∃ g, g = w2.heap.size := ⟨_, rfl⟩
  rw [← hv] at hbk hal ⊢
  rw [← hg] at hbk ⊢
  have HK2 := Lib.hid hbk
  have HL2 := Lib.hid hal
  have HQ2 := Lib.hid (HP2.out.up hal)
  clear hbk hal hv hg
  obtain ⟨y0, y1, y2, y3, y4, y5, y6⟩ := box7 HK2.out (Below.refl _ _)
  go_wp2_with fail
  refine (H.get k2 A2 n2 cap2 ⟨#[97]⟩ ⟨#[98]⟩ _ ⟨#[118]⟩ k3 0 F.out.g3 (fun _ => False) (fun _ (e : False) => e.elim) HQ2.out hn2 hc2 F.out.f2 (by decide) (by decide)).mono ?_
  rintro e w3 ⟨A3, n3, cap3, rfl, hn3, hp, hb, hc3⟩
  have HP3 := Lib.hid hp
  have HB3 := Lib.hid hb
  clear hp hb
  clear y0 y1 y2 y3 y4 y5 y6
  go_upto_region 4 with (fail)
  have hbk := Blk.new w3 28 #[.int .i64 k3.width, .int .i64 k3.room, .slice A3 n3 cap3, .int .i64 k3.hits, .int .i64 k3.misses, .int .i64 k3.clashes, .int .i64 k3.evicted]
  have hal : Below w3.heap.size w3 (w3.alloc (.cells #[.int .i64 k3.width, .int .i64 k3.room, .slice A3 n3 cap3, .int .i64 k3.hits, .int .i64 k3.misses, .int .i64 k3.clashes, .int .i64 k3.evicted] 28)) := (Below.refl _ _).alloc (Nat.le_refl _) _
  obtain ⟨v3, hv⟩ : ∃ v, v = w3.alloc (.cells #[.int .i64 k3.width, .int .i64 k3.room, .slice A3 n3 cap3, .int .i64 k3.hits, .int .i64 k3.misses, .int .i64 k3.clashes, .int .i64 k3.evicted] 28) := ⟨_, rfl⟩
  obtain ⟨g3, hg⟩ : ∃ g, g = w3.heap.size := ⟨_, rfl⟩
  rw [← hv] at hbk hal ⊢
  rw [← hg] at hbk ⊢
  have HK3 := Lib.hid hbk
  have HL3 := Lib.hid hal
  have HQ3 := Lib.hid (HP3.out.up hal)
  clear hbk hal hv hg
  obtain ⟨y0, y1, y2, y3, y4, y5, y6⟩ := box7 HK3.out (Below.refl _ _)
  go_wp2_with fail
  refine (H.get k3 A3 n3 cap3 ⟨#[99]⟩ ⟨#[100]⟩ _ ⟨#[]⟩ k4 10 F.out.g4 (fun _ => False) (fun _ (e : False) => e.elim) HQ3.out hn3 hc3 F.out.f3 (by decide) (by decide)).mono ?_
  rintro e w4 ⟨A4, n4, cap4, rfl, hn4, hp, hb, hc4⟩
  have HP4 := Lib.hid hp
  have HB4 := Lib.hid hb
  clear hp hb
  clear y0 y1 y2 y3 y4 y5 y6
  go_upto_region 5 with (fail)
  have hbk := Blk.new w4 28 #[.int .i64 k4.width, .int .i64 k4.room, .slice A4 n4 cap4, .int .i64 k4.hits, .int .i64 k4.misses, .int .i64 k4.clashes, .int .i64 k4.evicted]
  have hal : Below w4.heap.size w4 (w4.alloc (.cells #[.int .i64 k4.width, .int .i64 k4.room, .slice A4 n4 cap4, .int .i64 k4.hits, .int .i64 k4.misses, .int .i64 k4.clashes, .int .i64 k4.evicted] 28)) := (Below.refl _ _).alloc (Nat.le_refl _) _
  obtain ⟨v4, hv⟩ : ∃ v, v = w4.alloc (.cells #[.int .i64 k4.width, .int .i64 k4.room, .slice A4 n4 cap4, .int .i64 k4.hits, .int .i64 k4.misses, .int .i64 k4.clashes, .int .i64 k4.evicted] 28) := ⟨_, rfl⟩
  obtain ⟨g4, hg⟩ : ∃ g, g = w4.heap.size := ⟨_, rfl⟩
  rw [← hv] at hbk hal ⊢
  rw [← hg] at hbk ⊢
  have HK4 := Lib.hid hbk
  have HL4 := Lib.hid hal
  have HQ4 := Lib.hid (HP4.out.up hal)
  clear hbk hal hv hg
  obtain ⟨y0, y1, y2, y3, y4, y5, y6⟩ := box7 HK4.out (Below.refl _ _)
  go_wp2_with fail
  refine (H.get k4 A4 n4 cap4 ⟨#[99]⟩ ⟨#[]⟩ _ ⟨#[]⟩ k5 10 F.out.g5 (fun _ => False) (fun _ (e : False) => e.elim) HQ4.out hn4 hc4 F.out.f4 (by decide) (by decide)).mono ?_
  rintro e w5 ⟨A5, n5, cap5, rfl, hn5, hp, hb, hc5⟩
  have HP5 := Lib.hid hp
  have HB5 := Lib.hid hb
  clear hp hb
  clear y0 y1 y2 y3 y4 y5 y6
  go_upto_region 6 with (fail)
  have hbk := Blk.new w5 28 #[.int .i64 k5.width, .int .i64 k5.room, .slice A5 n5 cap5, .int .i64 k5.hits, .int .i64 k5.misses, .int .i64 k5.clashes, .int .i64 k5.evicted]
  have hal : Below w5.heap.size w5 (w5.alloc (.cells #[.int .i64 k5.width, .int .i64 k5.room, .slice A5 n5 cap5, .int .i64 k5.hits, .int .i64 k5.misses, .int .i64 k5.clashes, .int .i64 k5.evicted] 28)) := (Below.refl _ _).alloc (Nat.le_refl _) _
  obtain ⟨v5, hv⟩ : ∃ v, v = w5.alloc (.cells #[.int .i64 k5.width, .int .i64 k5.room, .slice A5 n5 cap5, .int .i64 k5.hits, .int .i64 k5.misses, .int .i64 k5.clashes, .int .i64 k5.evicted] 28) := ⟨_, rfl⟩
  obtain ⟨g5, hg⟩ : ∃ g, g = w5.heap.size := ⟨_, rfl⟩
  rw [← hv] at hbk hal ⊢
  rw [← hg] at hbk ⊢
  have HK5 := Lib.hid hbk
  have HL5 := Lib.hid hal
  have HQ5 := Lib.hid (HP5.out.up hal)
  clear hbk hal hv hg
  obtain ⟨y0, y1, y2, y3, y4, y5, y6⟩ := box7 HK5.out (Below.refl _ _)
  go_wp2_with fail
  refine (H.put k5 A5 n5 cap5 ⟨#[99]⟩ ⟨#[100]⟩ ⟨#[119]⟩ _ k6 0 F.out.p6 (fun _ => False) (fun _ (e : False) => e.elim) HQ5.out hn5 hc5 F.out.f5 (by decide) (by decide) (by decide)).mono ?_
  rintro e w6 ⟨A6, n6, cap6, rfl, hn6, hp, hb, hc6⟩
  have HP6 := Lib.hid hp
  have HB6 := Lib.hid hb
  clear hp hb
  clear y0 y1 y2 y3 y4 y5 y6
  go_upto_region 7 with (fail)
  have hbk := Blk.new w6 28 #[.int .i64 k6.width, .int .i64 k6.room, .slice A6 n6 cap6, .int .i64 k6.hits, .int .i64 k6.misses, .int .i64 k6.clashes, .int .i64 k6.evicted]
  have hal : Below w6.heap.size w6 (w6.alloc (.cells #[.int .i64 k6.width, .int .i64 k6.room, .slice A6 n6 cap6, .int .i64 k6.hits, .int .i64 k6.misses, .int .i64 k6.clashes, .int .i64 k6.evicted] 28)) := (Below.refl _ _).alloc (Nat.le_refl _) _
  obtain ⟨v6, hv⟩ : ∃ v, v = w6.alloc (.cells #[.int .i64 k6.width, .int .i64 k6.room, .slice A6 n6 cap6, .int .i64 k6.hits, .int .i64 k6.misses, .int .i64 k6.clashes, .int .i64 k6.evicted] 28) := ⟨_, rfl⟩
  obtain ⟨g6, hg⟩ : ∃ g, g = w6.heap.size := ⟨_, rfl⟩
  rw [← hv] at hbk hal ⊢
  rw [← hg] at hbk ⊢
  have HK6 := Lib.hid hbk
  have HL6 := Lib.hid hal
  have HQ6 := Lib.hid (HP6.out.up hal)
  clear hbk hal hv hg
  go_wp2_with fail
  refine (H.new 0 1 1 _ zeroC 1 F.out.n7 i64_0 i64_1 i64_1 (fun _ => False) (fun _ (e : False) => e.elim)).mono ?_
  rintro e w7 ⟨A7, n7, cap7, rfl, hn7, hp, hb, hc7⟩
  have HP7 := Lib.hid hp
  have HB7 := Lib.hid hb
  clear hp hb
  go_upto_region 8 with (fail)
  have hbk := Blk.new w7 28 #[.int .i64 zeroC.width, .int .i64 zeroC.room, .slice A7 n7 cap7, .int .i64 zeroC.hits, .int .i64 zeroC.misses, .int .i64 zeroC.clashes, .int .i64 zeroC.evicted]
  have hal : Below w7.heap.size w7 (w7.alloc (.cells #[.int .i64 zeroC.width, .int .i64 zeroC.room, .slice A7 n7 cap7, .int .i64 zeroC.hits, .int .i64 zeroC.misses, .int .i64 zeroC.clashes, .int .i64 zeroC.evicted] 28)) := (Below.refl _ _).alloc (Nat.le_refl _) _
  obtain ⟨v7, hv⟩ : ∃ v, v = w7.alloc (.cells #[.int .i64 zeroC.width, .int .i64 zeroC.room, .slice A7 n7 cap7, .int .i64 zeroC.hits, .int .i64 zeroC.misses, .int .i64 zeroC.clashes, .int .i64 zeroC.evicted] 28) := ⟨_, rfl⟩
  obtain ⟨g7, hg⟩ : ∃ g, g = w7.heap.size := ⟨_, rfl⟩
  rw [← hv] at hbk hal ⊢
  rw [← hg] at hbk ⊢
  have HK7 := Lib.hid hbk
  have HL7 := Lib.hid hal
  have HQ7 := Lib.hid (HP7.out.up hal)
  clear hbk hal hv hg
  go_wp2_with fail
  refine (H.get zeroC none 0 0 ⟨#[]⟩ ⟨#[]⟩ _ ⟨#[]⟩ zeroC 1 F.out.g8 (fun _ => False) (fun _ (e : False) => e.elim) PartsAt.nil rfl (Nat.le_refl _) F.out.f0 (by decide) (by decide)).mono ?_
  rintro e w8 ⟨A8, n8, cap8, rfl, hn8, hp, hb, hc8⟩
  have HB8 := Lib.hid hb
  clear hp hb
  obtain ⟨a0, a1, a2, a3, a4, a5, a6⟩ := box7 HK3.out (below_step (below_step HB4.out HL4.out) (below_step (below_step HB5.out HL5.out) (below_step (below_step HB6.out HL6.out) (below_step (below_step HB7.out HL7.out) HB8.out))))
  obtain ⟨b0, b1, b2, b3, b4, b5, b6⟩ := box7 HK4.out (below_step (below_step HB5.out HL5.out) (below_step (below_step HB6.out HL6.out) (below_step (below_step HB7.out HL7.out) HB8.out)))
  obtain ⟨c0, c1, c2, c3, c4, c5, c6⟩ := box7 HK5.out (below_step (below_step HB6.out HL6.out) (below_step (below_step HB7.out HL7.out) HB8.out))
  obtain ⟨d0, d1, d2, d3, d4, d5, d6⟩ := box7 HK6.out (below_step (below_step HB7.out HL7.out) HB8.out)
  have h1 := F.out.h1
  have h2 := F.out.h2
  have h3 := F.out.h3
  have h4 := F.out.h4
  rw [h1] at a3
  rw [h2] at b5
  rw [h3] at c4
  have h4b : ((k6.evicted == 0) : Bool) = true := by rw [h4]; rfl
  have l3 : g3 < w8.heap.size := (Blk.below HK3.out (below_step (below_step HB4.out HL4.out) (below_step (below_step HB5.out HL5.out) (below_step (below_step HB6.out HL6.out) (below_step (below_step HB7.out HL7.out) HB8.out)))) HK3.out.lt).lt
  have l4 : g4 < w8.heap.size := (Blk.below HK4.out (below_step (below_step HB5.out HL5.out) (below_step (below_step HB6.out HL6.out) (below_step (below_step HB7.out HL7.out) HB8.out))) HK4.out.lt).lt
  have l5 : g5 < w8.heap.size := (Blk.below HK5.out (below_step (below_step HB6.out HL6.out) (below_step (below_step HB7.out HL7.out) HB8.out)) HK5.out.lt).lt
  have l6 : g6 < w8.heap.size := (Blk.below HK6.out (below_step (below_step HB7.out HL7.out) HB8.out) HK6.out.lt).lt
  have HPZ := Lib.hid (HQ6.out.up (below_step (below_step HB7.out HL7.out) HB8.out))
  have HBZ : Hid (Below w.heap.size w w8) := Lib.hid (below_step (below_step (below_step HB1.out HL1.out) (below_step HB2.out HL2.out)) (below_step (below_step HB3.out HL3.out) (below_step (below_step HB4.out HL4.out) (below_step (below_step HB5.out HL5.out) (below_step (below_step HB6.out HL6.out) (below_step (below_step HB7.out HL7.out) HB8.out))))))
  clear h1 h2 h3 h4
  go_wp2_with fail
  have hal8 : Below w8.heap.size w8 (w8.alloc (.cells #[.int .i64 zeroC.width, .int .i64 zeroC.room, .slice A8 n8 cap8, .int .i64 zeroC.hits, .int .i64 zeroC.misses, .int .i64 zeroC.clashes, .int .i64 zeroC.evicted] 28)) := (Below.refl _ _).alloc (Nat.le_refl _) _
  obtain ⟨v8, hv⟩ : ∃ v, v = w8.alloc (.cells #[.int .i64 zeroC.width, .int .i64 zeroC.room, .slice A8 n8 cap8, .int .i64 zeroC.hits, .int .i64 zeroC.misses, .int .i64 zeroC.clashes, .int .i64 zeroC.evicted] 28) := ⟨_, rfl⟩
  rw [← hv] at hal8 ⊢
  clear hv
  refine (H.size k6 A6 n6 cap6 _ (fun _ => False) (HPZ.out.up hal8) hn6 hc6 F.out.f6).mono ?_
  rintro e w9 ⟨rfl, hb⟩
  rw [F.out.sz]
  have hb9 := below_step hal8 hb
  have HB9 := Lib.hid hb9
  clear hb hb9 d0 d1 d2 d3 d4 d5 d6 a0 a1 a2 a3 a4 a5 a6 b0 b1 b2 b3 b4 b5 b6 c0 c1 c2 c3 c4 c5 c6 l3 l4 l5 l6
  have hn6' := Lib.hid hn6
  clear hn1 hn2 hn3 hn4 hn5 hn6 hn7 hn8
  obtain ⟨d0, d1, d2, d3, d4, d5, d6⟩ := box7 HK6.out (below_step (below_step (below_step HB7.out HL7.out) HB8.out) HB9.out)
  go_wp2_with fail
  refine (H.right k6 A6 n6 cap6 _ true F.out.r6 (fun _ => False) (HPZ.out.up HB9.out) hn6'.out hc6 F.out.f6).mono ?_
  rintro e w10 ⟨rfl, hb⟩
  have HB10 := Lib.hid (below_step HB9.out hb)
  clear hb
  go_wp2_with fail
  refine (H.right zeroC none 0 0 _ false F.out.r0 (fun _ => False) PartsAt.nil rfl (Nat.le_refl _) F.out.f0).mono ?_
  rintro e w11 ⟨rfl, hb⟩
  have HB11 := Lib.hid (below_step HB10.out hb)
  clear hb
  go_wp2_with fail
  go_ret
  exact ⟨rfl, below_step HBZ.out HB11.out⟩

end Go.Proofs.Ytjifmfgfmciaeaa
