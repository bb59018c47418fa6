/-
  collatorlaw14.CacheParts returns true: with room for all in each part, what is told does not hang on how many parts there are. Nothing that was there is changed.
-/
import Derived.Test.YtjifmfgfmciaeaaLw
import Derived.Deep.CutBlock
import Derived.Test.YtjifmfgfmciaeaaOpn
import Derived.Test.YtjifmfgfmciaeaaPrP
namespace Go.Proofs.Ytjifmfgfmciaeaa
open Go.RowKit

/-- what has been put, in its cells -/
def PutAt (ls : Array Value) (V : Nat → Nat → Option ByteArray) : Prop := ls.size = 36 ∧ ∀ a b : Nat, a < 6 → b < 6 → ls[a * 6 + b]? = some (.bool (V a b).isSome)
theorem PutAt.set_ {ls : Array Value} {V : Nat → Nat → Option ByteArray} (h : PutAt ls V) {a b : Nat} (ha : a < 6) (hb : b < 6) (v : ByteArray) : PutAt (ls.setIfInBounds (a * 6 + b) (.bool true)) (setV V a b v) := by
  refine ⟨by rw [Array.size_setIfInBounds]; exact h.1, fun i j hi hj => ?_⟩
  unfold setV
  by_cases e : i = a ∧ j = b
  · obtain ⟨rfl, rfl⟩ := e
    rw [if_pos ⟨rfl, rfl⟩]
    exact Array.getElem?_setIfInBounds_self_of_lt (by rw [h.1]; omega)
  · rw [if_neg e, Array.getElem?_setIfInBounds_ne (by omega)]
    exact h.2 i j hi hj
def put0 : Array Value := #[.bool false, .bool false, .bool false, .bool false, .bool false, .bool false, .bool false, .bool false, .bool false, .bool false, .bool false, .bool false, .bool false, .bool false, .bool false, .bool false, .bool false, .bool false, .bool false, .bool false, .bool false, .bool false, .bool false, .bool false, .bool false, .bool false, .bool false, .bool false, .bool false, .bool false, .bool false, .bool false, .bool false, .bool false, .bool false, .bool false]
theorem put0_at : PutAt put0 (fun _ _ => none) := by
  refine ⟨rfl, fun a b ha hb => ?_⟩
  have : ∀ i : Fin 36, put0[i.val]? = some (.bool false) := fun i => by
    obtain ⟨i, hi⟩ := i
    have : put0 = (List.replicate 36 (Value.bool false)).toArray := rfl
    rw [this, List.getElem?_toArray, List.getElem?_replicate, if_pos hi]
  exact this ⟨a * 6 + b, by omega⟩

set_option maxHeartbeats 80000000 in
set_option maxRecDepth 100000 in
theorem parts_any (A0 : Option Addr) (deeds : List Tri) (dn dc : Nat) (n1 n2 : Int) (w : World) (ha0 : TrisAt w A0 deeds) (hn0 : deeds.length = dn) (hl0 : dn ≤ 9223372036854775807) (hf0 : ∀ z ∈ deeds, TriFit z) (hi1 : I64 n1) (hi2 : I64 n2) :
    Calls Try.prog 7 #[.slice A0 dn dc, .int .i64 n1, .int .i64 n2] w fun e w' => e = .returned (.bool true) ∧ Below w.heap.size w w' := by
  subst hn0
  have HA0 := Lib.hid ha0
  have HF0 := Lib.hid hf0
  have HN1 := Lib.hid hi1
  have HN2 := Lib.hid hi2
  obtain ⟨q1, hq1⟩ : ∃ q, pickI n1 16 = q := ⟨_, rfl⟩
  obtain ⟨q2, hq2⟩ : ∃ q, pickI n2 16 = q := ⟨_, rfl⟩
  have a1 := pickI_range n1 16 (by omega)
  have a2 := pickI_range n2 16 (by omega)
  rw [hq1] at a1
  rw [hq2] at a2
  have hft1 : fitsB (1 + q1) 1600 64 = true := decide_eq_true ⟨by omega, by omega, by omega, by omega, by omega, by omega⟩
  have hft2 : fitsB (1 + q2) 1600 64 = true := decide_eq_true ⟨by omega, by omega, by omega, by omega, by omega, by omega⟩
  obtain ⟨ca0, ec1⟩ : ∃ c, (newC (1 + q1) 1600 64).1 = c := ⟨_, rfl⟩
  obtain ⟨cb0, ec2⟩ : ∃ c, (newC (1 + q2) 1600 64).1 = c := ⟨_, rfl⟩
  have HC1 : Hid (newC (1 + q1) 1600 64 = (ca0, 0)) := Lib.hid (by rw [← ec1]; unfold newC; rw [if_pos hft1])
  have HC2 : Hid (newC (1 + q2) 1600 64 = (cb0, 0)) := Lib.hid (by rw [← ec2]; unfold newC; rw [if_pos hft2])
  have HPR0 : Hid (Prt2 ca0 cb0 (fun _ _ => none) 0) := Lib.hid (by rw [← ec1, ← ec2]; exact ⟨Prt.new hft1, Prt.new hft2, by unfold newC; rw [if_pos hft1, if_pos hft2], by unfold newC; rw [if_pos hft1, if_pos hft2], by
    have h1 := (Good.new hft1).size
    have h2 := (Good.new hft2).size
    omega⟩)
  have hw1 : IntKind.i64.wrap (1 + q1) = 1 + q1 := IntWalk.i64_in _ (by omega)
  have hw2 : IntKind.i64.wrap (1 + q2) = 1 + q2 := IntWalk.i64_in _ (by omega)
  have HQ1 := Lib.hid hq1
  have HQ2 := Lib.hid hq2
  clear ha0 hf0 hi1 hi2 hq1 hq2 ec1 ec2 hft1 hft2
  go_enter Try.func7, Try.ntmps7
  go_wp2_with fail
  refine (awake_any cache_ok _).mono ?_
  rintro e w2 ⟨rfl, hb⟩
  have HW2 := Lib.hid hb
  clear hb
  go_wp2_with fail
  refine (pick_v n1 16 q1 HQ1.out _ HN1.out (by omega) (by omega)).mono ?_
  rintro e w' ⟨rfl, rfl⟩
  go_wp2_with fail
  refine (new_new (1 + q1) 1600 64 _ ca0 0 HC1.out).mono ?_
  rintro e w3 ⟨Aa, na, capa, rfl, hna, hpa, hb, hca⟩
  have HB3 := Lib.hid hb
  have HPa0 := Lib.hid hpa
  have HNa0 := Lib.hid hna
  clear hb hpa hna
  go_upto_region 3 with (fail)
  have hba : Blk (w3.alloc (.cells #[.int .i64 ca0.width, .int .i64 ca0.room, .slice Aa na capa, .int .i64 ca0.hits, .int .i64 ca0.misses, .int .i64 ca0.clashes, .int .i64 ca0.evicted] 28)) w3.heap.size 28 #[.int .i64 ca0.width, .int .i64 ca0.room, .slice Aa na capa, .int .i64 ca0.hits, .int .i64 ca0.misses, .int .i64 ca0.clashes, .int .i64 ca0.evicted] := Blk.new w3 _ _
  have hal : Below w3.heap.size w3 (w3.alloc (.cells #[.int .i64 ca0.width, .int .i64 ca0.room, .slice Aa na capa, .int .i64 ca0.hits, .int .i64 ca0.misses, .int .i64 ca0.clashes, .int .i64 ca0.evicted] 28)) := (Below.refl _ _).alloc (Nat.le_refl _) _
  obtain ⟨w4, hw4⟩ : ∃ w4, w4 = w3.alloc (.cells #[.int .i64 ca0.width, .int .i64 ca0.room, .slice Aa na capa, .int .i64 ca0.hits, .int .i64 ca0.misses, .int .i64 ca0.clashes, .int .i64 ca0.evicted] 28) := ⟨_, rfl⟩
  obtain ⟨ga, hga⟩ : ∃ g, g = w3.heap.size := ⟨_, rfl⟩
  rw [← hw4] at hba hal ⊢
  rw [← hga] at hba ⊢
  have HBa0 := Lib.hid hba
  have HB4 := Lib.hid (below_step HB3.out hal)
  have HPa1 := Lib.hid ((HPa0.out.add (show w3.heap.size ≤ ga by omega)).up hal)
  have HGA : Hid (w2.heap.size ≤ ga) := Lib.hid (by have := HB3.out.size; omega)
  clear hba hal hw4 hga
  go_wp2_with fail
  refine (pick_v n2 16 q2 HQ2.out _ HN2.out (by omega) (by omega)).mono ?_
  rintro e w' ⟨rfl, rfl⟩
  go_wp2_with fail
  refine (new_new (1 + q2) 1600 64 _ cb0 0 HC2.out).mono ?_
  rintro e w5 ⟨Ab, nb, capb, rfl, hnb, hpb, hb, hcb⟩
  have HB5 := Lib.hid (below_step HB4.out hb)
  have HB45 := Lib.hid hb
  have HPb0 := Lib.hid hpb
  have HNb0 := Lib.hid hnb
  clear hb hpb hnb
  go_upto_region 4 with (fail)
  have hbb : Blk (w5.alloc (.cells #[.int .i64 cb0.width, .int .i64 cb0.room, .slice Ab nb capb, .int .i64 cb0.hits, .int .i64 cb0.misses, .int .i64 cb0.clashes, .int .i64 cb0.evicted] 28)) w5.heap.size 28 #[.int .i64 cb0.width, .int .i64 cb0.room, .slice Ab nb capb, .int .i64 cb0.hits, .int .i64 cb0.misses, .int .i64 cb0.clashes, .int .i64 cb0.evicted] := Blk.new w5 _ _
  have hal : Below w5.heap.size w5 (w5.alloc (.cells #[.int .i64 cb0.width, .int .i64 cb0.room, .slice Ab nb capb, .int .i64 cb0.hits, .int .i64 cb0.misses, .int .i64 cb0.clashes, .int .i64 cb0.evicted] 28)) := (Below.refl _ _).alloc (Nat.le_refl _) _
  obtain ⟨w6, hw6⟩ : ∃ w6, w6 = w5.alloc (.cells #[.int .i64 cb0.width, .int .i64 cb0.room, .slice Ab nb capb, .int .i64 cb0.hits, .int .i64 cb0.misses, .int .i64 cb0.clashes, .int .i64 cb0.evicted] 28) := ⟨_, rfl⟩
  obtain ⟨gb, hgb⟩ : ∃ g, g = w5.heap.size := ⟨_, rfl⟩
  rw [← hw6] at hbb hal ⊢
  rw [← hgb] at hbb ⊢
  have HBb0 := Lib.hid hbb
  have HB6 := Lib.hid (below_step HB5.out hal)
  have HBa1 := Lib.hid (Blk.below (Blk.below HBa0.out HB45.out HBa0.out.lt) hal (Blk.below HBa0.out HB45.out HBa0.out.lt).lt)
  have HPa2 := Lib.hid (((HPa1.out.up HB45.out).add (show w5.heap.size ≤ gb by omega)).up hal)
  have HPb1 := Lib.hid ((HPb0.out.add (show w5.heap.size ≤ gb by omega)).up hal)
  have HGB : Hid (w2.heap.size ≤ gb ∧ ga < gb) := Lib.hid (by have h1 := HB5.out.size; have h2 := HBa0.out.lt; have h3 := HB45.out.size; omega)
  clear hbb hal hw6 hgb
  go_upto_block 0 with (fail)
  rw [show (#[.bool false, .bool false, .bool false, .bool false, .bool false, .bool false, .bool false, .bool false, .bool false, .bool false, .bool false, .bool false, .bool false, .bool false, .bool false, .bool false, .bool false, .bool false, .bool false, .bool false, .bool false, .bool false, .bool false, .bool false, .bool false, .bool false, .bool false, .bool false, .bool false, .bool false, .bool false, .bool false, .bool false, .bool false, .bool false, .bool false] : Array Value) = put0 from rfl]
  have hbp : Blk (w6.alloc (.cells put0 53)) w6.heap.size 53 put0 := Blk.new w6 _ _
  have hal : Below w6.heap.size w6 (w6.alloc (.cells put0 53)) := (Below.refl _ _).alloc (Nat.le_refl _) _
  obtain ⟨w7, hw7⟩ : ∃ w7, w7 = w6.alloc (.cells put0 53) := ⟨_, rfl⟩
  obtain ⟨gp, hgp⟩ : ∃ g, g = w6.heap.size := ⟨_, rfl⟩
  rw [← hw7] at hbp hal ⊢
  rw [← hgp] at hbp ⊢
  have HG : Hid (w2.heap.size ≤ ga ∧ w2.heap.size ≤ gb ∧ w2.heap.size ≤ gp ∧ gb ≠ ga ∧ gp ≠ ga ∧ gp ≠ gb) := Lib.hid (by have h1 := HGA.out; have h2 := HGB.out; have h3 := HB6.out.size; have h4 := HBa1.out.lt; have h5 := HBb0.out.lt; omega)
  have HI0 : Hid (Below w2.heap.size w2 w7 ∧ Boxed (fun x => x = ga ∨ x = gb ∨ x = gp) w7 ga ca0 ∧ Boxed (fun x => x = ga ∨ x = gb ∨ x = gp) w7 gb cb0 ∧ Blk w7 gp 53 put0) := Lib.hid
    ⟨below_step HB6.out hal, ⟨Aa, na, capa, Blk.below HBa1.out hal HBa1.out.lt, ((HPa2.out.add (show w6.heap.size ≤ gp by omega)).less (fun x hx => by rcases hx with e | e | e; exact .inl (.inl (.inr e)); exact .inl (.inr e); exact .inr e)).up hal, HNa0.out, hca⟩,
     ⟨Ab, nb, capb, Blk.below HBb0.out hal HBb0.out.lt, ((HPb1.out.add (show w6.heap.size ≤ gp by omega)).less (fun x hx => by rcases hx with e | e | e; exact .inl (.inl (by rw [e]; exact Nat.lt_of_lt_of_le HBa0.out.lt (Nat.le_refl _))); exact .inl (.inr e); exact .inr e)).up hal, HNb0.out, hcb⟩, hbp⟩
  clear hbp hal hw7 hgp hw1 hw2 a1 a2 hca hcb
  go_wp2_with fail
  go_loopw [13] (fun s13 wr => ∃ (k : Nat) (ca cb : Ca) (V : Nat → Nat → Option ByteArray) (ls : Array Value), k ≤ deeds.length ∧ k ≤ 30 ∧ s13 = .int .i64 k ∧ Hid (Prt2 ca cb V k) ∧ Hid (PutAt ls V) ∧ Hid (Below w2.heap.size w2 wr ∧ Boxed (fun x => x = ga ∨ x = gb ∨ x = gp) wr ga ca ∧ Boxed (fun x => x = ga ∨ x = gb ∨ x = gp) wr gb cb ∧ Blk wr gp 53 ls)) (fun s13 _ => deeds.length - (intOf s13).toNat)
  case atStart => exact ⟨0, ca0, cb0, _, put0, Nat.zero_le _, Nat.zero_le _, rfl, HPR0, Lib.hid put0_at, HI0⟩
  case round =>
    clear HPa0 HNa0 HBa0 HPa1 HPb0 HNb0 HBb0 HBa1 HPa2 HPb1
    obtain ⟨k, ca, cb, V, ls, hk, hk30, rfl, HPR, HLL, HI⟩ := hrel
    obtain ⟨w4, rfl⟩ : ∃ w4, w4 = wr := ⟨_, rfl⟩
    obtain ⟨Aa, na, capa, hba, hpa, hna, hca⟩ := HI.out.2.1
    obtain ⟨Ab, nb, capb, hbb, hpb, hnb, hcb⟩ := HI.out.2.2.1
    have HBa := Lib.hid hba
    have HPa := Lib.hid hpa
    have HNa := Lib.hid hna
    have HBb := Lib.hid hbb
    have HPb := Lib.hid hpb
    have HNb := Lib.hid hnb
    have HBp := Lib.hid HI.out.2.2.2
    have HFa := Lib.hid (HPR.out.one.good.fit (by omega))
    have HFb := Lib.hid (HPR.out.two.good.fit (by omega))
    have HWW := Lib.hid (below_step HW2.out HI.out.1)
    have HCA0 : Hid (∀ W, Below w4.heap.size w4 W → W.cell? ⟨ga, 0, none⟩ = some (.int .i64 ca.width) ∧ W.cell? ⟨ga, 1, none⟩ = some (.int .i64 ca.room) ∧ W.cell? ⟨ga, 2, none⟩ = some (.slice Aa na capa) ∧ W.cell? ⟨ga, 3, none⟩ = some (.int .i64 ca.hits) ∧ W.cell? ⟨ga, 4, none⟩ = some (.int .i64 ca.misses) ∧ W.cell? ⟨ga, 5, none⟩ = some (.int .i64 ca.clashes) ∧ W.cell? ⟨ga, 6, none⟩ = some (.int .i64 ca.evicted)) := Lib.hid fun W hW => box7 HBa.out hW
    have HCB0 : Hid (∀ W, Below w4.heap.size w4 W → W.cell? ⟨gb, 0, none⟩ = some (.int .i64 cb.width) ∧ W.cell? ⟨gb, 1, none⟩ = some (.int .i64 cb.room) ∧ W.cell? ⟨gb, 2, none⟩ = some (.slice Ab nb capb) ∧ W.cell? ⟨gb, 3, none⟩ = some (.int .i64 cb.hits) ∧ W.cell? ⟨gb, 4, none⟩ = some (.int .i64 cb.misses) ∧ W.cell? ⟨gb, 5, none⟩ = some (.int .i64 cb.clashes) ∧ W.cell? ⟨gb, 6, none⟩ = some (.int .i64 cb.evicted)) := Lib.hid fun W hW => box7 HBb.out hW
    clear hba hpa hna hbb hpb hnb
    by_cases g1 : k < deeds.length
    · by_cases g2 : k < 30
      · obtain ⟨z, hz⟩ : ∃ z, deeds[k]? = some z := ⟨_, List.getElem?_eq_getElem g1⟩
        obtain ⟨aa, rfl, hal, htz⟩ := tri_cells (HA0.out.up HWW.out) hz
        have HTZ0 := Lib.hid htz
        have HTF := Lib.hid (HF0.out z (List.mem_of_getElem? hz))
        clear hz htz
        obtain ⟨a, ha⟩ := Int.eq_ofNat_of_zero_le (pickI_range z.1 6 (by omega)).1
        obtain ⟨b, hb⟩ := Int.eq_ofNat_of_zero_le (pickI_range z.2.1 6 (by omega)).1
        have hab : a < 6 ∧ b < 6 := by have h1 := (pickI_range z.1 6 (by omega)).2; have h2 := (pickI_range z.2.1 6 (by omega)).2; omega
        have HAB := Lib.hid hab
        obtain ⟨hab1, hab2⟩ := hab
        have HPA : Hid (pickI z.1 6 = (a : Int)) := Lib.hid ha
        have HPB : Hid (pickI z.2.1 6 = (b : Int)) := Lib.hid hb
        have HIA : Hid (I64 (a : Int)) := Lib.hid (small_i64 (by omega))
        have HIB : Hid (I64 (b : Int)) := Lib.hid (small_i64 (by omega))
        clear ha hb
        obtain ⟨t0, t1, t2⟩ := HTZ0.out _ (Below.refl _ _)
        go_wp2_with fail
        refine (pick_v z.1 6 a HPA.out _ HTF.out.1 (by omega) (by omega)).mono ?_
        rintro e w' ⟨rfl, rfl⟩
        go_wp2_with fail
        refine (pick_v z.2.1 6 b HPB.out _ HTF.out.2.1 (by omega) (by omega)).mono ?_
        rintro e w' ⟨rfl, rfl⟩
        clear t0 t1 t2
        obtain ⟨w6, hw6⟩ : ∃ w6, w6 = w4 := ⟨_, rfl⟩
        have HB6 : Hid (Below w4.heap.size w4 w6) := Lib.hid (by rw [hw6]; exact Below.refl _ _)
        have HTZ : Hid (∀ W, Below w6.heap.size w6 W → W.cell? (aa.add (k * 3)) = some (.int .i64 z.1) ∧ W.cell? ⟨(aa.add (k * 3)).block, (aa.add (k * 3)).off + 1, none⟩ = some (.int .i64 z.2.1) ∧ W.cell? ⟨(aa.add (k * 3)).block, (aa.add (k * 3)).off + 2, none⟩ = some (.int .i64 z.2.2)) := Lib.hid fun W hW => HTZ0.out W (below_step HB6.out hW)
        have HCA : Hid (∀ W, Below w6.heap.size w6 W → W.cell? ⟨ga, 0, none⟩ = some (.int .i64 ca.width) ∧ W.cell? ⟨ga, 1, none⟩ = some (.int .i64 ca.room) ∧ W.cell? ⟨ga, 2, none⟩ = some (.slice Aa na capa) ∧ W.cell? ⟨ga, 3, none⟩ = some (.int .i64 ca.hits) ∧ W.cell? ⟨ga, 4, none⟩ = some (.int .i64 ca.misses) ∧ W.cell? ⟨ga, 5, none⟩ = some (.int .i64 ca.clashes) ∧ W.cell? ⟨ga, 6, none⟩ = some (.int .i64 ca.evicted)) := Lib.hid fun W hW => HCA0.out W (below_step HB6.out hW)
        have HCB : Hid (∀ W, Below w6.heap.size w6 W → W.cell? ⟨gb, 0, none⟩ = some (.int .i64 cb.width) ∧ W.cell? ⟨gb, 1, none⟩ = some (.int .i64 cb.room) ∧ W.cell? ⟨gb, 2, none⟩ = some (.slice Ab nb capb) ∧ W.cell? ⟨gb, 3, none⟩ = some (.int .i64 cb.hits) ∧ W.cell? ⟨gb, 4, none⟩ = some (.int .i64 cb.misses) ∧ W.cell? ⟨gb, 5, none⟩ = some (.int .i64 cb.clashes) ∧ W.cell? ⟨gb, 6, none⟩ = some (.int .i64 cb.evicted)) := Lib.hid fun W hW => HCB0.out W (below_step HB6.out hW)
        rw [← hw6]
        clear hw6
        have r0 : ((2 : Int) == 0) = false := by rfl
        rcases Nat.mod_two_eq_zero_or_one k with h2 | h2
        · as_aux_lemma =>
          have r1 : (k : Int).tmod 2 = 0 := by rw [Int.tmod_eq_emod_of_nonneg (by omega)]; omega
          have r2 : (k : Int) % 2 = 0 := by omega
          obtain ⟨d1, e1, hpm1⟩ : ∃ d e, putC ca (textOf (a : Int)) (textOf (b : Int)) (textOf z.2.2) = (d, e) := ⟨_, _, rfl⟩
          obtain ⟨d2, e2, hpm2⟩ : ∃ d e, putC cb (textOf (a : Int)) (textOf (b : Int)) (textOf z.2.2) = (d, e) := ⟨_, _, rfl⟩
          obtain rfl : e1 = 0 := by have := (HPR.out.one.put (by omega) HAB.out.1 HAB.out.2 (text_le z.2.2)).2.1; rw [hpm1] at this; exact this
          obtain rfl : e2 = 0 := by have := (HPR.out.two.put (by omega) HAB.out.1 HAB.out.2 (text_le z.2.2)).2.1; rw [hpm2] at this; exact this
          have HPMa := Lib.hid hpm1
          have HPMb := Lib.hid hpm2
          have HPR2 : Hid (Prt2 d1 d2 (setV V a b (textOf z.2.2)) (k + 1)) := Lib.hid (by have := HPR.out.put (by omega) HAB.out.1 HAB.out.2 (text_le z.2.2); rw [hpm1, hpm2] at this; exact this)
          clear hpm1 hpm2
          go_wp2_with fail
          go_cut [16, 17] (fun s16 s17 wx => PutCut w6 d1 0 s16 s17 wx)
          case first => as_aux_lemma =>
            refine wp_region_noPanic ?_
            refine wp_region_held_drew (S := fun W => Below w6.heap.size w6 W) (by kernel_rfl) ((Below.refl w6.heap.size w6).drew) (fun hS0 => ?_)
            change wpAnyH _ _ _ _ _ 18 #[false, false, false, false, false, false, false, false, false, false, false, false, false, false, false, false, false, false] _ (World.drew _)
            refine wpAnyH_take (i := 0) (v := .agg #[.int .i64 ca.width, .int .i64 ca.room, .slice Aa na capa, .int .i64 ca.hits, .int .i64 ca.misses, .int .i64 ca.clashes, .int .i64 ca.evicted]) rfl (by kernel_rfl) (by kernel_rfl) (by kernel_rfl) (fun _ _ _ h => h) (Or.inl ⟨by rfl, fun w' hS' => by obtain ⟨y0, y1, y2, y3, y4, y5, y6⟩ := HCA.out _ hS'; go_simp⟩) hS0 ?_
            change wpAnyH _ _ _ _ _ _ _ (Act.put _ (some 73) (.agg #[.int .i64 ca.width, .int .i64 ca.room, .slice Aa na capa, .int .i64 ca.hits, .int .i64 ca.misses, .int .i64 ca.clashes, .int .i64 ca.evicted])) _
            simp only [Act.put, List.setIfInBounds_toArray, List.set_cons_zero, List.set_cons_succ]
            refine wpAnyH_take (i := 1) (v := .int .i64 (a : Int)) rfl (by kernel_rfl) (by kernel_rfl) (by kernel_rfl) (fun _ _ _ h => h) (Or.inl ⟨by rfl, fun w' hS' => by exact op_move rfl rfl⟩) hS0 ?_
            change wpAnyH _ _ _ _ _ _ _ (Act.put _ (some 74) (.int .i64 (a : Int))) _
            simp only [Act.put, List.setIfInBounds_toArray, List.set_cons_zero, List.set_cons_succ]
            refine wpAnyH_take (i := 3) (v := .int .i64 (b : Int)) rfl (by kernel_rfl) (by kernel_rfl) (by kernel_rfl) (fun _ _ _ h => h) (Or.inl ⟨by rfl, fun w' hS' => by exact op_move rfl rfl⟩) hS0 ?_
            change wpAnyH _ _ _ _ _ _ _ (Act.put _ (some 76) (.int .i64 (b : Int))) _
            simp only [Act.put, List.setIfInBounds_toArray, List.set_cons_zero, List.set_cons_succ]
            refine wpAnyH_take (i := 5) (v := .slice (some aa) deeds.length dc) rfl (by kernel_rfl) (by kernel_rfl) (by kernel_rfl) (fun _ _ _ h => h) (Or.inl ⟨by rfl, fun w' hS' => by exact op_move rfl rfl⟩) hS0 ?_
            change wpAnyH _ _ _ _ _ _ _ (Act.put _ (some 78) (.slice (some aa) deeds.length dc)) _
            simp only [Act.put, List.setIfInBounds_toArray, List.set_cons_zero, List.set_cons_succ]
            refine wpAnyH_take (i := 6) (v := .int .i64 (k : Int)) rfl (by kernel_rfl) (by kernel_rfl) (by kernel_rfl) (fun _ _ _ h => h) (Or.inl ⟨by rfl, fun w' hS' => by exact op_move rfl rfl⟩) hS0 ?_
            change wpAnyH _ _ _ _ _ _ _ (Act.put _ (some 79) (.int .i64 (k : Int))) _
            simp only [Act.put, List.setIfInBounds_toArray, List.set_cons_zero, List.set_cons_succ]
            refine wpAnyH_take (i := 7) (v := .pointer (some (aa.add (k * 3)))) rfl (by kernel_rfl) (by kernel_rfl) (by kernel_rfl) (fun _ _ _ h => h) (Or.inl ⟨by rfl, fun w' hS' => by go_simp⟩) hS0 ?_
            change wpAnyH _ _ _ _ _ _ _ (Act.put _ (some 80) (.pointer (some (aa.add (k * 3))))) _
            simp only [Act.put, List.setIfInBounds_toArray, List.set_cons_zero, List.set_cons_succ]
            refine wpAnyH_take (i := 8) (v := .pointer (some ⟨(aa.add (k * 3)).block, (aa.add (k * 3)).off + 2, none⟩)) rfl (by kernel_rfl) (by kernel_rfl) (by kernel_rfl) (fun _ _ _ h => h) (Or.inl ⟨by rfl, fun w' hS' => by go_simp⟩) hS0 ?_
            change wpAnyH _ _ _ _ _ _ _ (Act.put _ (some 81) (.pointer (some ⟨(aa.add (k * 3)).block, (aa.add (k * 3)).off + 2, none⟩))) _
            simp only [Act.put, List.setIfInBounds_toArray, List.set_cons_zero, List.set_cons_succ]
            refine wpAnyH_take (i := 9) (v := .int .i64 z.2.2) rfl (by kernel_rfl) (by kernel_rfl) (by kernel_rfl) (fun _ _ _ h => h) (Or.inl ⟨by rfl, fun w' hS' => by obtain ⟨t0, t1, t2⟩ := HTZ.out _ hS'; go_simp⟩) hS0 ?_
            change wpAnyH _ _ _ _ _ _ _ (Act.put _ (some 82) (.int .i64 z.2.2)) _
            simp only [Act.put, List.setIfInBounds_toArray, List.set_cons_zero, List.set_cons_succ]
            refine wpAnyH_ready (rs := [2, 15]) (by kernel_rfl) (by simp) (AllReadyH.cons rfl (fun K hK => ?_) (AllReadyH.cons rfl (fun K hK => ?_) (AllReadyH.nil)))
            · skip
              go_simp
              refine (text_any (a : Int) _ HIA.out).mono ?_
              rintro e W1 ⟨rfl, hb3⟩
              refine hK.out _ _ (hS0.trans (hb3.mono hS0.size)) (fun hS2 => ?_)
              clear hK K
              simp only [List.setIfInBounds_toArray, List.set_cons_zero, List.set_cons_succ]
              refine wpAnyH_ready (rs := [4, 15]) (by kernel_rfl) (by simp) (AllReadyH.cons rfl (fun K hK => ?_) (AllReadyH.cons rfl (fun K hK => ?_) (AllReadyH.nil)))
              · skip
                go_simp
                refine (text_any (b : Int) _ HIB.out).mono ?_
                rintro e W4 ⟨rfl, hb6⟩
                refine hK.out _ _ (hS2.trans (hb6.mono hS2.size)) (fun hS5 => ?_)
                clear hK K
                simp only [List.setIfInBounds_toArray, List.set_cons_zero, List.set_cons_succ]
                refine wpAnyH_ready (rs := [10, 15]) (by kernel_rfl) (by simp) (AllReadyH.cons rfl (fun K hK => ?_) (AllReadyH.cons rfl (fun K hK => ?_) (AllReadyH.nil)))
                · skip
                  go_simp
                  refine (text_any z.2.2 _ HTF.out.2.2).mono ?_
                  rintro e W7 ⟨rfl, hb9⟩
                  refine hK.out _ _ (hS5.trans (hb9.mono hS5.size)) (fun hS8 => ?_)
                  clear hK K
                  simp only [List.setIfInBounds_toArray, List.set_cons_zero, List.set_cons_succ]
                  refine wpAnyH_ready (rs := [11, 15]) (by kernel_rfl) (by simp) (AllReadyH.cons rfl (fun K hK => ?_) (AllReadyH.cons rfl (fun K hK => ?_) (AllReadyH.nil)))
                  · skip
                    go_simp
                    refine (put_new ca Aa na capa (textOf (a : Int)) (textOf (b : Int)) (textOf z.2.2) _ d1 0 HPMa.out ((HPa.out.up HB6.out).up hS8) HNa.out HFa.out (text_le _) (text_le _) (text_le _)).mono ?_
                    rintro e W10 ⟨A13, n14, cp15, rfl, hn16, hp17, hb12, hc18⟩
                    refine hK.out _ _ (hS8.trans (hb12.mono hS8.size)) (fun hS11 => ?_)
                    clear hK K
                    simp only [List.setIfInBounds_toArray, List.set_cons_zero, List.set_cons_succ]
                    refine wpAnyH_take (i := 12) (v := .tuple #[.agg #[.int .i64 d1.width, .int .i64 d1.room, .slice A13 n14 cp15, .int .i64 d1.hits, .int .i64 d1.misses, .int .i64 d1.clashes, .int .i64 d1.evicted], .int .i64 0]) rfl (by kernel_rfl) (by kernel_rfl) (by kernel_rfl) (fun _ _ _ h => h) (Or.inl ⟨by rfl, fun w' hS' => by exact op_move rfl rfl⟩) hS11 ?_
                    change wpAnyH _ _ _ _ _ _ _ (Act.put _ (some 72) (.tuple #[.agg #[.int .i64 d1.width, .int .i64 d1.room, .slice A13 n14 cp15, .int .i64 d1.hits, .int .i64 d1.misses, .int .i64 d1.clashes, .int .i64 d1.evicted], .int .i64 0])) _
                    simp only [Act.put, List.setIfInBounds_toArray, List.set_cons_zero, List.set_cons_succ]
                    refine wpAnyH_take (i := 13) (v := .agg #[.int .i64 d1.width, .int .i64 d1.room, .slice A13 n14 cp15, .int .i64 d1.hits, .int .i64 d1.misses, .int .i64 d1.clashes, .int .i64 d1.evicted]) rfl (by kernel_rfl) (by kernel_rfl) (by kernel_rfl) (fun _ _ _ h => h) (Or.inl ⟨by rfl, fun w' hS' => by go_simp⟩) hS11 ?_
                    change wpAnyH _ _ _ _ _ _ _ (Act.put _ (some 85) (.agg #[.int .i64 d1.width, .int .i64 d1.room, .slice A13 n14 cp15, .int .i64 d1.hits, .int .i64 d1.misses, .int .i64 d1.clashes, .int .i64 d1.evicted])) _
                    simp only [Act.put, List.setIfInBounds_toArray, List.set_cons_zero, List.set_cons_succ]
                    refine wpAnyH_take (i := 14) (v := .int .i64 0) rfl (by kernel_rfl) (by kernel_rfl) (by kernel_rfl) (fun _ _ _ h => h) (Or.inl ⟨by rfl, fun w' hS' => by go_simp⟩) hS11 ?_
                    change wpAnyH _ _ _ _ _ _ _ (Act.put _ (some 86) (.int .i64 0)) _
                    simp only [Act.put, List.setIfInBounds_toArray, List.set_cons_zero, List.set_cons_succ]
                    refine wpAnyH_ready (rs := [15]) (by kernel_rfl) (by simp) (AllReadyH.cons rfl (fun K hK => ?_) (AllReadyH.nil))
                    · skip
                      obtain ⟨gs20, W19, hr23, hk24, hb22, hg25⟩ := op_allocC W10
                      refine step_op_run (hr23 _ _ rfl) rfl ?_
                      refine hK.out _ _ (hS11.trans (hb22.mono hS11.size)) (fun hS21 => ?_)
                      clear hK K
                      change wpAnyH _ _ _ _ _ _ _ (Act.put _ (some 16) (.pointer (some ⟨gs20, 0, none⟩))) _
                      simp only [Act.put, List.setIfInBounds_toArray, List.set_cons_zero, List.set_cons_succ]
                      refine wpAnyH_ready (rs := [16]) (by kernel_rfl) (by simp) (AllReadyH.cons rfl (fun K hK => ?_) (AllReadyH.nil))
                      · skip
                        obtain ⟨W26, hr28, hk29, hgr30⟩ := op_store7 hk24 (d1.width) (d1.room) A13 n14 cp15 (d1.hits) (d1.misses) (d1.clashes) (d1.evicted)
                        refine step_op_skip (hr28 _ _ _ _ rfl rfl rfl) rfl ?_
                        refine hK.out _ _ (hS21.grown hgr30 hS21.size (fun b e => by injection e with e; rw [← e]; exact Nat.le_trans (hS11).size hg25)) (fun hS27 => ?_)
                        clear hK K
                        change wpAnyH _ _ _ _ _ _ _ (Act.put _ none (undef)) _
                        simp only [Act.put]
                        refine wpAnyH_take (i := 17) (v := .int .i64 0) rfl (by kernel_rfl) (by kernel_rfl) (by kernel_rfl) (fun _ _ _ h => h) (Or.inl ⟨by rfl, fun w' hS' => by exact op_assign rfl rfl⟩) hS27 ?_
                        change wpAnyH _ _ _ _ _ _ _ (Act.put _ (some 17) (.int .i64 0)) _
                        simp only [Act.put, List.setIfInBounds_toArray, List.set_cons_zero, List.set_cons_succ]
                        refine wpAnyH_done (by kernel_rfl) ?_ _
                        refine NoPanic.normal ?_
                        go_wp2_with fail
                        go_meet
                        exact ⟨gs20, A13, n14, cp15, rfl, rfl, hk29, (((hp17.add hg25).up hb22).kept hgr30 (Or.inr rfl)).less (fun _ hb => .inl (Nat.lt_of_lt_of_le hb (hS8).size)), hn16, hc18, hS27, Nat.le_trans (hS11).size hg25⟩
                  · skip
                    obtain ⟨gs32, W31, hr35, hk36, hb34, hg37⟩ := op_allocC W7
                    refine step_op_run (hr35 _ _ rfl) rfl ?_
                    refine hK.out _ _ (hS8.trans (hb34.mono hS8.size)) (fun hS33 => ?_)
                    clear hK K
                    change wpAnyH _ _ _ _ _ _ _ (Act.put _ (some 16) (.pointer (some ⟨gs32, 0, none⟩))) _
                    simp only [Act.put, List.setIfInBounds_toArray, List.set_cons_zero, List.set_cons_succ]
                    refine wpAnyH_ready (rs := [11]) (by kernel_rfl) (by simp) (AllReadyH.cons rfl (fun K hK => ?_) (AllReadyH.nil))
                    · skip
                      go_simp
                      refine (put_new ca Aa na capa (textOf (a : Int)) (textOf (b : Int)) (textOf z.2.2) _ d1 0 HPMa.out ((HPa.out.up HB6.out).up hS33) HNa.out HFa.out (text_le _) (text_le _) (text_le _)).mono ?_
                      rintro e W38 ⟨A41, n42, cp43, rfl, hn44, hp45, hb40, hc46⟩
                      refine hK.out _ _ (hS33.trans (hb40.mono hS33.size)) (fun hS39 => ?_)
                      clear hK K
                      simp only [List.setIfInBounds_toArray, List.set_cons_zero, List.set_cons_succ]
                      refine wpAnyH_take (i := 12) (v := .tuple #[.agg #[.int .i64 d1.width, .int .i64 d1.room, .slice A41 n42 cp43, .int .i64 d1.hits, .int .i64 d1.misses, .int .i64 d1.clashes, .int .i64 d1.evicted], .int .i64 0]) rfl (by kernel_rfl) (by kernel_rfl) (by kernel_rfl) (fun _ _ _ h => h) (Or.inl ⟨by rfl, fun w' hS' => by exact op_move rfl rfl⟩) hS39 ?_
                      change wpAnyH _ _ _ _ _ _ _ (Act.put _ (some 72) (.tuple #[.agg #[.int .i64 d1.width, .int .i64 d1.room, .slice A41 n42 cp43, .int .i64 d1.hits, .int .i64 d1.misses, .int .i64 d1.clashes, .int .i64 d1.evicted], .int .i64 0])) _
                      simp only [Act.put, List.setIfInBounds_toArray, List.set_cons_zero, List.set_cons_succ]
                      refine wpAnyH_take (i := 13) (v := .agg #[.int .i64 d1.width, .int .i64 d1.room, .slice A41 n42 cp43, .int .i64 d1.hits, .int .i64 d1.misses, .int .i64 d1.clashes, .int .i64 d1.evicted]) rfl (by kernel_rfl) (by kernel_rfl) (by kernel_rfl) (fun _ _ _ h => h) (Or.inl ⟨by rfl, fun w' hS' => by go_simp⟩) hS39 ?_
                      change wpAnyH _ _ _ _ _ _ _ (Act.put _ (some 85) (.agg #[.int .i64 d1.width, .int .i64 d1.room, .slice A41 n42 cp43, .int .i64 d1.hits, .int .i64 d1.misses, .int .i64 d1.clashes, .int .i64 d1.evicted])) _
                      simp only [Act.put, List.setIfInBounds_toArray, List.set_cons_zero, List.set_cons_succ]
                      refine wpAnyH_take (i := 14) (v := .int .i64 0) rfl (by kernel_rfl) (by kernel_rfl) (by kernel_rfl) (fun _ _ _ h => h) (Or.inl ⟨by rfl, fun w' hS' => by go_simp⟩) hS39 ?_
                      change wpAnyH _ _ _ _ _ _ _ (Act.put _ (some 86) (.int .i64 0)) _
                      simp only [Act.put, List.setIfInBounds_toArray, List.set_cons_zero, List.set_cons_succ]
                      refine wpAnyH_ready (rs := [16]) (by kernel_rfl) (by simp) (AllReadyH.cons rfl (fun K hK => ?_) (AllReadyH.nil))
                      · skip
                        obtain ⟨W47, hr49, hk50, hgr51⟩ := op_store7 (Blk.below hk36 hb40 hk36.lt) (d1.width) (d1.room) A41 n42 cp43 (d1.hits) (d1.misses) (d1.clashes) (d1.evicted)
                        refine step_op_skip (hr49 _ _ _ _ rfl rfl rfl) rfl ?_
                        refine hK.out _ _ (hS39.grown hgr51 hS39.size (fun b e => by injection e with e; rw [← e]; exact Nat.le_trans (hS8).size hg37)) (fun hS48 => ?_)
                        clear hK K
                        change wpAnyH _ _ _ _ _ _ _ (Act.put _ none (undef)) _
                        simp only [Act.put]
                        refine wpAnyH_take (i := 17) (v := .int .i64 0) rfl (by kernel_rfl) (by kernel_rfl) (by kernel_rfl) (fun _ _ _ h => h) (Or.inl ⟨by rfl, fun w' hS' => by exact op_assign rfl rfl⟩) hS48 ?_
                        change wpAnyH _ _ _ _ _ _ _ (Act.put _ (some 17) (.int .i64 0)) _
                        simp only [Act.put, List.setIfInBounds_toArray, List.set_cons_zero, List.set_cons_succ]
                        refine wpAnyH_done (by kernel_rfl) ?_ _
                        refine NoPanic.normal ?_
                        go_wp2_with fail
                        go_meet
                        exact ⟨gs32, A41, n42, cp43, rfl, rfl, hk50, (hp45.kept hgr51 ((hk36).lt)).less (fun _ hb => Nat.lt_of_lt_of_le hb (hS33).size), hn44, hc46, hS48, Nat.le_trans (hS8).size hg37⟩
                · skip
                  obtain ⟨gs53, W52, hr56, hk57, hb55, hg58⟩ := op_allocC W4
                  refine step_op_run (hr56 _ _ rfl) rfl ?_
                  refine hK.out _ _ (hS5.trans (hb55.mono hS5.size)) (fun hS54 => ?_)
                  clear hK K
                  change wpAnyH _ _ _ _ _ _ _ (Act.put _ (some 16) (.pointer (some ⟨gs53, 0, none⟩))) _
                  simp only [Act.put, List.setIfInBounds_toArray, List.set_cons_zero, List.set_cons_succ]
                  refine wpAnyH_ready (rs := [10]) (by kernel_rfl) (by simp) (AllReadyH.cons rfl (fun K hK => ?_) (AllReadyH.nil))
                  · skip
                    go_simp
                    refine (text_any z.2.2 _ HTF.out.2.2).mono ?_
                    rintro e W59 ⟨rfl, hb61⟩
                    refine hK.out _ _ (hS54.trans (hb61.mono hS54.size)) (fun hS60 => ?_)
                    clear hK K
                    simp only [List.setIfInBounds_toArray, List.set_cons_zero, List.set_cons_succ]
                    refine wpAnyH_ready (rs := [11]) (by kernel_rfl) (by simp) (AllReadyH.cons rfl (fun K hK => ?_) (AllReadyH.nil))
                    · skip
                      go_simp
                      refine (put_new ca Aa na capa (textOf (a : Int)) (textOf (b : Int)) (textOf z.2.2) _ d1 0 HPMa.out ((HPa.out.up HB6.out).up hS60) HNa.out HFa.out (text_le _) (text_le _) (text_le _)).mono ?_
                      rintro e W62 ⟨A65, n66, cp67, rfl, hn68, hp69, hb64, hc70⟩
                      refine hK.out _ _ (hS60.trans (hb64.mono hS60.size)) (fun hS63 => ?_)
                      clear hK K
                      simp only [List.setIfInBounds_toArray, List.set_cons_zero, List.set_cons_succ]
                      refine wpAnyH_take (i := 12) (v := .tuple #[.agg #[.int .i64 d1.width, .int .i64 d1.room, .slice A65 n66 cp67, .int .i64 d1.hits, .int .i64 d1.misses, .int .i64 d1.clashes, .int .i64 d1.evicted], .int .i64 0]) rfl (by kernel_rfl) (by kernel_rfl) (by kernel_rfl) (fun _ _ _ h => h) (Or.inl ⟨by rfl, fun w' hS' => by exact op_move rfl rfl⟩) hS63 ?_
                      change wpAnyH _ _ _ _ _ _ _ (Act.put _ (some 72) (.tuple #[.agg #[.int .i64 d1.width, .int .i64 d1.room, .slice A65 n66 cp67, .int .i64 d1.hits, .int .i64 d1.misses, .int .i64 d1.clashes, .int .i64 d1.evicted], .int .i64 0])) _
                      simp only [Act.put, List.setIfInBounds_toArray, List.set_cons_zero, List.set_cons_succ]
                      refine wpAnyH_take (i := 13) (v := .agg #[.int .i64 d1.width, .int .i64 d1.room, .slice A65 n66 cp67, .int .i64 d1.hits, .int .i64 d1.misses, .int .i64 d1.clashes, .int .i64 d1.evicted]) rfl (by kernel_rfl) (by kernel_rfl) (by kernel_rfl) (fun _ _ _ h => h) (Or.inl ⟨by rfl, fun w' hS' => by go_simp⟩) hS63 ?_
                      change wpAnyH _ _ _ _ _ _ _ (Act.put _ (some 85) (.agg #[.int .i64 d1.width, .int .i64 d1.room, .slice A65 n66 cp67, .int .i64 d1.hits, .int .i64 d1.misses, .int .i64 d1.clashes, .int .i64 d1.evicted])) _
                      simp only [Act.put, List.setIfInBounds_toArray, List.set_cons_zero, List.set_cons_succ]
                      refine wpAnyH_take (i := 14) (v := .int .i64 0) rfl (by kernel_rfl) (by kernel_rfl) (by kernel_rfl) (fun _ _ _ h => h) (Or.inl ⟨by rfl, fun w' hS' => by go_simp⟩) hS63 ?_
                      change wpAnyH _ _ _ _ _ _ _ (Act.put _ (some 86) (.int .i64 0)) _
                      simp only [Act.put, List.setIfInBounds_toArray, List.set_cons_zero, List.set_cons_succ]
                      refine wpAnyH_ready (rs := [16]) (by kernel_rfl) (by simp) (AllReadyH.cons rfl (fun K hK => ?_) (AllReadyH.nil))
                      · skip
                        obtain ⟨W71, hr73, hk74, hgr75⟩ := op_store7 (Blk.below (Blk.below hk57 hb61 hk57.lt) hb64 (Blk.below hk57 hb61 hk57.lt).lt) (d1.width) (d1.room) A65 n66 cp67 (d1.hits) (d1.misses) (d1.clashes) (d1.evicted)
                        refine step_op_skip (hr73 _ _ _ _ rfl rfl rfl) rfl ?_
                        refine hK.out _ _ (hS63.grown hgr75 hS63.size (fun b e => by injection e with e; rw [← e]; exact Nat.le_trans (hS5).size hg58)) (fun hS72 => ?_)
                        clear hK K
                        change wpAnyH _ _ _ _ _ _ _ (Act.put _ none (undef)) _
                        simp only [Act.put]
                        refine wpAnyH_take (i := 17) (v := .int .i64 0) rfl (by kernel_rfl) (by kernel_rfl) (by kernel_rfl) (fun _ _ _ h => h) (Or.inl ⟨by rfl, fun w' hS' => by exact op_assign rfl rfl⟩) hS72 ?_
                        change wpAnyH _ _ _ _ _ _ _ (Act.put _ (some 17) (.int .i64 0)) _
                        simp only [Act.put, List.setIfInBounds_toArray, List.set_cons_zero, List.set_cons_succ]
                        refine wpAnyH_done (by kernel_rfl) ?_ _
                        refine NoPanic.normal ?_
                        go_wp2_with fail
                        go_meet
                        exact ⟨gs53, A65, n66, cp67, rfl, rfl, hk74, (hp69.kept hgr75 (((Blk.below hk57 hb61 hk57.lt)).lt)).less (fun _ hb => Nat.lt_of_lt_of_le hb (hS60).size), hn68, hc70, hS72, Nat.le_trans (hS5).size hg58⟩
              · skip
                obtain ⟨gs77, W76, hr80, hk81, hb79, hg82⟩ := op_allocC W1
                refine step_op_run (hr80 _ _ rfl) rfl ?_
                refine hK.out _ _ (hS2.trans (hb79.mono hS2.size)) (fun hS78 => ?_)
                clear hK K
                change wpAnyH _ _ _ _ _ _ _ (Act.put _ (some 16) (.pointer (some ⟨gs77, 0, none⟩))) _
                simp only [Act.put, List.setIfInBounds_toArray, List.set_cons_zero, List.set_cons_succ]
                refine wpAnyH_ready (rs := [4]) (by kernel_rfl) (by simp) (AllReadyH.cons rfl (fun K hK => ?_) (AllReadyH.nil))
                · skip
                  go_simp
                  refine (text_any (b : Int) _ HIB.out).mono ?_
                  rintro e W83 ⟨rfl, hb85⟩
                  refine hK.out _ _ (hS78.trans (hb85.mono hS78.size)) (fun hS84 => ?_)
                  clear hK K
                  simp only [List.setIfInBounds_toArray, List.set_cons_zero, List.set_cons_succ]
                  refine wpAnyH_ready (rs := [10]) (by kernel_rfl) (by simp) (AllReadyH.cons rfl (fun K hK => ?_) (AllReadyH.nil))
                  · skip
                    go_simp
                    refine (text_any z.2.2 _ HTF.out.2.2).mono ?_
                    rintro e W86 ⟨rfl, hb88⟩
                    refine hK.out _ _ (hS84.trans (hb88.mono hS84.size)) (fun hS87 => ?_)
                    clear hK K
                    simp only [List.setIfInBounds_toArray, List.set_cons_zero, List.set_cons_succ]
                    refine wpAnyH_ready (rs := [11]) (by kernel_rfl) (by simp) (AllReadyH.cons rfl (fun K hK => ?_) (AllReadyH.nil))
                    · skip
                      go_simp
                      refine (put_new ca Aa na capa (textOf (a : Int)) (textOf (b : Int)) (textOf z.2.2) _ d1 0 HPMa.out ((HPa.out.up HB6.out).up hS87) HNa.out HFa.out (text_le _) (text_le _) (text_le _)).mono ?_
                      rintro e W89 ⟨A92, n93, cp94, rfl, hn95, hp96, hb91, hc97⟩
                      refine hK.out _ _ (hS87.trans (hb91.mono hS87.size)) (fun hS90 => ?_)
                      clear hK K
                      simp only [List.setIfInBounds_toArray, List.set_cons_zero, List.set_cons_succ]
                      refine wpAnyH_take (i := 12) (v := .tuple #[.agg #[.int .i64 d1.width, .int .i64 d1.room, .slice A92 n93 cp94, .int .i64 d1.hits, .int .i64 d1.misses, .int .i64 d1.clashes, .int .i64 d1.evicted], .int .i64 0]) rfl (by kernel_rfl) (by kernel_rfl) (by kernel_rfl) (fun _ _ _ h => h) (Or.inl ⟨by rfl, fun w' hS' => by exact op_move rfl rfl⟩) hS90 ?_
                      change wpAnyH _ _ _ _ _ _ _ (Act.put _ (some 72) (.tuple #[.agg #[.int .i64 d1.width, .int .i64 d1.room, .slice A92 n93 cp94, .int .i64 d1.hits, .int .i64 d1.misses, .int .i64 d1.clashes, .int .i64 d1.evicted], .int .i64 0])) _
                      simp only [Act.put, List.setIfInBounds_toArray, List.set_cons_zero, List.set_cons_succ]
                      refine wpAnyH_take (i := 13) (v := .agg #[.int .i64 d1.width, .int .i64 d1.room, .slice A92 n93 cp94, .int .i64 d1.hits, .int .i64 d1.misses, .int .i64 d1.clashes, .int .i64 d1.evicted]) rfl (by kernel_rfl) (by kernel_rfl) (by kernel_rfl) (fun _ _ _ h => h) (Or.inl ⟨by rfl, fun w' hS' => by go_simp⟩) hS90 ?_
                      change wpAnyH _ _ _ _ _ _ _ (Act.put _ (some 85) (.agg #[.int .i64 d1.width, .int .i64 d1.room, .slice A92 n93 cp94, .int .i64 d1.hits, .int .i64 d1.misses, .int .i64 d1.clashes, .int .i64 d1.evicted])) _
                      simp only [Act.put, List.setIfInBounds_toArray, List.set_cons_zero, List.set_cons_succ]
                      refine wpAnyH_take (i := 14) (v := .int .i64 0) rfl (by kernel_rfl) (by kernel_rfl) (by kernel_rfl) (fun _ _ _ h => h) (Or.inl ⟨by rfl, fun w' hS' => by go_simp⟩) hS90 ?_
                      change wpAnyH _ _ _ _ _ _ _ (Act.put _ (some 86) (.int .i64 0)) _
                      simp only [Act.put, List.setIfInBounds_toArray, List.set_cons_zero, List.set_cons_succ]
                      refine wpAnyH_ready (rs := [16]) (by kernel_rfl) (by simp) (AllReadyH.cons rfl (fun K hK => ?_) (AllReadyH.nil))
                      · skip
                        obtain ⟨W98, hr100, hk101, hgr102⟩ := op_store7 (Blk.below (Blk.below (Blk.below hk81 hb85 hk81.lt) hb88 (Blk.below hk81 hb85 hk81.lt).lt) hb91 (Blk.below (Blk.below hk81 hb85 hk81.lt) hb88 (Blk.below hk81 hb85 hk81.lt).lt).lt) (d1.width) (d1.room) A92 n93 cp94 (d1.hits) (d1.misses) (d1.clashes) (d1.evicted)
                        refine step_op_skip (hr100 _ _ _ _ rfl rfl rfl) rfl ?_
                        refine hK.out _ _ (hS90.grown hgr102 hS90.size (fun b e => by injection e with e; rw [← e]; exact Nat.le_trans (hS2).size hg82)) (fun hS99 => ?_)
                        clear hK K
                        change wpAnyH _ _ _ _ _ _ _ (Act.put _ none (undef)) _
                        simp only [Act.put]
                        refine wpAnyH_take (i := 17) (v := .int .i64 0) rfl (by kernel_rfl) (by kernel_rfl) (by kernel_rfl) (fun _ _ _ h => h) (Or.inl ⟨by rfl, fun w' hS' => by exact op_assign rfl rfl⟩) hS99 ?_
                        change wpAnyH _ _ _ _ _ _ _ (Act.put _ (some 17) (.int .i64 0)) _
                        simp only [Act.put, List.setIfInBounds_toArray, List.set_cons_zero, List.set_cons_succ]
                        refine wpAnyH_done (by kernel_rfl) ?_ _
                        refine NoPanic.normal ?_
                        go_wp2_with fail
                        go_meet
                        exact ⟨gs77, A92, n93, cp94, rfl, rfl, hk101, (hp96.kept hgr102 (((Blk.below (Blk.below hk81 hb85 hk81.lt) hb88 (Blk.below hk81 hb85 hk81.lt).lt)).lt)).less (fun _ hb => Nat.lt_of_lt_of_le hb (hS87).size), hn95, hc97, hS99, Nat.le_trans (hS2).size hg82⟩
            · skip
              obtain ⟨gs104, W103, hr107, hk108, hb106, hg109⟩ := op_allocC w6.drew
              refine step_op_run (hr107 _ _ rfl) rfl ?_
              refine hK.out _ _ (hS0.trans (hb106.mono hS0.size)) (fun hS105 => ?_)
              clear hK K
              change wpAnyH _ _ _ _ _ _ _ (Act.put _ (some 16) (.pointer (some ⟨gs104, 0, none⟩))) _
              simp only [Act.put, List.setIfInBounds_toArray, List.set_cons_zero, List.set_cons_succ]
              refine wpAnyH_ready (rs := [2]) (by kernel_rfl) (by simp) (AllReadyH.cons rfl (fun K hK => ?_) (AllReadyH.nil))
              · skip
                go_simp
                refine (text_any (a : Int) _ HIA.out).mono ?_
                rintro e W110 ⟨rfl, hb112⟩
                refine hK.out _ _ (hS105.trans (hb112.mono hS105.size)) (fun hS111 => ?_)
                clear hK K
                simp only [List.setIfInBounds_toArray, List.set_cons_zero, List.set_cons_succ]
                refine wpAnyH_ready (rs := [4]) (by kernel_rfl) (by simp) (AllReadyH.cons rfl (fun K hK => ?_) (AllReadyH.nil))
                · skip
                  go_simp
                  refine (text_any (b : Int) _ HIB.out).mono ?_
                  rintro e W113 ⟨rfl, hb115⟩
                  refine hK.out _ _ (hS111.trans (hb115.mono hS111.size)) (fun hS114 => ?_)
                  clear hK K
                  simp only [List.setIfInBounds_toArray, List.set_cons_zero, List.set_cons_succ]
                  refine wpAnyH_ready (rs := [10]) (by kernel_rfl) (by simp) (AllReadyH.cons rfl (fun K hK => ?_) (AllReadyH.nil))
                  · skip
                    go_simp
                    refine (text_any z.2.2 _ HTF.out.2.2).mono ?_
                    rintro e W116 ⟨rfl, hb118⟩
                    refine hK.out _ _ (hS114.trans (hb118.mono hS114.size)) (fun hS117 => ?_)
                    clear hK K
                    simp only [List.setIfInBounds_toArray, List.set_cons_zero, List.set_cons_succ]
                    refine wpAnyH_ready (rs := [11]) (by kernel_rfl) (by simp) (AllReadyH.cons rfl (fun K hK => ?_) (AllReadyH.nil))
                    · skip
                      go_simp
                      refine (put_new ca Aa na capa (textOf (a : Int)) (textOf (b : Int)) (textOf z.2.2) _ d1 0 HPMa.out ((HPa.out.up HB6.out).up hS117) HNa.out HFa.out (text_le _) (text_le _) (text_le _)).mono ?_
                      rintro e W119 ⟨A122, n123, cp124, rfl, hn125, hp126, hb121, hc127⟩
                      refine hK.out _ _ (hS117.trans (hb121.mono hS117.size)) (fun hS120 => ?_)
                      clear hK K
                      simp only [List.setIfInBounds_toArray, List.set_cons_zero, List.set_cons_succ]
                      refine wpAnyH_take (i := 12) (v := .tuple #[.agg #[.int .i64 d1.width, .int .i64 d1.room, .slice A122 n123 cp124, .int .i64 d1.hits, .int .i64 d1.misses, .int .i64 d1.clashes, .int .i64 d1.evicted], .int .i64 0]) rfl (by kernel_rfl) (by kernel_rfl) (by kernel_rfl) (fun _ _ _ h => h) (Or.inl ⟨by rfl, fun w' hS' => by exact op_move rfl rfl⟩) hS120 ?_
                      change wpAnyH _ _ _ _ _ _ _ (Act.put _ (some 72) (.tuple #[.agg #[.int .i64 d1.width, .int .i64 d1.room, .slice A122 n123 cp124, .int .i64 d1.hits, .int .i64 d1.misses, .int .i64 d1.clashes, .int .i64 d1.evicted], .int .i64 0])) _
                      simp only [Act.put, List.setIfInBounds_toArray, List.set_cons_zero, List.set_cons_succ]
                      refine wpAnyH_take (i := 13) (v := .agg #[.int .i64 d1.width, .int .i64 d1.room, .slice A122 n123 cp124, .int .i64 d1.hits, .int .i64 d1.misses, .int .i64 d1.clashes, .int .i64 d1.evicted]) rfl (by kernel_rfl) (by kernel_rfl) (by kernel_rfl) (fun _ _ _ h => h) (Or.inl ⟨by rfl, fun w' hS' => by go_simp⟩) hS120 ?_
                      change wpAnyH _ _ _ _ _ _ _ (Act.put _ (some 85) (.agg #[.int .i64 d1.width, .int .i64 d1.room, .slice A122 n123 cp124, .int .i64 d1.hits, .int .i64 d1.misses, .int .i64 d1.clashes, .int .i64 d1.evicted])) _
                      simp only [Act.put, List.setIfInBounds_toArray, List.set_cons_zero, List.set_cons_succ]
                      refine wpAnyH_take (i := 14) (v := .int .i64 0) rfl (by kernel_rfl) (by kernel_rfl) (by kernel_rfl) (fun _ _ _ h => h) (Or.inl ⟨by rfl, fun w' hS' => by go_simp⟩) hS120 ?_
                      change wpAnyH _ _ _ _ _ _ _ (Act.put _ (some 86) (.int .i64 0)) _
                      simp only [Act.put, List.setIfInBounds_toArray, List.set_cons_zero, List.set_cons_succ]
                      refine wpAnyH_ready (rs := [16]) (by kernel_rfl) (by simp) (AllReadyH.cons rfl (fun K hK => ?_) (AllReadyH.nil))
                      · skip
                        obtain ⟨W128, hr130, hk131, hgr132⟩ := op_store7 (Blk.below (Blk.below (Blk.below (Blk.below hk108 hb112 hk108.lt) hb115 (Blk.below hk108 hb112 hk108.lt).lt) hb118 (Blk.below (Blk.below hk108 hb112 hk108.lt) hb115 (Blk.below hk108 hb112 hk108.lt).lt).lt) hb121 (Blk.below (Blk.below (Blk.below hk108 hb112 hk108.lt) hb115 (Blk.below hk108 hb112 hk108.lt).lt) hb118 (Blk.below (Blk.below hk108 hb112 hk108.lt) hb115 (Blk.below hk108 hb112 hk108.lt).lt).lt).lt) (d1.width) (d1.room) A122 n123 cp124 (d1.hits) (d1.misses) (d1.clashes) (d1.evicted)
                        refine step_op_skip (hr130 _ _ _ _ rfl rfl rfl) rfl ?_
                        refine hK.out _ _ (hS120.grown hgr132 hS120.size (fun b e => by injection e with e; rw [← e]; exact Nat.le_trans (hS0).size hg109)) (fun hS129 => ?_)
                        clear hK K
                        change wpAnyH _ _ _ _ _ _ _ (Act.put _ none (undef)) _
                        simp only [Act.put]
                        refine wpAnyH_take (i := 17) (v := .int .i64 0) rfl (by kernel_rfl) (by kernel_rfl) (by kernel_rfl) (fun _ _ _ h => h) (Or.inl ⟨by rfl, fun w' hS' => by exact op_assign rfl rfl⟩) hS129 ?_
                        change wpAnyH _ _ _ _ _ _ _ (Act.put _ (some 17) (.int .i64 0)) _
                        simp only [Act.put, List.setIfInBounds_toArray, List.set_cons_zero, List.set_cons_succ]
                        refine wpAnyH_done (by kernel_rfl) ?_ _
                        refine NoPanic.normal ?_
                        go_wp2_with fail
                        go_meet
                        exact ⟨gs104, A122, n123, cp124, rfl, rfl, hk131, (hp126.kept hgr132 (((Blk.below (Blk.below (Blk.below hk108 hb112 hk108.lt) hb115 (Blk.below hk108 hb112 hk108.lt).lt) hb118 (Blk.below (Blk.below hk108 hb112 hk108.lt) hb115 (Blk.below hk108 hb112 hk108.lt).lt).lt)).lt)).less (fun _ hb => Nat.lt_of_lt_of_le hb (hS117).size), hn125, hc127, hS129, Nat.le_trans (hS0).size hg109⟩
          case rest =>
            obtain ⟨g1, A1, n1, c1, rfl, rfl, hb1, hp1, hn1, hc1, hbw, hge⟩ := hcut
            obtain ⟨w7, rfl⟩ : ∃ w7, w7 = wc := ⟨_, rfl⟩
            have HB67 := Lib.hid hbw
            have HB7 := Lib.hid (below_step HB6.out hbw)
            have HR1 := Lib.hid hb1
            have HS1 := Lib.hid hp1
            have HM1 := Lib.hid hn1
            have HO1 := Lib.hid hc1
            have HE1 := Lib.hid hge
            have HCB' : Hid (∀ W, Below w7.heap.size w7 W → W.cell? ⟨gb, 0, none⟩ = some (.int .i64 cb.width) ∧ W.cell? ⟨gb, 1, none⟩ = some (.int .i64 cb.room) ∧ W.cell? ⟨gb, 2, none⟩ = some (.slice Ab nb capb) ∧ W.cell? ⟨gb, 3, none⟩ = some (.int .i64 cb.hits) ∧ W.cell? ⟨gb, 4, none⟩ = some (.int .i64 cb.misses) ∧ W.cell? ⟨gb, 5, none⟩ = some (.int .i64 cb.clashes) ∧ W.cell? ⟨gb, 6, none⟩ = some (.int .i64 cb.evicted)) := Lib.hid fun W hW => box7 HBb.out (below_step HB7.out hW)
            have HTZ' : Hid (∀ W, Below w7.heap.size w7 W → W.cell? (aa.add (k * 3)) = some (.int .i64 z.1) ∧ W.cell? ⟨(aa.add (k * 3)).block, (aa.add (k * 3)).off + 1, none⟩ = some (.int .i64 z.2.1) ∧ W.cell? ⟨(aa.add (k * 3)).block, (aa.add (k * 3)).off + 2, none⟩ = some (.int .i64 z.2.2)) := Lib.hid fun W hW => HTZ0.out W (below_step HB7.out hW)
            clear hbw hb1 hp1 hn1 hc1 hge HCB HTZ
            have HCB := HCB'
            have HTZ := HTZ'
            clear HCB' HTZ'
            go_wp2_with fail
            go_cut [18, 19] (fun s18 s19 wx => PutCut w7 d2 0 s18 s19 wx)
            case first => as_aux_lemma =>
              refine wp_region_noPanic ?_
              refine wp_region_held_drew (S := fun W => Below w7.heap.size w7 W) (by kernel_rfl) ((Below.refl w7.heap.size w7).drew) (fun hS0 => ?_)
              change wpAnyH _ _ _ _ _ 18 #[false, false, false, false, false, false, false, false, false, false, false, false, false, false, false, false, false, false] _ (World.drew _)
              refine wpAnyH_take (i := 0) (v := .agg #[.int .i64 cb.width, .int .i64 cb.room, .slice Ab nb capb, .int .i64 cb.hits, .int .i64 cb.misses, .int .i64 cb.clashes, .int .i64 cb.evicted]) rfl (by kernel_rfl) (by kernel_rfl) (by kernel_rfl) (fun _ _ _ h => h) (Or.inl ⟨by rfl, fun w' hS' => by obtain ⟨y0, y1, y2, y3, y4, y5, y6⟩ := HCB.out _ hS'; go_simp⟩) hS0 ?_
              change wpAnyH _ _ _ _ _ _ _ (Act.put _ (some 88) (.agg #[.int .i64 cb.width, .int .i64 cb.room, .slice Ab nb capb, .int .i64 cb.hits, .int .i64 cb.misses, .int .i64 cb.clashes, .int .i64 cb.evicted])) _
              simp only [Act.put, List.setIfInBounds_toArray, List.set_cons_zero, List.set_cons_succ]
              refine wpAnyH_take (i := 1) (v := .int .i64 (a : Int)) rfl (by kernel_rfl) (by kernel_rfl) (by kernel_rfl) (fun _ _ _ h => h) (Or.inl ⟨by rfl, fun w' hS' => by exact op_move rfl rfl⟩) hS0 ?_
              change wpAnyH _ _ _ _ _ _ _ (Act.put _ (some 89) (.int .i64 (a : Int))) _
              simp only [Act.put, List.setIfInBounds_toArray, List.set_cons_zero, List.set_cons_succ]
              refine wpAnyH_take (i := 3) (v := .int .i64 (b : Int)) rfl (by kernel_rfl) (by kernel_rfl) (by kernel_rfl) (fun _ _ _ h => h) (Or.inl ⟨by rfl, fun w' hS' => by exact op_move rfl rfl⟩) hS0 ?_
              change wpAnyH _ _ _ _ _ _ _ (Act.put _ (some 91) (.int .i64 (b : Int))) _
              simp only [Act.put, List.setIfInBounds_toArray, List.set_cons_zero, List.set_cons_succ]
              refine wpAnyH_take (i := 5) (v := .slice (some aa) deeds.length dc) rfl (by kernel_rfl) (by kernel_rfl) (by kernel_rfl) (fun _ _ _ h => h) (Or.inl ⟨by rfl, fun w' hS' => by exact op_move rfl rfl⟩) hS0 ?_
              change wpAnyH _ _ _ _ _ _ _ (Act.put _ (some 93) (.slice (some aa) deeds.length dc)) _
              simp only [Act.put, List.setIfInBounds_toArray, List.set_cons_zero, List.set_cons_succ]
              refine wpAnyH_take (i := 6) (v := .int .i64 (k : Int)) rfl (by kernel_rfl) (by kernel_rfl) (by kernel_rfl) (fun _ _ _ h => h) (Or.inl ⟨by rfl, fun w' hS' => by exact op_move rfl rfl⟩) hS0 ?_
              change wpAnyH _ _ _ _ _ _ _ (Act.put _ (some 94) (.int .i64 (k : Int))) _
              simp only [Act.put, List.setIfInBounds_toArray, List.set_cons_zero, List.set_cons_succ]
              refine wpAnyH_take (i := 7) (v := .pointer (some (aa.add (k * 3)))) rfl (by kernel_rfl) (by kernel_rfl) (by kernel_rfl) (fun _ _ _ h => h) (Or.inl ⟨by rfl, fun w' hS' => by go_simp⟩) hS0 ?_
              change wpAnyH _ _ _ _ _ _ _ (Act.put _ (some 95) (.pointer (some (aa.add (k * 3))))) _
              simp only [Act.put, List.setIfInBounds_toArray, List.set_cons_zero, List.set_cons_succ]
              refine wpAnyH_take (i := 8) (v := .pointer (some ⟨(aa.add (k * 3)).block, (aa.add (k * 3)).off + 2, none⟩)) rfl (by kernel_rfl) (by kernel_rfl) (by kernel_rfl) (fun _ _ _ h => h) (Or.inl ⟨by rfl, fun w' hS' => by go_simp⟩) hS0 ?_
              change wpAnyH _ _ _ _ _ _ _ (Act.put _ (some 96) (.pointer (some ⟨(aa.add (k * 3)).block, (aa.add (k * 3)).off + 2, none⟩))) _
              simp only [Act.put, List.setIfInBounds_toArray, List.set_cons_zero, List.set_cons_succ]
              refine wpAnyH_take (i := 9) (v := .int .i64 z.2.2) rfl (by kernel_rfl) (by kernel_rfl) (by kernel_rfl) (fun _ _ _ h => h) (Or.inl ⟨by rfl, fun w' hS' => by obtain ⟨t0, t1, t2⟩ := HTZ.out _ hS'; go_simp⟩) hS0 ?_
              change wpAnyH _ _ _ _ _ _ _ (Act.put _ (some 97) (.int .i64 z.2.2)) _
              simp only [Act.put, List.setIfInBounds_toArray, List.set_cons_zero, List.set_cons_succ]
              refine wpAnyH_ready (rs := [2, 15]) (by kernel_rfl) (by simp) (AllReadyH.cons rfl (fun K hK => ?_) (AllReadyH.cons rfl (fun K hK => ?_) (AllReadyH.nil)))
              · skip
                go_simp
                refine (text_any (a : Int) _ HIA.out).mono ?_
                rintro e W1 ⟨rfl, hb3⟩
                refine hK.out _ _ (hS0.trans (hb3.mono hS0.size)) (fun hS2 => ?_)
                clear hK K
                simp only [List.setIfInBounds_toArray, List.set_cons_zero, List.set_cons_succ]
                refine wpAnyH_ready (rs := [4, 15]) (by kernel_rfl) (by simp) (AllReadyH.cons rfl (fun K hK => ?_) (AllReadyH.cons rfl (fun K hK => ?_) (AllReadyH.nil)))
                · skip
                  go_simp
                  refine (text_any (b : Int) _ HIB.out).mono ?_
                  rintro e W4 ⟨rfl, hb6⟩
                  refine hK.out _ _ (hS2.trans (hb6.mono hS2.size)) (fun hS5 => ?_)
                  clear hK K
                  simp only [List.setIfInBounds_toArray, List.set_cons_zero, List.set_cons_succ]
                  refine wpAnyH_ready (rs := [10, 15]) (by kernel_rfl) (by simp) (AllReadyH.cons rfl (fun K hK => ?_) (AllReadyH.cons rfl (fun K hK => ?_) (AllReadyH.nil)))
                  · skip
                    go_simp
                    refine (text_any z.2.2 _ HTF.out.2.2).mono ?_
                    rintro e W7 ⟨rfl, hb9⟩
                    refine hK.out _ _ (hS5.trans (hb9.mono hS5.size)) (fun hS8 => ?_)
                    clear hK K
                    simp only [List.setIfInBounds_toArray, List.set_cons_zero, List.set_cons_succ]
                    refine wpAnyH_ready (rs := [11, 15]) (by kernel_rfl) (by simp) (AllReadyH.cons rfl (fun K hK => ?_) (AllReadyH.cons rfl (fun K hK => ?_) (AllReadyH.nil)))
                    · skip
                      go_simp
                      refine (put_new cb Ab nb capb (textOf (a : Int)) (textOf (b : Int)) (textOf z.2.2) _ d2 0 HPMb.out ((HPb.out.up HB7.out).up hS8) HNb.out HFb.out (text_le _) (text_le _) (text_le _)).mono ?_
                      rintro e W10 ⟨A13, n14, cp15, rfl, hn16, hp17, hb12, hc18⟩
                      refine hK.out _ _ (hS8.trans (hb12.mono hS8.size)) (fun hS11 => ?_)
                      clear hK K
                      simp only [List.setIfInBounds_toArray, List.set_cons_zero, List.set_cons_succ]
                      refine wpAnyH_take (i := 12) (v := .tuple #[.agg #[.int .i64 d2.width, .int .i64 d2.room, .slice A13 n14 cp15, .int .i64 d2.hits, .int .i64 d2.misses, .int .i64 d2.clashes, .int .i64 d2.evicted], .int .i64 0]) rfl (by kernel_rfl) (by kernel_rfl) (by kernel_rfl) (fun _ _ _ h => h) (Or.inl ⟨by rfl, fun w' hS' => by exact op_move rfl rfl⟩) hS11 ?_
                      change wpAnyH _ _ _ _ _ _ _ (Act.put _ (some 87) (.tuple #[.agg #[.int .i64 d2.width, .int .i64 d2.room, .slice A13 n14 cp15, .int .i64 d2.hits, .int .i64 d2.misses, .int .i64 d2.clashes, .int .i64 d2.evicted], .int .i64 0])) _
                      simp only [Act.put, List.setIfInBounds_toArray, List.set_cons_zero, List.set_cons_succ]
                      refine wpAnyH_take (i := 13) (v := .agg #[.int .i64 d2.width, .int .i64 d2.room, .slice A13 n14 cp15, .int .i64 d2.hits, .int .i64 d2.misses, .int .i64 d2.clashes, .int .i64 d2.evicted]) rfl (by kernel_rfl) (by kernel_rfl) (by kernel_rfl) (fun _ _ _ h => h) (Or.inl ⟨by rfl, fun w' hS' => by go_simp⟩) hS11 ?_
                      change wpAnyH _ _ _ _ _ _ _ (Act.put _ (some 100) (.agg #[.int .i64 d2.width, .int .i64 d2.room, .slice A13 n14 cp15, .int .i64 d2.hits, .int .i64 d2.misses, .int .i64 d2.clashes, .int .i64 d2.evicted])) _
                      simp only [Act.put, List.setIfInBounds_toArray, List.set_cons_zero, List.set_cons_succ]
                      refine wpAnyH_take (i := 14) (v := .int .i64 0) rfl (by kernel_rfl) (by kernel_rfl) (by kernel_rfl) (fun _ _ _ h => h) (Or.inl ⟨by rfl, fun w' hS' => by go_simp⟩) hS11 ?_
                      change wpAnyH _ _ _ _ _ _ _ (Act.put _ (some 101) (.int .i64 0)) _
                      simp only [Act.put, List.setIfInBounds_toArray, List.set_cons_zero, List.set_cons_succ]
                      refine wpAnyH_ready (rs := [15]) (by kernel_rfl) (by simp) (AllReadyH.cons rfl (fun K hK => ?_) (AllReadyH.nil))
                      · skip
                        obtain ⟨gs20, W19, hr23, hk24, hb22, hg25⟩ := op_allocC W10
                        refine step_op_run (hr23 _ _ rfl) rfl ?_
                        refine hK.out _ _ (hS11.trans (hb22.mono hS11.size)) (fun hS21 => ?_)
                        clear hK K
                        change wpAnyH _ _ _ _ _ _ _ (Act.put _ (some 18) (.pointer (some ⟨gs20, 0, none⟩))) _
                        simp only [Act.put, List.setIfInBounds_toArray, List.set_cons_zero, List.set_cons_succ]
                        refine wpAnyH_ready (rs := [16]) (by kernel_rfl) (by simp) (AllReadyH.cons rfl (fun K hK => ?_) (AllReadyH.nil))
                        · skip
                          obtain ⟨W26, hr28, hk29, hgr30⟩ := op_store7 hk24 (d2.width) (d2.room) A13 n14 cp15 (d2.hits) (d2.misses) (d2.clashes) (d2.evicted)
                          refine step_op_skip (hr28 _ _ _ _ rfl rfl rfl) rfl ?_
                          refine hK.out _ _ (hS21.grown hgr30 hS21.size (fun b e => by injection e with e; rw [← e]; exact Nat.le_trans (hS11).size hg25)) (fun hS27 => ?_)
                          clear hK K
                          change wpAnyH _ _ _ _ _ _ _ (Act.put _ none (undef)) _
                          simp only [Act.put]
                          refine wpAnyH_take (i := 17) (v := .int .i64 0) rfl (by kernel_rfl) (by kernel_rfl) (by kernel_rfl) (fun _ _ _ h => h) (Or.inl ⟨by rfl, fun w' hS' => by exact op_assign rfl rfl⟩) hS27 ?_
                          change wpAnyH _ _ _ _ _ _ _ (Act.put _ (some 19) (.int .i64 0)) _
                          simp only [Act.put, List.setIfInBounds_toArray, List.set_cons_zero, List.set_cons_succ]
                          refine wpAnyH_done (by kernel_rfl) ?_ _
                          refine NoPanic.normal ?_
                          go_wp2_with fail
                          go_meet
                          exact ⟨gs20, A13, n14, cp15, rfl, rfl, hk29, (((hp17.add hg25).up hb22).kept hgr30 (Or.inr rfl)).less (fun _ hb => .inl (Nat.lt_of_lt_of_le hb (hS8).size)), hn16, hc18, hS27, Nat.le_trans (hS11).size hg25⟩
                    · skip
                      obtain ⟨gs32, W31, hr35, hk36, hb34, hg37⟩ := op_allocC W7
                      refine step_op_run (hr35 _ _ rfl) rfl ?_
                      refine hK.out _ _ (hS8.trans (hb34.mono hS8.size)) (fun hS33 => ?_)
                      clear hK K
                      change wpAnyH _ _ _ _ _ _ _ (Act.put _ (some 18) (.pointer (some ⟨gs32, 0, none⟩))) _
                      simp only [Act.put, List.setIfInBounds_toArray, List.set_cons_zero, List.set_cons_succ]
                      refine wpAnyH_ready (rs := [11]) (by kernel_rfl) (by simp) (AllReadyH.cons rfl (fun K hK => ?_) (AllReadyH.nil))
                      · skip
                        go_simp
                        refine (put_new cb Ab nb capb (textOf (a : Int)) (textOf (b : Int)) (textOf z.2.2) _ d2 0 HPMb.out ((HPb.out.up HB7.out).up hS33) HNb.out HFb.out (text_le _) (text_le _) (text_le _)).mono ?_
                        rintro e W38 ⟨A41, n42, cp43, rfl, hn44, hp45, hb40, hc46⟩
                        refine hK.out _ _ (hS33.trans (hb40.mono hS33.size)) (fun hS39 => ?_)
                        clear hK K
                        simp only [List.setIfInBounds_toArray, List.set_cons_zero, List.set_cons_succ]
                        refine wpAnyH_take (i := 12) (v := .tuple #[.agg #[.int .i64 d2.width, .int .i64 d2.room, .slice A41 n42 cp43, .int .i64 d2.hits, .int .i64 d2.misses, .int .i64 d2.clashes, .int .i64 d2.evicted], .int .i64 0]) rfl (by kernel_rfl) (by kernel_rfl) (by kernel_rfl) (fun _ _ _ h => h) (Or.inl ⟨by rfl, fun w' hS' => by exact op_move rfl rfl⟩) hS39 ?_
                        change wpAnyH _ _ _ _ _ _ _ (Act.put _ (some 87) (.tuple #[.agg #[.int .i64 d2.width, .int .i64 d2.room, .slice A41 n42 cp43, .int .i64 d2.hits, .int .i64 d2.misses, .int .i64 d2.clashes, .int .i64 d2.evicted], .int .i64 0])) _
                        simp only [Act.put, List.setIfInBounds_toArray, List.set_cons_zero, List.set_cons_succ]
                        refine wpAnyH_take (i := 13) (v := .agg #[.int .i64 d2.width, .int .i64 d2.room, .slice A41 n42 cp43, .int .i64 d2.hits, .int .i64 d2.misses, .int .i64 d2.clashes, .int .i64 d2.evicted]) rfl (by kernel_rfl) (by kernel_rfl) (by kernel_rfl) (fun _ _ _ h => h) (Or.inl ⟨by rfl, fun w' hS' => by go_simp⟩) hS39 ?_
                        change wpAnyH _ _ _ _ _ _ _ (Act.put _ (some 100) (.agg #[.int .i64 d2.width, .int .i64 d2.room, .slice A41 n42 cp43, .int .i64 d2.hits, .int .i64 d2.misses, .int .i64 d2.clashes, .int .i64 d2.evicted])) _
                        simp only [Act.put, List.setIfInBounds_toArray, List.set_cons_zero, List.set_cons_succ]
                        refine wpAnyH_take (i := 14) (v := .int .i64 0) rfl (by kernel_rfl) (by kernel_rfl) (by kernel_rfl) (fun _ _ _ h => h) (Or.inl ⟨by rfl, fun w' hS' => by go_simp⟩) hS39 ?_
                        change wpAnyH _ _ _ _ _ _ _ (Act.put _ (some 101) (.int .i64 0)) _
                        simp only [Act.put, List.setIfInBounds_toArray, List.set_cons_zero, List.set_cons_succ]
                        refine wpAnyH_ready (rs := [16]) (by kernel_rfl) (by simp) (AllReadyH.cons rfl (fun K hK => ?_) (AllReadyH.nil))
                        · skip
                          obtain ⟨W47, hr49, hk50, hgr51⟩ := op_store7 (Blk.below hk36 hb40 hk36.lt) (d2.width) (d2.room) A41 n42 cp43 (d2.hits) (d2.misses) (d2.clashes) (d2.evicted)
                          refine step_op_skip (hr49 _ _ _ _ rfl rfl rfl) rfl ?_
                          refine hK.out _ _ (hS39.grown hgr51 hS39.size (fun b e => by injection e with e; rw [← e]; exact Nat.le_trans (hS8).size hg37)) (fun hS48 => ?_)
                          clear hK K
                          change wpAnyH _ _ _ _ _ _ _ (Act.put _ none (undef)) _
                          simp only [Act.put]
                          refine wpAnyH_take (i := 17) (v := .int .i64 0) rfl (by kernel_rfl) (by kernel_rfl) (by kernel_rfl) (fun _ _ _ h => h) (Or.inl ⟨by rfl, fun w' hS' => by exact op_assign rfl rfl⟩) hS48 ?_
                          change wpAnyH _ _ _ _ _ _ _ (Act.put _ (some 19) (.int .i64 0)) _
                          simp only [Act.put, List.setIfInBounds_toArray, List.set_cons_zero, List.set_cons_succ]
                          refine wpAnyH_done (by kernel_rfl) ?_ _
                          refine NoPanic.normal ?_
                          go_wp2_with fail
                          go_meet
                          exact ⟨gs32, A41, n42, cp43, rfl, rfl, hk50, (hp45.kept hgr51 ((hk36).lt)).less (fun _ hb => Nat.lt_of_lt_of_le hb (hS33).size), hn44, hc46, hS48, Nat.le_trans (hS8).size hg37⟩
                  · skip
                    obtain ⟨gs53, W52, hr56, hk57, hb55, hg58⟩ := op_allocC W4
                    refine step_op_run (hr56 _ _ rfl) rfl ?_
                    refine hK.out _ _ (hS5.trans (hb55.mono hS5.size)) (fun hS54 => ?_)
                    clear hK K
                    change wpAnyH _ _ _ _ _ _ _ (Act.put _ (some 18) (.pointer (some ⟨gs53, 0, none⟩))) _
                    simp only [Act.put, List.setIfInBounds_toArray, List.set_cons_zero, List.set_cons_succ]
                    refine wpAnyH_ready (rs := [10]) (by kernel_rfl) (by simp) (AllReadyH.cons rfl (fun K hK => ?_) (AllReadyH.nil))
                    · skip
                      go_simp
                      refine (text_any z.2.2 _ HTF.out.2.2).mono ?_
                      rintro e W59 ⟨rfl, hb61⟩
                      refine hK.out _ _ (hS54.trans (hb61.mono hS54.size)) (fun hS60 => ?_)
                      clear hK K
                      simp only [List.setIfInBounds_toArray, List.set_cons_zero, List.set_cons_succ]
                      refine wpAnyH_ready (rs := [11]) (by kernel_rfl) (by simp) (AllReadyH.cons rfl (fun K hK => ?_) (AllReadyH.nil))
                      · skip
                        go_simp
                        refine (put_new cb Ab nb capb (textOf (a : Int)) (textOf (b : Int)) (textOf z.2.2) _ d2 0 HPMb.out ((HPb.out.up HB7.out).up hS60) HNb.out HFb.out (text_le _) (text_le _) (text_le _)).mono ?_
                        rintro e W62 ⟨A65, n66, cp67, rfl, hn68, hp69, hb64, hc70⟩
                        refine hK.out _ _ (hS60.trans (hb64.mono hS60.size)) (fun hS63 => ?_)
                        clear hK K
                        simp only [List.setIfInBounds_toArray, List.set_cons_zero, List.set_cons_succ]
                        refine wpAnyH_take (i := 12) (v := .tuple #[.agg #[.int .i64 d2.width, .int .i64 d2.room, .slice A65 n66 cp67, .int .i64 d2.hits, .int .i64 d2.misses, .int .i64 d2.clashes, .int .i64 d2.evicted], .int .i64 0]) rfl (by kernel_rfl) (by kernel_rfl) (by kernel_rfl) (fun _ _ _ h => h) (Or.inl ⟨by rfl, fun w' hS' => by exact op_move rfl rfl⟩) hS63 ?_
                        change wpAnyH _ _ _ _ _ _ _ (Act.put _ (some 87) (.tuple #[.agg #[.int .i64 d2.width, .int .i64 d2.room, .slice A65 n66 cp67, .int .i64 d2.hits, .int .i64 d2.misses, .int .i64 d2.clashes, .int .i64 d2.evicted], .int .i64 0])) _
                        simp only [Act.put, List.setIfInBounds_toArray, List.set_cons_zero, List.set_cons_succ]
                        refine wpAnyH_take (i := 13) (v := .agg #[.int .i64 d2.width, .int .i64 d2.room, .slice A65 n66 cp67, .int .i64 d2.hits, .int .i64 d2.misses, .int .i64 d2.clashes, .int .i64 d2.evicted]) rfl (by kernel_rfl) (by kernel_rfl) (by kernel_rfl) (fun _ _ _ h => h) (Or.inl ⟨by rfl, fun w' hS' => by go_simp⟩) hS63 ?_
                        change wpAnyH _ _ _ _ _ _ _ (Act.put _ (some 100) (.agg #[.int .i64 d2.width, .int .i64 d2.room, .slice A65 n66 cp67, .int .i64 d2.hits, .int .i64 d2.misses, .int .i64 d2.clashes, .int .i64 d2.evicted])) _
                        simp only [Act.put, List.setIfInBounds_toArray, List.set_cons_zero, List.set_cons_succ]
                        refine wpAnyH_take (i := 14) (v := .int .i64 0) rfl (by kernel_rfl) (by kernel_rfl) (by kernel_rfl) (fun _ _ _ h => h) (Or.inl ⟨by rfl, fun w' hS' => by go_simp⟩) hS63 ?_
                        change wpAnyH _ _ _ _ _ _ _ (Act.put _ (some 101) (.int .i64 0)) _
                        simp only [Act.put, List.setIfInBounds_toArray, List.set_cons_zero, List.set_cons_succ]
                        refine wpAnyH_ready (rs := [16]) (by kernel_rfl) (by simp) (AllReadyH.cons rfl (fun K hK => ?_) (AllReadyH.nil))
                        · skip
                          obtain ⟨W71, hr73, hk74, hgr75⟩ := op_store7 (Blk.below (Blk.below hk57 hb61 hk57.lt) hb64 (Blk.below hk57 hb61 hk57.lt).lt) (d2.width) (d2.room) A65 n66 cp67 (d2.hits) (d2.misses) (d2.clashes) (d2.evicted)
                          refine step_op_skip (hr73 _ _ _ _ rfl rfl rfl) rfl ?_
                          refine hK.out _ _ (hS63.grown hgr75 hS63.size (fun b e => by injection e with e; rw [← e]; exact Nat.le_trans (hS5).size hg58)) (fun hS72 => ?_)
                          clear hK K
                          change wpAnyH _ _ _ _ _ _ _ (Act.put _ none (undef)) _
                          simp only [Act.put]
                          refine wpAnyH_take (i := 17) (v := .int .i64 0) rfl (by kernel_rfl) (by kernel_rfl) (by kernel_rfl) (fun _ _ _ h => h) (Or.inl ⟨by rfl, fun w' hS' => by exact op_assign rfl rfl⟩) hS72 ?_
                          change wpAnyH _ _ _ _ _ _ _ (Act.put _ (some 19) (.int .i64 0)) _
                          simp only [Act.put, List.setIfInBounds_toArray, List.set_cons_zero, List.set_cons_succ]
                          refine wpAnyH_done (by kernel_rfl) ?_ _
                          refine NoPanic.normal ?_
                          go_wp2_with fail
                          go_meet
                          exact ⟨gs53, A65, n66, cp67, rfl, rfl, hk74, (hp69.kept hgr75 (((Blk.below hk57 hb61 hk57.lt)).lt)).less (fun _ hb => Nat.lt_of_lt_of_le hb (hS60).size), hn68, hc70, hS72, Nat.le_trans (hS5).size hg58⟩
                · skip
                  obtain ⟨gs77, W76, hr80, hk81, hb79, hg82⟩ := op_allocC W1
                  refine step_op_run (hr80 _ _ rfl) rfl ?_
                  refine hK.out _ _ (hS2.trans (hb79.mono hS2.size)) (fun hS78 => ?_)
                  clear hK K
                  change wpAnyH _ _ _ _ _ _ _ (Act.put _ (some 18) (.pointer (some ⟨gs77, 0, none⟩))) _
                  simp only [Act.put, List.setIfInBounds_toArray, List.set_cons_zero, List.set_cons_succ]
                  refine wpAnyH_ready (rs := [4]) (by kernel_rfl) (by simp) (AllReadyH.cons rfl (fun K hK => ?_) (AllReadyH.nil))
                  · skip
                    go_simp
                    refine (text_any (b : Int) _ HIB.out).mono ?_
                    rintro e W83 ⟨rfl, hb85⟩
                    refine hK.out _ _ (hS78.trans (hb85.mono hS78.size)) (fun hS84 => ?_)
                    clear hK K
                    simp only [List.setIfInBounds_toArray, List.set_cons_zero, List.set_cons_succ]
                    refine wpAnyH_ready (rs := [10]) (by kernel_rfl) (by simp) (AllReadyH.cons rfl (fun K hK => ?_) (AllReadyH.nil))
                    · skip
                      go_simp
                      refine (text_any z.2.2 _ HTF.out.2.2).mono ?_
                      rintro e W86 ⟨rfl, hb88⟩
                      refine hK.out _ _ (hS84.trans (hb88.mono hS84.size)) (fun hS87 => ?_)
                      clear hK K
                      simp only [List.setIfInBounds_toArray, List.set_cons_zero, List.set_cons_succ]
                      refine wpAnyH_ready (rs := [11]) (by kernel_rfl) (by simp) (AllReadyH.cons rfl (fun K hK => ?_) (AllReadyH.nil))
                      · skip
                        go_simp
                        refine (put_new cb Ab nb capb (textOf (a : Int)) (textOf (b : Int)) (textOf z.2.2) _ d2 0 HPMb.out ((HPb.out.up HB7.out).up hS87) HNb.out HFb.out (text_le _) (text_le _) (text_le _)).mono ?_
                        rintro e W89 ⟨A92, n93, cp94, rfl, hn95, hp96, hb91, hc97⟩
                        refine hK.out _ _ (hS87.trans (hb91.mono hS87.size)) (fun hS90 => ?_)
                        clear hK K
                        simp only [List.setIfInBounds_toArray, List.set_cons_zero, List.set_cons_succ]
                        refine wpAnyH_take (i := 12) (v := .tuple #[.agg #[.int .i64 d2.width, .int .i64 d2.room, .slice A92 n93 cp94, .int .i64 d2.hits, .int .i64 d2.misses, .int .i64 d2.clashes, .int .i64 d2.evicted], .int .i64 0]) rfl (by kernel_rfl) (by kernel_rfl) (by kernel_rfl) (fun _ _ _ h => h) (Or.inl ⟨by rfl, fun w' hS' => by exact op_move rfl rfl⟩) hS90 ?_
                        change wpAnyH _ _ _ _ _ _ _ (Act.put _ (some 87) (.tuple #[.agg #[.int .i64 d2.width, .int .i64 d2.room, .slice A92 n93 cp94, .int .i64 d2.hits, .int .i64 d2.misses, .int .i64 d2.clashes, .int .i64 d2.evicted], .int .i64 0])) _
                        simp only [Act.put, List.setIfInBounds_toArray, List.set_cons_zero, List.set_cons_succ]
                        refine wpAnyH_take (i := 13) (v := .agg #[.int .i64 d2.width, .int .i64 d2.room, .slice A92 n93 cp94, .int .i64 d2.hits, .int .i64 d2.misses, .int .i64 d2.clashes, .int .i64 d2.evicted]) rfl (by kernel_rfl) (by kernel_rfl) (by kernel_rfl) (fun _ _ _ h => h) (Or.inl ⟨by rfl, fun w' hS' => by go_simp⟩) hS90 ?_
                        change wpAnyH _ _ _ _ _ _ _ (Act.put _ (some 100) (.agg #[.int .i64 d2.width, .int .i64 d2.room, .slice A92 n93 cp94, .int .i64 d2.hits, .int .i64 d2.misses, .int .i64 d2.clashes, .int .i64 d2.evicted])) _
                        simp only [Act.put, List.setIfInBounds_toArray, List.set_cons_zero, List.set_cons_succ]
                        refine wpAnyH_take (i := 14) (v := .int .i64 0) rfl (by kernel_rfl) (by kernel_rfl) (by kernel_rfl) (fun _ _ _ h => h) (Or.inl ⟨by rfl, fun w' hS' => by go_simp⟩) hS90 ?_
                        change wpAnyH _ _ _ _ _ _ _ (Act.put _ (some 101) (.int .i64 0)) _
                        simp only [Act.put, List.setIfInBounds_toArray, List.set_cons_zero, List.set_cons_succ]
                        refine wpAnyH_ready (rs := [16]) (by kernel_rfl) (by simp) (AllReadyH.cons rfl (fun K hK => ?_) (AllReadyH.nil))
                        · skip
                          obtain ⟨W98, hr100, hk101, hgr102⟩ := op_store7 (Blk.below (Blk.below (Blk.below hk81 hb85 hk81.lt) hb88 (Blk.below hk81 hb85 hk81.lt).lt) hb91 (Blk.below (Blk.below hk81 hb85 hk81.lt) hb88 (Blk.below hk81 hb85 hk81.lt).lt).lt) (d2.width) (d2.room) A92 n93 cp94 (d2.hits) (d2.misses) (d2.clashes) (d2.evicted)
                          refine step_op_skip (hr100 _ _ _ _ rfl rfl rfl) rfl ?_
                          refine hK.out _ _ (hS90.grown hgr102 hS90.size (fun b e => by injection e with e; rw [← e]; exact Nat.le_trans (hS2).size hg82)) (fun hS99 => ?_)
                          clear hK K
                          change wpAnyH _ _ _ _ _ _ _ (Act.put _ none (undef)) _
                          simp only [Act.put]
                          refine wpAnyH_take (i := 17) (v := .int .i64 0) rfl (by kernel_rfl) (by kernel_rfl) (by kernel_rfl) (fun _ _ _ h => h) (Or.inl ⟨by rfl, fun w' hS' => by exact op_assign rfl rfl⟩) hS99 ?_
                          change wpAnyH _ _ _ _ _ _ _ (Act.put _ (some 19) (.int .i64 0)) _
                          simp only [Act.put, List.setIfInBounds_toArray, List.set_cons_zero, List.set_cons_succ]
                          refine wpAnyH_done (by kernel_rfl) ?_ _
                          refine NoPanic.normal ?_
                          go_wp2_with fail
                          go_meet
                          exact ⟨gs77, A92, n93, cp94, rfl, rfl, hk101, (hp96.kept hgr102 (((Blk.below (Blk.below hk81 hb85 hk81.lt) hb88 (Blk.below hk81 hb85 hk81.lt).lt)).lt)).less (fun _ hb => Nat.lt_of_lt_of_le hb (hS87).size), hn95, hc97, hS99, Nat.le_trans (hS2).size hg82⟩
              · skip
                obtain ⟨gs104, W103, hr107, hk108, hb106, hg109⟩ := op_allocC w7.drew
                refine step_op_run (hr107 _ _ rfl) rfl ?_
                refine hK.out _ _ (hS0.trans (hb106.mono hS0.size)) (fun hS105 => ?_)
                clear hK K
                change wpAnyH _ _ _ _ _ _ _ (Act.put _ (some 18) (.pointer (some ⟨gs104, 0, none⟩))) _
                simp only [Act.put, List.setIfInBounds_toArray, List.set_cons_zero, List.set_cons_succ]
                refine wpAnyH_ready (rs := [2]) (by kernel_rfl) (by simp) (AllReadyH.cons rfl (fun K hK => ?_) (AllReadyH.nil))
                · skip
                  go_simp
                  refine (text_any (a : Int) _ HIA.out).mono ?_
                  rintro e W110 ⟨rfl, hb112⟩
                  refine hK.out _ _ (hS105.trans (hb112.mono hS105.size)) (fun hS111 => ?_)
                  clear hK K
                  simp only [List.setIfInBounds_toArray, List.set_cons_zero, List.set_cons_succ]
                  refine wpAnyH_ready (rs := [4]) (by kernel_rfl) (by simp) (AllReadyH.cons rfl (fun K hK => ?_) (AllReadyH.nil))
                  · skip
                    go_simp
                    refine (text_any (b : Int) _ HIB.out).mono ?_
                    rintro e W113 ⟨rfl, hb115⟩
                    refine hK.out _ _ (hS111.trans (hb115.mono hS111.size)) (fun hS114 => ?_)
                    clear hK K
                    simp only [List.setIfInBounds_toArray, List.set_cons_zero, List.set_cons_succ]
                    refine wpAnyH_ready (rs := [10]) (by kernel_rfl) (by simp) (AllReadyH.cons rfl (fun K hK => ?_) (AllReadyH.nil))
                    · skip
                      go_simp
                      refine (text_any z.2.2 _ HTF.out.2.2).mono ?_
                      rintro e W116 ⟨rfl, hb118⟩
                      refine hK.out _ _ (hS114.trans (hb118.mono hS114.size)) (fun hS117 => ?_)
                      clear hK K
                      simp only [List.setIfInBounds_toArray, List.set_cons_zero, List.set_cons_succ]
                      refine wpAnyH_ready (rs := [11]) (by kernel_rfl) (by simp) (AllReadyH.cons rfl (fun K hK => ?_) (AllReadyH.nil))
                      · skip
                        go_simp
                        refine (put_new cb Ab nb capb (textOf (a : Int)) (textOf (b : Int)) (textOf z.2.2) _ d2 0 HPMb.out ((HPb.out.up HB7.out).up hS117) HNb.out HFb.out (text_le _) (text_le _) (text_le _)).mono ?_
                        rintro e W119 ⟨A122, n123, cp124, rfl, hn125, hp126, hb121, hc127⟩
                        refine hK.out _ _ (hS117.trans (hb121.mono hS117.size)) (fun hS120 => ?_)
                        clear hK K
                        simp only [List.setIfInBounds_toArray, List.set_cons_zero, List.set_cons_succ]
                        refine wpAnyH_take (i := 12) (v := .tuple #[.agg #[.int .i64 d2.width, .int .i64 d2.room, .slice A122 n123 cp124, .int .i64 d2.hits, .int .i64 d2.misses, .int .i64 d2.clashes, .int .i64 d2.evicted], .int .i64 0]) rfl (by kernel_rfl) (by kernel_rfl) (by kernel_rfl) (fun _ _ _ h => h) (Or.inl ⟨by rfl, fun w' hS' => by exact op_move rfl rfl⟩) hS120 ?_
                        change wpAnyH _ _ _ _ _ _ _ (Act.put _ (some 87) (.tuple #[.agg #[.int .i64 d2.width, .int .i64 d2.room, .slice A122 n123 cp124, .int .i64 d2.hits, .int .i64 d2.misses, .int .i64 d2.clashes, .int .i64 d2.evicted], .int .i64 0])) _
                        simp only [Act.put, List.setIfInBounds_toArray, List.set_cons_zero, List.set_cons_succ]
                        refine wpAnyH_take (i := 13) (v := .agg #[.int .i64 d2.width, .int .i64 d2.room, .slice A122 n123 cp124, .int .i64 d2.hits, .int .i64 d2.misses, .int .i64 d2.clashes, .int .i64 d2.evicted]) rfl (by kernel_rfl) (by kernel_rfl) (by kernel_rfl) (fun _ _ _ h => h) (Or.inl ⟨by rfl, fun w' hS' => by go_simp⟩) hS120 ?_
                        change wpAnyH _ _ _ _ _ _ _ (Act.put _ (some 100) (.agg #[.int .i64 d2.width, .int .i64 d2.room, .slice A122 n123 cp124, .int .i64 d2.hits, .int .i64 d2.misses, .int .i64 d2.clashes, .int .i64 d2.evicted])) _
                        simp only [Act.put, List.setIfInBounds_toArray, List.set_cons_zero, List.set_cons_succ]
                        refine wpAnyH_take (i := 14) (v := .int .i64 0) rfl (by kernel_rfl) (by kernel_rfl) (by kernel_rfl) (fun _ _ _ h => h) (Or.inl ⟨by rfl, fun w' hS' => by go_simp⟩) hS120 ?_
                        change wpAnyH _ _ _ _ _ _ _ (Act.put _ (some 101) (.int .i64 0)) _
                        simp only [Act.put, List.setIfInBounds_toArray, List.set_cons_zero, List.set_cons_succ]
                        refine wpAnyH_ready (rs := [16]) (by kernel_rfl) (by simp) (AllReadyH.cons rfl (fun K hK => ?_) (AllReadyH.nil))
                        · skip
                          obtain ⟨W128, hr130, hk131, hgr132⟩ := op_store7 (Blk.below (Blk.below (Blk.below (Blk.below hk108 hb112 hk108.lt) hb115 (Blk.below hk108 hb112 hk108.lt).lt) hb118 (Blk.below (Blk.below hk108 hb112 hk108.lt) hb115 (Blk.below hk108 hb112 hk108.lt).lt).lt) hb121 (Blk.below (Blk.below (Blk.below hk108 hb112 hk108.lt) hb115 (Blk.below hk108 hb112 hk108.lt).lt) hb118 (Blk.below (Blk.below hk108 hb112 hk108.lt) hb115 (Blk.below hk108 hb112 hk108.lt).lt).lt).lt) (d2.width) (d2.room) A122 n123 cp124 (d2.hits) (d2.misses) (d2.clashes) (d2.evicted)
                          refine step_op_skip (hr130 _ _ _ _ rfl rfl rfl) rfl ?_
                          refine hK.out _ _ (hS120.grown hgr132 hS120.size (fun b e => by injection e with e; rw [← e]; exact Nat.le_trans (hS0).size hg109)) (fun hS129 => ?_)
                          clear hK K
                          change wpAnyH _ _ _ _ _ _ _ (Act.put _ none (undef)) _
                          simp only [Act.put]
                          refine wpAnyH_take (i := 17) (v := .int .i64 0) rfl (by kernel_rfl) (by kernel_rfl) (by kernel_rfl) (fun _ _ _ h => h) (Or.inl ⟨by rfl, fun w' hS' => by exact op_assign rfl rfl⟩) hS129 ?_
                          change wpAnyH _ _ _ _ _ _ _ (Act.put _ (some 19) (.int .i64 0)) _
                          simp only [Act.put, List.setIfInBounds_toArray, List.set_cons_zero, List.set_cons_succ]
                          refine wpAnyH_done (by kernel_rfl) ?_ _
                          refine NoPanic.normal ?_
                          go_wp2_with fail
                          go_meet
                          exact ⟨gs104, A122, n123, cp124, rfl, rfl, hk131, (hp126.kept hgr132 (((Blk.below (Blk.below (Blk.below hk108 hb112 hk108.lt) hb115 (Blk.below hk108 hb112 hk108.lt).lt) hb118 (Blk.below (Blk.below hk108 hb112 hk108.lt) hb115 (Blk.below hk108 hb112 hk108.lt).lt).lt)).lt)).less (fun _ hb => Nat.lt_of_lt_of_le hb (hS117).size), hn125, hc127, hS129, Nat.le_trans (hS0).size hg109⟩
            case rest =>
              obtain ⟨g2, A2, n2, c2, rfl, rfl, hb2, hp2, hn2, hc2, hbw, hge⟩ := hcut
              obtain ⟨w8, rfl⟩ : ∃ w8, w8 = wc := ⟨_, rfl⟩
              have HB8 := Lib.hid (below_step HB7.out hbw)
              have HG1 := Lib.hid (Blk.below HR1.out hbw HR1.out.lt)
              have HG2 := Lib.hid hb2
              have HQ1 := Lib.hid (HS1.out.up hbw)
              have HQ2 := Lib.hid hp2
              have HM2 := Lib.hid hn2
              have HO2 := Lib.hid hc2
              have HBA := Lib.hid (Blk.below HBa.out HB8.out HBa.out.lt)
              have HBB := Lib.hid (Blk.below HBb.out HB8.out HBb.out.lt)
              have HGP := Lib.hid (Blk.below HBp.out HB8.out HBp.out.lt)
              have HW8 : Hid (Below w2.heap.size w2 w8) := Lib.hid (below_step HI.out.1 HB8.out)
              have HLT : Hid (ga < w6.heap.size ∧ gb < w6.heap.size ∧ gp < w6.heap.size) := Lib.hid ⟨Nat.lt_of_lt_of_le HBa.out.lt HB6.out.size, Nat.lt_of_lt_of_le HBb.out.lt HB6.out.size, Nat.lt_of_lt_of_le HBp.out.lt HB6.out.size⟩
              have HNE : Hid (g1 ≠ ga ∧ g2 ≠ ga ∧ g2 ≠ gb) := Lib.hid (by have h1 := HLT.out; have h2 := HE1.out; have h3 := HB67.out.size; omega)
              clear hbw hb2 hp2 hn2 hc2 hge
              have hne1 : g1 ≠ ga := HNE.out.1
              obtain ⟨x0, x1, x2, x3, x4, x5, x6⟩ := box7 HG1.out (Below.refl _ _)
              obtain ⟨y0, y1, y2, y3, y4, y5, y6⟩ := box7 HBA.out (Below.refl _ _)
              have q0 := Blk.frozen HBA.out 0
              have q1 := Blk.frozen HBA.out 1
              have q2 := Blk.frozen HBA.out 2
              have q3 := Blk.frozen HBA.out 3
              have q4 := Blk.frozen HBA.out 4
              have q5 := Blk.frozen HBA.out 5
              have q6 := Blk.frozen HBA.out 6
              have hla := HBA.out.lt
              have HSA := Lib.hid (set7 HBA.out d1.width d1.room A1 n1 c1 d1.hits d1.misses d1.clashes d1.evicted)
              go_upto_region 18 with (fail)
              obtain ⟨w9, hw9⟩ : ∃ w9, w9 = (((((((w8.setCell ⟨ga, 0, none⟩ (.int .i64 d1.width)).setCell ⟨ga, 1, none⟩ (.int .i64 d1.room)).setCell ⟨ga, 2, none⟩ (.slice A1 n1 c1)).setCell ⟨ga, 3, none⟩ (.int .i64 d1.hits)).setCell ⟨ga, 4, none⟩ (.int .i64 d1.misses)).setCell ⟨ga, 5, none⟩ (.int .i64 d1.clashes)).setCell ⟨ga, 6, none⟩ (.int .i64 d1.evicted)) := ⟨_, rfl⟩
              rw [← hw9] at HSA ⊢
              clear hw9 x0 y0 q0 x1 y1 q1 x2 y2 q2 x3 y3 q3 x4 y4 q4 x5 y5 q5 x6 y6 q6 hla
              have hb9 := Blk.grown HBB.out HSA.out.2 (fun e => HG.out.2.2.2.1 (Option.some.inj e))
              have hg9 := Blk.grown HG2.out HSA.out.2 (fun e => HNE.out.2.1 (Option.some.inj e))
              have HBB9 := Lib.hid hb9
              obtain ⟨x0, x1, x2, x3, x4, x5, x6⟩ := box7 hg9 (Below.refl _ _)
              obtain ⟨y0, y1, y2, y3, y4, y5, y6⟩ := box7 hb9 (Below.refl _ _)
              have q0 := Blk.frozen HBB9.out 0
              have q1 := Blk.frozen HBB9.out 1
              have q2 := Blk.frozen HBB9.out 2
              have q3 := Blk.frozen HBB9.out 3
              have q4 := Blk.frozen HBB9.out 4
              have q5 := Blk.frozen HBB9.out 5
              have q6 := Blk.frozen HBB9.out 6
              have hne2 : g2 ≠ gb := HNE.out.2.2
              have hlb := hb9.lt
              have HSB := Lib.hid (set7 hb9 d2.width d2.room A2 n2 c2 d2.hits d2.misses d2.clashes d2.evicted)
              clear hb9 hg9
              have HXA := Lib.hid (Blk.grown HSA.out.1 HSB.out.2 (fun e => HG.out.2.2.2.1 (Option.some.inj e).symm))
              have HXB := Lib.hid HSB.out.1
              have HXP := Lib.hid (Blk.grown (Blk.grown HGP.out HSA.out.2 (fun e => HG.out.2.2.2.2.1 (Option.some.inj e))) HSB.out.2 (fun e => HG.out.2.2.2.2.2 (Option.some.inj e)))
              have HXW := Lib.hid (((HW8.out.grown HSA.out.2 HW8.out.size (fun b e => by injection e with e; rw [← e]; exact HG.out.1))).grown HSB.out.2 (Nat.le_trans HW8.out.size HSA.out.2.size) (fun b e => by injection e with e; rw [← e]; exact HG.out.2.1))
              have HXP1 := Lib.hid (((HQ1.out.kept HSA.out.2 (show ga < w6.heap.size from HLT.out.1)).kept HSB.out.2 (show gb < w6.heap.size from HLT.out.2.1)).less (fun b hb => by rcases hb with e | e | e <;> rw [e]; exact HLT.out.1; exact HLT.out.2.1; exact HLT.out.2.2) : PartsAt (fun x => x = ga ∨ x = gb ∨ x = gp) _ A1 d1.parts)
              have HXP2 := Lib.hid (((HQ2.out.kept HSA.out.2 (show ga < w7.heap.size from Nat.lt_of_lt_of_le HLT.out.1 HB67.out.size)).kept HSB.out.2 (show gb < w7.heap.size from Nat.lt_of_lt_of_le HLT.out.2.1 HB67.out.size)).less (fun b hb => by rcases hb with e | e | e <;> rw [e]; exact Nat.lt_of_lt_of_le HLT.out.1 HB67.out.size; exact Nat.lt_of_lt_of_le HLT.out.2.1 HB67.out.size; exact Nat.lt_of_lt_of_le HLT.out.2.2 HB67.out.size) : PartsAt (fun x => x = ga ∨ x = gb ∨ x = gp) _ A2 d2.parts)
              go_upto_region 19 with (fail)
              obtain ⟨wA, hwA⟩ : ∃ wA, wA = (((((((w9.setCell ⟨gb, 0, none⟩ (.int .i64 d2.width)).setCell ⟨gb, 1, none⟩ (.int .i64 d2.room)).setCell ⟨gb, 2, none⟩ (.slice A2 n2 c2)).setCell ⟨gb, 3, none⟩ (.int .i64 d2.hits)).setCell ⟨gb, 4, none⟩ (.int .i64 d2.misses)).setCell ⟨gb, 5, none⟩ (.int .i64 d2.clashes)).setCell ⟨gb, 6, none⟩ (.int .i64 d2.evicted)) := ⟨_, rfl⟩
              rw [← hwA] at HXA HXB HXP HXW HXP1 HXP2 ⊢
              clear hwA x0 y0 q0 x1 y1 q1 x2 y2 q2 x3 y3 q3 x4 y4 q4 x5 y5 q5 x6 y6 q6 hlb
              obtain ⟨vo, hvo⟩ : ∃ vo, ls[a * 6 + b]? = some vo := ⟨_, Array.getElem?_eq_getElem (by have := HAB.out; rw [HLL.out.1]; omega)⟩
              have zl := (Blk.cell HXP.out (a * 6 + b)).trans hvo
              have ql := Blk.frozen HXP.out (a * 6 + b)
              have hll := HXP.out.lt
              have HI2 : Hid (Below w2.heap.size w2 (wA.setCell ⟨gp, a * 6 + b, none⟩ (.bool true)) ∧ Boxed (fun x => x = ga ∨ x = gb ∨ x = gp) (wA.setCell ⟨gp, a * 6 + b, none⟩ (.bool true)) ga d1 ∧ Boxed (fun x => x = ga ∨ x = gb ∨ x = gp) (wA.setCell ⟨gp, a * 6 + b, none⟩ (.bool true)) gb d2 ∧ Blk (wA.setCell ⟨gp, a * 6 + b, none⟩ (.bool true)) gp 53 (ls.setIfInBounds (a * 6 + b) (.bool true))) := Lib.hid
                ⟨HXW.out.setCell HG.out.2.2.1 _, Boxed.kept ⟨A1, n1, c1, HXA.out, HXP1.out, HM1.out, HO1.out⟩ (grown_set _ _ _ _) (.inr (.inr rfl)) (fun e => HG.out.2.2.2.2.1 e.symm), Boxed.kept ⟨A2, n2, c2, HXB.out, HXP2.out, HM2.out, HO2.out⟩ (grown_set _ _ _ _) (.inr (.inr rfl)) (fun e => HG.out.2.2.2.2.2 e.symm), Blk.set_ HXP.out _ _⟩
              clear hvo
              go_wp2_with fail
              go_roundw
              case rel => exact ⟨k + 1, d1, d2, setV V a b (textOf z.2.2), _, by omega, by omega, by go_num, HPR2, Lib.hid (HLL.out.set_ HAB.out.1 HAB.out.2 _), HI2⟩
              case measure => simp [intOf]; omega
        · as_aux_lemma =>
          have r1 : (k : Int).tmod 2 = 1 := by rw [Int.tmod_eq_emod_of_nonneg (by omega)]; omega
          have r2 : (k : Int) % 2 = 1 := by omega
          obtain ⟨s, d1, e0, hgm1⟩ : ∃ s d e, getC ca (textOf (a : Int)) (textOf (b : Int)) = (s, d, e) := ⟨_, _, _, rfl⟩
          obtain ⟨p1, p2, p3, -⟩ := HPR.out.one.get HAB.out.1 HAB.out.2
          obtain ⟨p4, p5, p6, -⟩ := HPR.out.two.get HAB.out.1 HAB.out.2
          rw [hgm1] at p1 p2 p3
          obtain ⟨d2, hgm2⟩ : ∃ d, getC cb (textOf (a : Int)) (textOf (b : Int)) = (s, d, e0) := ⟨(getC cb (textOf (a : Int)) (textOf (b : Int))).2.1, Prod.ext (p5.trans p2.symm) (Prod.ext rfl (p6.trans p3.symm))⟩
          have HGMa := Lib.hid hgm1
          have HGMb := Lib.hid hgm2
          have HPR2 : Hid (Prt2 d1 d2 V (k + 1)) := Lib.hid (by have := HPR.out.get HAB.out.1 HAB.out.2; rw [hgm1, hgm2] at this; exact this)
          have HCODE : Hid ((e0 = 0 ∧ (V a b).isSome = true) ∨ (e0 = 10 ∧ (V a b).isSome = false)) := Lib.hid (by
            have h : e0 = if (V a b).isSome = true then 0 else 10 := p3
            cases hv : (V a b).isSome with
            | true => exact .inl ⟨by rw [h, hv]; rfl, rfl⟩
            | false => exact .inr ⟨by rw [h, hv]; rfl, rfl⟩)
          clear hgm1 hgm2 p1 p2 p3 p4 p5 p6
          go_wp2_with fail
          go_cut [20, 21, 22] (fun s20 s21 s22 wx => GetCut w6 s d1 e0 s20 s21 s22 wx)
          case first => as_aux_lemma =>
            refine wp_region_noPanic ?_
            refine wp_region_held_drew (S := fun W => Below w6.heap.size w6 W) (by kernel_rfl) ((Below.refl w6.heap.size w6).drew) (fun hS0 => ?_)
            change wpAnyH _ _ _ _ _ 14 #[false, false, false, false, false, false, false, false, false, false, false, false, false, false] _ (World.drew _)
            refine wpAnyH_take (i := 0) (v := .agg #[.int .i64 ca.width, .int .i64 ca.room, .slice Aa na capa, .int .i64 ca.hits, .int .i64 ca.misses, .int .i64 ca.clashes, .int .i64 ca.evicted]) rfl (by kernel_rfl) (by kernel_rfl) (by kernel_rfl) (fun _ _ _ h => h) (Or.inl ⟨by rfl, fun w' hS' => by obtain ⟨y0, y1, y2, y3, y4, y5, y6⟩ := HCA.out _ hS'; go_simp⟩) hS0 ?_
            change wpAnyH _ _ _ _ _ _ _ (Act.put _ (some 115) (.agg #[.int .i64 ca.width, .int .i64 ca.room, .slice Aa na capa, .int .i64 ca.hits, .int .i64 ca.misses, .int .i64 ca.clashes, .int .i64 ca.evicted])) _
            simp only [Act.put, List.setIfInBounds_toArray, List.set_cons_zero, List.set_cons_succ]
            refine wpAnyH_take (i := 1) (v := .int .i64 (a : Int)) rfl (by kernel_rfl) (by kernel_rfl) (by kernel_rfl) (fun _ _ _ h => h) (Or.inl ⟨by rfl, fun w' hS' => by exact op_move rfl rfl⟩) hS0 ?_
            change wpAnyH _ _ _ _ _ _ _ (Act.put _ (some 116) (.int .i64 (a : Int))) _
            simp only [Act.put, List.setIfInBounds_toArray, List.set_cons_zero, List.set_cons_succ]
            refine wpAnyH_take (i := 3) (v := .int .i64 (b : Int)) rfl (by kernel_rfl) (by kernel_rfl) (by kernel_rfl) (fun _ _ _ h => h) (Or.inl ⟨by rfl, fun w' hS' => by exact op_move rfl rfl⟩) hS0 ?_
            change wpAnyH _ _ _ _ _ _ _ (Act.put _ (some 118) (.int .i64 (b : Int))) _
            simp only [Act.put, List.setIfInBounds_toArray, List.set_cons_zero, List.set_cons_succ]
            refine wpAnyH_ready (rs := [2, 10]) (by kernel_rfl) (by simp) (AllReadyH.cons rfl (fun K hK => ?_) (AllReadyH.cons rfl (fun K hK => ?_) (AllReadyH.nil)))
            · skip
              go_simp
              refine (text_any (a : Int) _ HIA.out).mono ?_
              rintro e W1 ⟨rfl, hb3⟩
              refine hK.out _ _ (hS0.trans (hb3.mono hS0.size)) (fun hS2 => ?_)
              clear hK K
              simp only [List.setIfInBounds_toArray, List.set_cons_zero, List.set_cons_succ]
              refine wpAnyH_ready (rs := [4, 10]) (by kernel_rfl) (by simp) (AllReadyH.cons rfl (fun K hK => ?_) (AllReadyH.cons rfl (fun K hK => ?_) (AllReadyH.nil)))
              · skip
                go_simp
                refine (text_any (b : Int) _ HIB.out).mono ?_
                rintro e W4 ⟨rfl, hb6⟩
                refine hK.out _ _ (hS2.trans (hb6.mono hS2.size)) (fun hS5 => ?_)
                clear hK K
                simp only [List.setIfInBounds_toArray, List.set_cons_zero, List.set_cons_succ]
                refine wpAnyH_ready (rs := [5, 10]) (by kernel_rfl) (by simp) (AllReadyH.cons rfl (fun K hK => ?_) (AllReadyH.cons rfl (fun K hK => ?_) (AllReadyH.nil)))
                · skip
                  go_simp
                  refine (get_new ca Aa na capa (textOf (a : Int)) (textOf (b : Int)) _ s d1 e0 HGMa.out ((HPa.out.up HB6.out).up hS5) HNa.out HFa.out (text_le _) (text_le _)).mono ?_
                  rintro e W7 ⟨A10, n11, cp12, rfl, hn13, hp14, hb9, hc15⟩
                  refine hK.out _ _ (hS5.trans (hb9.mono hS5.size)) (fun hS8 => ?_)
                  clear hK K
                  simp only [List.setIfInBounds_toArray, List.set_cons_zero, List.set_cons_succ]
                  refine wpAnyH_take (i := 6) (v := .tuple #[.string s, .agg #[.int .i64 d1.width, .int .i64 d1.room, .slice A10 n11 cp12, .int .i64 d1.hits, .int .i64 d1.misses, .int .i64 d1.clashes, .int .i64 d1.evicted], .int .i64 e0]) rfl (by kernel_rfl) (by kernel_rfl) (by kernel_rfl) (fun _ _ _ h => h) (Or.inl ⟨by rfl, fun w' hS' => by exact op_move rfl rfl⟩) hS8 ?_
                  change wpAnyH _ _ _ _ _ _ _ (Act.put _ (some 114) (.tuple #[.string s, .agg #[.int .i64 d1.width, .int .i64 d1.room, .slice A10 n11 cp12, .int .i64 d1.hits, .int .i64 d1.misses, .int .i64 d1.clashes, .int .i64 d1.evicted], .int .i64 e0])) _
                  simp only [Act.put, List.setIfInBounds_toArray, List.set_cons_zero, List.set_cons_succ]
                  refine wpAnyH_take (i := 7) (v := .string s) rfl (by kernel_rfl) (by kernel_rfl) (by kernel_rfl) (fun _ _ _ h => h) (Or.inl ⟨by rfl, fun w' hS' => by go_simp⟩) hS8 ?_
                  change wpAnyH _ _ _ _ _ _ _ (Act.put _ (some 121) (.string s)) _
                  simp only [Act.put, List.setIfInBounds_toArray, List.set_cons_zero, List.set_cons_succ]
                  refine wpAnyH_take (i := 8) (v := .agg #[.int .i64 d1.width, .int .i64 d1.room, .slice A10 n11 cp12, .int .i64 d1.hits, .int .i64 d1.misses, .int .i64 d1.clashes, .int .i64 d1.evicted]) rfl (by kernel_rfl) (by kernel_rfl) (by kernel_rfl) (fun _ _ _ h => h) (Or.inl ⟨by rfl, fun w' hS' => by go_simp⟩) hS8 ?_
                  change wpAnyH _ _ _ _ _ _ _ (Act.put _ (some 122) (.agg #[.int .i64 d1.width, .int .i64 d1.room, .slice A10 n11 cp12, .int .i64 d1.hits, .int .i64 d1.misses, .int .i64 d1.clashes, .int .i64 d1.evicted])) _
                  simp only [Act.put, List.setIfInBounds_toArray, List.set_cons_zero, List.set_cons_succ]
                  refine wpAnyH_take (i := 9) (v := .int .i64 e0) rfl (by kernel_rfl) (by kernel_rfl) (by kernel_rfl) (fun _ _ _ h => h) (Or.inl ⟨by rfl, fun w' hS' => by go_simp⟩) hS8 ?_
                  change wpAnyH _ _ _ _ _ _ _ (Act.put _ (some 123) (.int .i64 e0)) _
                  simp only [Act.put, List.setIfInBounds_toArray, List.set_cons_zero, List.set_cons_succ]
                  refine wpAnyH_ready (rs := [10]) (by kernel_rfl) (by simp) (AllReadyH.cons rfl (fun K hK => ?_) (AllReadyH.nil))
                  · skip
                    obtain ⟨gs17, W16, hr20, hk21, hb19, hg22⟩ := op_allocC W7
                    refine step_op_run (hr20 _ _ rfl) rfl ?_
                    refine hK.out _ _ (hS8.trans (hb19.mono hS8.size)) (fun hS18 => ?_)
                    clear hK K
                    change wpAnyH _ _ _ _ _ _ _ (Act.put _ (some 21) (.pointer (some ⟨gs17, 0, none⟩))) _
                    simp only [Act.put, List.setIfInBounds_toArray, List.set_cons_zero, List.set_cons_succ]
                    refine wpAnyH_take (i := 11) (v := .string s) rfl (by kernel_rfl) (by kernel_rfl) (by kernel_rfl) (fun _ _ _ h => h) (Or.inl ⟨by rfl, fun w' hS' => by exact op_assign rfl rfl⟩) hS18 ?_
                    change wpAnyH _ _ _ _ _ _ _ (Act.put _ (some 20) (.string s)) _
                    simp only [Act.put, List.setIfInBounds_toArray, List.set_cons_zero, List.set_cons_succ]
                    refine wpAnyH_ready (rs := [12]) (by kernel_rfl) (by simp) (AllReadyH.cons rfl (fun K hK => ?_) (AllReadyH.nil))
                    · skip
                      obtain ⟨W23, hr25, hk26, hgr27⟩ := op_store7 hk21 (d1.width) (d1.room) A10 n11 cp12 (d1.hits) (d1.misses) (d1.clashes) (d1.evicted)
                      refine step_op_skip (hr25 _ _ _ _ rfl rfl rfl) rfl ?_
                      refine hK.out _ _ (hS18.grown hgr27 hS18.size (fun b e => by injection e with e; rw [← e]; exact Nat.le_trans (hS8).size hg22)) (fun hS24 => ?_)
                      clear hK K
                      change wpAnyH _ _ _ _ _ _ _ (Act.put _ none (undef)) _
                      simp only [Act.put]
                      refine wpAnyH_take (i := 13) (v := .int .i64 e0) rfl (by kernel_rfl) (by kernel_rfl) (by kernel_rfl) (fun _ _ _ h => h) (Or.inl ⟨by rfl, fun w' hS' => by exact op_assign rfl rfl⟩) hS24 ?_
                      change wpAnyH _ _ _ _ _ _ _ (Act.put _ (some 22) (.int .i64 e0)) _
                      simp only [Act.put, List.setIfInBounds_toArray, List.set_cons_zero, List.set_cons_succ]
                      refine wpAnyH_done (by kernel_rfl) ?_ _
                      refine NoPanic.normal ?_
                      go_wp2_with fail
                      go_meet
                      exact ⟨gs17, A10, n11, cp12, rfl, rfl, rfl, hk26, (((hp14.add hg22).up hb19).kept hgr27 (Or.inr rfl)).less (fun _ hb => .inl (Nat.lt_of_lt_of_le hb (hS5).size)), hn13, hc15, hS24, Nat.le_trans (hS8).size hg22⟩
                · skip
                  obtain ⟨gs29, W28, hr32, hk33, hb31, hg34⟩ := op_allocC W4
                  refine step_op_run (hr32 _ _ rfl) rfl ?_
                  refine hK.out _ _ (hS5.trans (hb31.mono hS5.size)) (fun hS30 => ?_)
                  clear hK K
                  change wpAnyH _ _ _ _ _ _ _ (Act.put _ (some 21) (.pointer (some ⟨gs29, 0, none⟩))) _
                  simp only [Act.put, List.setIfInBounds_toArray, List.set_cons_zero, List.set_cons_succ]
                  refine wpAnyH_ready (rs := [5]) (by kernel_rfl) (by simp) (AllReadyH.cons rfl (fun K hK => ?_) (AllReadyH.nil))
                  · skip
                    go_simp
                    refine (get_new ca Aa na capa (textOf (a : Int)) (textOf (b : Int)) _ s d1 e0 HGMa.out ((HPa.out.up HB6.out).up hS30) HNa.out HFa.out (text_le _) (text_le _)).mono ?_
                    rintro e W35 ⟨A38, n39, cp40, rfl, hn41, hp42, hb37, hc43⟩
                    refine hK.out _ _ (hS30.trans (hb37.mono hS30.size)) (fun hS36 => ?_)
                    clear hK K
                    simp only [List.setIfInBounds_toArray, List.set_cons_zero, List.set_cons_succ]
                    refine wpAnyH_take (i := 6) (v := .tuple #[.string s, .agg #[.int .i64 d1.width, .int .i64 d1.room, .slice A38 n39 cp40, .int .i64 d1.hits, .int .i64 d1.misses, .int .i64 d1.clashes, .int .i64 d1.evicted], .int .i64 e0]) rfl (by kernel_rfl) (by kernel_rfl) (by kernel_rfl) (fun _ _ _ h => h) (Or.inl ⟨by rfl, fun w' hS' => by exact op_move rfl rfl⟩) hS36 ?_
                    change wpAnyH _ _ _ _ _ _ _ (Act.put _ (some 114) (.tuple #[.string s, .agg #[.int .i64 d1.width, .int .i64 d1.room, .slice A38 n39 cp40, .int .i64 d1.hits, .int .i64 d1.misses, .int .i64 d1.clashes, .int .i64 d1.evicted], .int .i64 e0])) _
                    simp only [Act.put, List.setIfInBounds_toArray, List.set_cons_zero, List.set_cons_succ]
                    refine wpAnyH_take (i := 7) (v := .string s) rfl (by kernel_rfl) (by kernel_rfl) (by kernel_rfl) (fun _ _ _ h => h) (Or.inl ⟨by rfl, fun w' hS' => by go_simp⟩) hS36 ?_
                    change wpAnyH _ _ _ _ _ _ _ (Act.put _ (some 121) (.string s)) _
                    simp only [Act.put, List.setIfInBounds_toArray, List.set_cons_zero, List.set_cons_succ]
                    refine wpAnyH_take (i := 8) (v := .agg #[.int .i64 d1.width, .int .i64 d1.room, .slice A38 n39 cp40, .int .i64 d1.hits, .int .i64 d1.misses, .int .i64 d1.clashes, .int .i64 d1.evicted]) rfl (by kernel_rfl) (by kernel_rfl) (by kernel_rfl) (fun _ _ _ h => h) (Or.inl ⟨by rfl, fun w' hS' => by go_simp⟩) hS36 ?_
                    change wpAnyH _ _ _ _ _ _ _ (Act.put _ (some 122) (.agg #[.int .i64 d1.width, .int .i64 d1.room, .slice A38 n39 cp40, .int .i64 d1.hits, .int .i64 d1.misses, .int .i64 d1.clashes, .int .i64 d1.evicted])) _
                    simp only [Act.put, List.setIfInBounds_toArray, List.set_cons_zero, List.set_cons_succ]
                    refine wpAnyH_take (i := 9) (v := .int .i64 e0) rfl (by kernel_rfl) (by kernel_rfl) (by kernel_rfl) (fun _ _ _ h => h) (Or.inl ⟨by rfl, fun w' hS' => by go_simp⟩) hS36 ?_
                    change wpAnyH _ _ _ _ _ _ _ (Act.put _ (some 123) (.int .i64 e0)) _
                    simp only [Act.put, List.setIfInBounds_toArray, List.set_cons_zero, List.set_cons_succ]
                    refine wpAnyH_take (i := 11) (v := .string s) rfl (by kernel_rfl) (by kernel_rfl) (by kernel_rfl) (fun _ _ _ h => h) (Or.inl ⟨by rfl, fun w' hS' => by exact op_assign rfl rfl⟩) hS36 ?_
                    change wpAnyH _ _ _ _ _ _ _ (Act.put _ (some 20) (.string s)) _
                    simp only [Act.put, List.setIfInBounds_toArray, List.set_cons_zero, List.set_cons_succ]
                    refine wpAnyH_ready (rs := [12]) (by kernel_rfl) (by simp) (AllReadyH.cons rfl (fun K hK => ?_) (AllReadyH.nil))
                    · skip
                      obtain ⟨W44, hr46, hk47, hgr48⟩ := op_store7 (Blk.below hk33 hb37 hk33.lt) (d1.width) (d1.room) A38 n39 cp40 (d1.hits) (d1.misses) (d1.clashes) (d1.evicted)
                      refine step_op_skip (hr46 _ _ _ _ rfl rfl rfl) rfl ?_
                      refine hK.out _ _ (hS36.grown hgr48 hS36.size (fun b e => by injection e with e; rw [← e]; exact Nat.le_trans (hS5).size hg34)) (fun hS45 => ?_)
                      clear hK K
                      change wpAnyH _ _ _ _ _ _ _ (Act.put _ none (undef)) _
                      simp only [Act.put]
                      refine wpAnyH_take (i := 13) (v := .int .i64 e0) rfl (by kernel_rfl) (by kernel_rfl) (by kernel_rfl) (fun _ _ _ h => h) (Or.inl ⟨by rfl, fun w' hS' => by exact op_assign rfl rfl⟩) hS45 ?_
                      change wpAnyH _ _ _ _ _ _ _ (Act.put _ (some 22) (.int .i64 e0)) _
                      simp only [Act.put, List.setIfInBounds_toArray, List.set_cons_zero, List.set_cons_succ]
                      refine wpAnyH_done (by kernel_rfl) ?_ _
                      refine NoPanic.normal ?_
                      go_wp2_with fail
                      go_meet
                      exact ⟨gs29, A38, n39, cp40, rfl, rfl, rfl, hk47, (hp42.kept hgr48 ((hk33).lt)).less (fun _ hb => Nat.lt_of_lt_of_le hb (hS30).size), hn41, hc43, hS45, Nat.le_trans (hS5).size hg34⟩
              · skip
                obtain ⟨gs50, W49, hr53, hk54, hb52, hg55⟩ := op_allocC W1
                refine step_op_run (hr53 _ _ rfl) rfl ?_
                refine hK.out _ _ (hS2.trans (hb52.mono hS2.size)) (fun hS51 => ?_)
                clear hK K
                change wpAnyH _ _ _ _ _ _ _ (Act.put _ (some 21) (.pointer (some ⟨gs50, 0, none⟩))) _
                simp only [Act.put, List.setIfInBounds_toArray, List.set_cons_zero, List.set_cons_succ]
                refine wpAnyH_ready (rs := [4]) (by kernel_rfl) (by simp) (AllReadyH.cons rfl (fun K hK => ?_) (AllReadyH.nil))
                · skip
                  go_simp
                  refine (text_any (b : Int) _ HIB.out).mono ?_
                  rintro e W56 ⟨rfl, hb58⟩
                  refine hK.out _ _ (hS51.trans (hb58.mono hS51.size)) (fun hS57 => ?_)
                  clear hK K
                  simp only [List.setIfInBounds_toArray, List.set_cons_zero, List.set_cons_succ]
                  refine wpAnyH_ready (rs := [5]) (by kernel_rfl) (by simp) (AllReadyH.cons rfl (fun K hK => ?_) (AllReadyH.nil))
                  · skip
                    go_simp
                    refine (get_new ca Aa na capa (textOf (a : Int)) (textOf (b : Int)) _ s d1 e0 HGMa.out ((HPa.out.up HB6.out).up hS57) HNa.out HFa.out (text_le _) (text_le _)).mono ?_
                    rintro e W59 ⟨A62, n63, cp64, rfl, hn65, hp66, hb61, hc67⟩
                    refine hK.out _ _ (hS57.trans (hb61.mono hS57.size)) (fun hS60 => ?_)
                    clear hK K
                    simp only [List.setIfInBounds_toArray, List.set_cons_zero, List.set_cons_succ]
                    refine wpAnyH_take (i := 6) (v := .tuple #[.string s, .agg #[.int .i64 d1.width, .int .i64 d1.room, .slice A62 n63 cp64, .int .i64 d1.hits, .int .i64 d1.misses, .int .i64 d1.clashes, .int .i64 d1.evicted], .int .i64 e0]) rfl (by kernel_rfl) (by kernel_rfl) (by kernel_rfl) (fun _ _ _ h => h) (Or.inl ⟨by rfl, fun w' hS' => by exact op_move rfl rfl⟩) hS60 ?_
                    change wpAnyH _ _ _ _ _ _ _ (Act.put _ (some 114) (.tuple #[.string s, .agg #[.int .i64 d1.width, .int .i64 d1.room, .slice A62 n63 cp64, .int .i64 d1.hits, .int .i64 d1.misses, .int .i64 d1.clashes, .int .i64 d1.evicted], .int .i64 e0])) _
                    simp only [Act.put, List.setIfInBounds_toArray, List.set_cons_zero, List.set_cons_succ]
                    refine wpAnyH_take (i := 7) (v := .string s) rfl (by kernel_rfl) (by kernel_rfl) (by kernel_rfl) (fun _ _ _ h => h) (Or.inl ⟨by rfl, fun w' hS' => by go_simp⟩) hS60 ?_
                    change wpAnyH _ _ _ _ _ _ _ (Act.put _ (some 121) (.string s)) _
                    simp only [Act.put, List.setIfInBounds_toArray, List.set_cons_zero, List.set_cons_succ]
                    refine wpAnyH_take (i := 8) (v := .agg #[.int .i64 d1.width, .int .i64 d1.room, .slice A62 n63 cp64, .int .i64 d1.hits, .int .i64 d1.misses, .int .i64 d1.clashes, .int .i64 d1.evicted]) rfl (by kernel_rfl) (by kernel_rfl) (by kernel_rfl) (fun _ _ _ h => h) (Or.inl ⟨by rfl, fun w' hS' => by go_simp⟩) hS60 ?_
                    change wpAnyH _ _ _ _ _ _ _ (Act.put _ (some 122) (.agg #[.int .i64 d1.width, .int .i64 d1.room, .slice A62 n63 cp64, .int .i64 d1.hits, .int .i64 d1.misses, .int .i64 d1.clashes, .int .i64 d1.evicted])) _
                    simp only [Act.put, List.setIfInBounds_toArray, List.set_cons_zero, List.set_cons_succ]
                    refine wpAnyH_take (i := 9) (v := .int .i64 e0) rfl (by kernel_rfl) (by kernel_rfl) (by kernel_rfl) (fun _ _ _ h => h) (Or.inl ⟨by rfl, fun w' hS' => by go_simp⟩) hS60 ?_
                    change wpAnyH _ _ _ _ _ _ _ (Act.put _ (some 123) (.int .i64 e0)) _
                    simp only [Act.put, List.setIfInBounds_toArray, List.set_cons_zero, List.set_cons_succ]
                    refine wpAnyH_take (i := 11) (v := .string s) rfl (by kernel_rfl) (by kernel_rfl) (by kernel_rfl) (fun _ _ _ h => h) (Or.inl ⟨by rfl, fun w' hS' => by exact op_assign rfl rfl⟩) hS60 ?_
                    change wpAnyH _ _ _ _ _ _ _ (Act.put _ (some 20) (.string s)) _
                    simp only [Act.put, List.setIfInBounds_toArray, List.set_cons_zero, List.set_cons_succ]
                    refine wpAnyH_ready (rs := [12]) (by kernel_rfl) (by simp) (AllReadyH.cons rfl (fun K hK => ?_) (AllReadyH.nil))
                    · skip
                      obtain ⟨W68, hr70, hk71, hgr72⟩ := op_store7 (Blk.below (Blk.below hk54 hb58 hk54.lt) hb61 (Blk.below hk54 hb58 hk54.lt).lt) (d1.width) (d1.room) A62 n63 cp64 (d1.hits) (d1.misses) (d1.clashes) (d1.evicted)
                      refine step_op_skip (hr70 _ _ _ _ rfl rfl rfl) rfl ?_
                      refine hK.out _ _ (hS60.grown hgr72 hS60.size (fun b e => by injection e with e; rw [← e]; exact Nat.le_trans (hS2).size hg55)) (fun hS69 => ?_)
                      clear hK K
                      change wpAnyH _ _ _ _ _ _ _ (Act.put _ none (undef)) _
                      simp only [Act.put]
                      refine wpAnyH_take (i := 13) (v := .int .i64 e0) rfl (by kernel_rfl) (by kernel_rfl) (by kernel_rfl) (fun _ _ _ h => h) (Or.inl ⟨by rfl, fun w' hS' => by exact op_assign rfl rfl⟩) hS69 ?_
                      change wpAnyH _ _ _ _ _ _ _ (Act.put _ (some 22) (.int .i64 e0)) _
                      simp only [Act.put, List.setIfInBounds_toArray, List.set_cons_zero, List.set_cons_succ]
                      refine wpAnyH_done (by kernel_rfl) ?_ _
                      refine NoPanic.normal ?_
                      go_wp2_with fail
                      go_meet
                      exact ⟨gs50, A62, n63, cp64, rfl, rfl, rfl, hk71, (hp66.kept hgr72 (((Blk.below hk54 hb58 hk54.lt)).lt)).less (fun _ hb => Nat.lt_of_lt_of_le hb (hS57).size), hn65, hc67, hS69, Nat.le_trans (hS2).size hg55⟩
            · skip
              obtain ⟨gs74, W73, hr77, hk78, hb76, hg79⟩ := op_allocC w6.drew
              refine step_op_run (hr77 _ _ rfl) rfl ?_
              refine hK.out _ _ (hS0.trans (hb76.mono hS0.size)) (fun hS75 => ?_)
              clear hK K
              change wpAnyH _ _ _ _ _ _ _ (Act.put _ (some 21) (.pointer (some ⟨gs74, 0, none⟩))) _
              simp only [Act.put, List.setIfInBounds_toArray, List.set_cons_zero, List.set_cons_succ]
              refine wpAnyH_ready (rs := [2]) (by kernel_rfl) (by simp) (AllReadyH.cons rfl (fun K hK => ?_) (AllReadyH.nil))
              · skip
                go_simp
                refine (text_any (a : Int) _ HIA.out).mono ?_
                rintro e W80 ⟨rfl, hb82⟩
                refine hK.out _ _ (hS75.trans (hb82.mono hS75.size)) (fun hS81 => ?_)
                clear hK K
                simp only [List.setIfInBounds_toArray, List.set_cons_zero, List.set_cons_succ]
                refine wpAnyH_ready (rs := [4]) (by kernel_rfl) (by simp) (AllReadyH.cons rfl (fun K hK => ?_) (AllReadyH.nil))
                · skip
                  go_simp
                  refine (text_any (b : Int) _ HIB.out).mono ?_
                  rintro e W83 ⟨rfl, hb85⟩
                  refine hK.out _ _ (hS81.trans (hb85.mono hS81.size)) (fun hS84 => ?_)
                  clear hK K
                  simp only [List.setIfInBounds_toArray, List.set_cons_zero, List.set_cons_succ]
                  refine wpAnyH_ready (rs := [5]) (by kernel_rfl) (by simp) (AllReadyH.cons rfl (fun K hK => ?_) (AllReadyH.nil))
                  · skip
                    go_simp
                    refine (get_new ca Aa na capa (textOf (a : Int)) (textOf (b : Int)) _ s d1 e0 HGMa.out ((HPa.out.up HB6.out).up hS84) HNa.out HFa.out (text_le _) (text_le _)).mono ?_
                    rintro e W86 ⟨A89, n90, cp91, rfl, hn92, hp93, hb88, hc94⟩
                    refine hK.out _ _ (hS84.trans (hb88.mono hS84.size)) (fun hS87 => ?_)
                    clear hK K
                    simp only [List.setIfInBounds_toArray, List.set_cons_zero, List.set_cons_succ]
                    refine wpAnyH_take (i := 6) (v := .tuple #[.string s, .agg #[.int .i64 d1.width, .int .i64 d1.room, .slice A89 n90 cp91, .int .i64 d1.hits, .int .i64 d1.misses, .int .i64 d1.clashes, .int .i64 d1.evicted], .int .i64 e0]) rfl (by kernel_rfl) (by kernel_rfl) (by kernel_rfl) (fun _ _ _ h => h) (Or.inl ⟨by rfl, fun w' hS' => by exact op_move rfl rfl⟩) hS87 ?_
                    change wpAnyH _ _ _ _ _ _ _ (Act.put _ (some 114) (.tuple #[.string s, .agg #[.int .i64 d1.width, .int .i64 d1.room, .slice A89 n90 cp91, .int .i64 d1.hits, .int .i64 d1.misses, .int .i64 d1.clashes, .int .i64 d1.evicted], .int .i64 e0])) _
                    simp only [Act.put, List.setIfInBounds_toArray, List.set_cons_zero, List.set_cons_succ]
                    refine wpAnyH_take (i := 7) (v := .string s) rfl (by kernel_rfl) (by kernel_rfl) (by kernel_rfl) (fun _ _ _ h => h) (Or.inl ⟨by rfl, fun w' hS' => by go_simp⟩) hS87 ?_
                    change wpAnyH _ _ _ _ _ _ _ (Act.put _ (some 121) (.string s)) _
                    simp only [Act.put, List.setIfInBounds_toArray, List.set_cons_zero, List.set_cons_succ]
                    refine wpAnyH_take (i := 8) (v := .agg #[.int .i64 d1.width, .int .i64 d1.room, .slice A89 n90 cp91, .int .i64 d1.hits, .int .i64 d1.misses, .int .i64 d1.clashes, .int .i64 d1.evicted]) rfl (by kernel_rfl) (by kernel_rfl) (by kernel_rfl) (fun _ _ _ h => h) (Or.inl ⟨by rfl, fun w' hS' => by go_simp⟩) hS87 ?_
                    change wpAnyH _ _ _ _ _ _ _ (Act.put _ (some 122) (.agg #[.int .i64 d1.width, .int .i64 d1.room, .slice A89 n90 cp91, .int .i64 d1.hits, .int .i64 d1.misses, .int .i64 d1.clashes, .int .i64 d1.evicted])) _
                    simp only [Act.put, List.setIfInBounds_toArray, List.set_cons_zero, List.set_cons_succ]
                    refine wpAnyH_take (i := 9) (v := .int .i64 e0) rfl (by kernel_rfl) (by kernel_rfl) (by kernel_rfl) (fun _ _ _ h => h) (Or.inl ⟨by rfl, fun w' hS' => by go_simp⟩) hS87 ?_
                    change wpAnyH _ _ _ _ _ _ _ (Act.put _ (some 123) (.int .i64 e0)) _
                    simp only [Act.put, List.setIfInBounds_toArray, List.set_cons_zero, List.set_cons_succ]
                    refine wpAnyH_take (i := 11) (v := .string s) rfl (by kernel_rfl) (by kernel_rfl) (by kernel_rfl) (fun _ _ _ h => h) (Or.inl ⟨by rfl, fun w' hS' => by exact op_assign rfl rfl⟩) hS87 ?_
                    change wpAnyH _ _ _ _ _ _ _ (Act.put _ (some 20) (.string s)) _
                    simp only [Act.put, List.setIfInBounds_toArray, List.set_cons_zero, List.set_cons_succ]
                    refine wpAnyH_ready (rs := [12]) (by kernel_rfl) (by simp) (AllReadyH.cons rfl (fun K hK => ?_) (AllReadyH.nil))
                    · skip
                      obtain ⟨W95, hr97, hk98, hgr99⟩ := op_store7 (Blk.below (Blk.below (Blk.below hk78 hb82 hk78.lt) hb85 (Blk.below hk78 hb82 hk78.lt).lt) hb88 (Blk.below (Blk.below hk78 hb82 hk78.lt) hb85 (Blk.below hk78 hb82 hk78.lt).lt).lt) (d1.width) (d1.room) A89 n90 cp91 (d1.hits) (d1.misses) (d1.clashes) (d1.evicted)
                      refine step_op_skip (hr97 _ _ _ _ rfl rfl rfl) rfl ?_
                      refine hK.out _ _ (hS87.grown hgr99 hS87.size (fun b e => by injection e with e; rw [← e]; exact Nat.le_trans (hS0).size hg79)) (fun hS96 => ?_)
                      clear hK K
                      change wpAnyH _ _ _ _ _ _ _ (Act.put _ none (undef)) _
                      simp only [Act.put]
                      refine wpAnyH_take (i := 13) (v := .int .i64 e0) rfl (by kernel_rfl) (by kernel_rfl) (by kernel_rfl) (fun _ _ _ h => h) (Or.inl ⟨by rfl, fun w' hS' => by exact op_assign rfl rfl⟩) hS96 ?_
                      change wpAnyH _ _ _ _ _ _ _ (Act.put _ (some 22) (.int .i64 e0)) _
                      simp only [Act.put, List.setIfInBounds_toArray, List.set_cons_zero, List.set_cons_succ]
                      refine wpAnyH_done (by kernel_rfl) ?_ _
                      refine NoPanic.normal ?_
                      go_wp2_with fail
                      go_meet
                      exact ⟨gs74, A89, n90, cp91, rfl, rfl, rfl, hk98, (hp93.kept hgr99 (((Blk.below (Blk.below hk78 hb82 hk78.lt) hb85 (Blk.below hk78 hb82 hk78.lt).lt)).lt)).less (fun _ hb => Nat.lt_of_lt_of_le hb (hS84).size), hn92, hc94, hS96, Nat.le_trans (hS0).size hg79⟩
          case rest =>
            obtain ⟨g1, A1, n1, c1, rfl, rfl, rfl, hb1, hp1, hn1, hc1, hbw, hge⟩ := hcut
            obtain ⟨w7, rfl⟩ : ∃ w7, w7 = wc := ⟨_, rfl⟩
            have HB67 := Lib.hid hbw
            have HB7 := Lib.hid (below_step HB6.out hbw)
            have HR1 := Lib.hid hb1
            have HS1 := Lib.hid hp1
            have HM1 := Lib.hid hn1
            have HO1 := Lib.hid hc1
            have HE1 := Lib.hid hge
            have HCB' : Hid (∀ W, Below w7.heap.size w7 W → W.cell? ⟨gb, 0, none⟩ = some (.int .i64 cb.width) ∧ W.cell? ⟨gb, 1, none⟩ = some (.int .i64 cb.room) ∧ W.cell? ⟨gb, 2, none⟩ = some (.slice Ab nb capb) ∧ W.cell? ⟨gb, 3, none⟩ = some (.int .i64 cb.hits) ∧ W.cell? ⟨gb, 4, none⟩ = some (.int .i64 cb.misses) ∧ W.cell? ⟨gb, 5, none⟩ = some (.int .i64 cb.clashes) ∧ W.cell? ⟨gb, 6, none⟩ = some (.int .i64 cb.evicted)) := Lib.hid fun W hW => box7 HBb.out (below_step HB7.out hW)
            have HTZ' : Hid (∀ W, Below w7.heap.size w7 W → W.cell? (aa.add (k * 3)) = some (.int .i64 z.1) ∧ W.cell? ⟨(aa.add (k * 3)).block, (aa.add (k * 3)).off + 1, none⟩ = some (.int .i64 z.2.1) ∧ W.cell? ⟨(aa.add (k * 3)).block, (aa.add (k * 3)).off + 2, none⟩ = some (.int .i64 z.2.2)) := Lib.hid fun W hW => HTZ0.out W (below_step HB7.out hW)
            clear hbw hb1 hp1 hn1 hc1 hge HCB HTZ
            have HCB := HCB'
            have HTZ := HTZ'
            clear HCB' HTZ'
            go_wp2_with fail
            go_cut [23, 24, 25] (fun s23 s24 s25 wx => GetCut w7 s d2 e0 s23 s24 s25 wx)
            case first => as_aux_lemma =>
              refine wp_region_noPanic ?_
              refine wp_region_held_drew (S := fun W => Below w7.heap.size w7 W) (by kernel_rfl) ((Below.refl w7.heap.size w7).drew) (fun hS0 => ?_)
              change wpAnyH _ _ _ _ _ 14 #[false, false, false, false, false, false, false, false, false, false, false, false, false, false] _ (World.drew _)
              refine wpAnyH_take (i := 0) (v := .agg #[.int .i64 cb.width, .int .i64 cb.room, .slice Ab nb capb, .int .i64 cb.hits, .int .i64 cb.misses, .int .i64 cb.clashes, .int .i64 cb.evicted]) rfl (by kernel_rfl) (by kernel_rfl) (by kernel_rfl) (fun _ _ _ h => h) (Or.inl ⟨by rfl, fun w' hS' => by obtain ⟨y0, y1, y2, y3, y4, y5, y6⟩ := HCB.out _ hS'; go_simp⟩) hS0 ?_
              change wpAnyH _ _ _ _ _ _ _ (Act.put _ (some 125) (.agg #[.int .i64 cb.width, .int .i64 cb.room, .slice Ab nb capb, .int .i64 cb.hits, .int .i64 cb.misses, .int .i64 cb.clashes, .int .i64 cb.evicted])) _
              simp only [Act.put, List.setIfInBounds_toArray, List.set_cons_zero, List.set_cons_succ]
              refine wpAnyH_take (i := 1) (v := .int .i64 (a : Int)) rfl (by kernel_rfl) (by kernel_rfl) (by kernel_rfl) (fun _ _ _ h => h) (Or.inl ⟨by rfl, fun w' hS' => by exact op_move rfl rfl⟩) hS0 ?_
              change wpAnyH _ _ _ _ _ _ _ (Act.put _ (some 126) (.int .i64 (a : Int))) _
              simp only [Act.put, List.setIfInBounds_toArray, List.set_cons_zero, List.set_cons_succ]
              refine wpAnyH_take (i := 3) (v := .int .i64 (b : Int)) rfl (by kernel_rfl) (by kernel_rfl) (by kernel_rfl) (fun _ _ _ h => h) (Or.inl ⟨by rfl, fun w' hS' => by exact op_move rfl rfl⟩) hS0 ?_
              change wpAnyH _ _ _ _ _ _ _ (Act.put _ (some 128) (.int .i64 (b : Int))) _
              simp only [Act.put, List.setIfInBounds_toArray, List.set_cons_zero, List.set_cons_succ]
              refine wpAnyH_ready (rs := [2, 10]) (by kernel_rfl) (by simp) (AllReadyH.cons rfl (fun K hK => ?_) (AllReadyH.cons rfl (fun K hK => ?_) (AllReadyH.nil)))
              · skip
                go_simp
                refine (text_any (a : Int) _ HIA.out).mono ?_
                rintro e W1 ⟨rfl, hb3⟩
                refine hK.out _ _ (hS0.trans (hb3.mono hS0.size)) (fun hS2 => ?_)
                clear hK K
                simp only [List.setIfInBounds_toArray, List.set_cons_zero, List.set_cons_succ]
                refine wpAnyH_ready (rs := [4, 10]) (by kernel_rfl) (by simp) (AllReadyH.cons rfl (fun K hK => ?_) (AllReadyH.cons rfl (fun K hK => ?_) (AllReadyH.nil)))
                · skip
                  go_simp
                  refine (text_any (b : Int) _ HIB.out).mono ?_
                  rintro e W4 ⟨rfl, hb6⟩
                  refine hK.out _ _ (hS2.trans (hb6.mono hS2.size)) (fun hS5 => ?_)
                  clear hK K
                  simp only [List.setIfInBounds_toArray, List.set_cons_zero, List.set_cons_succ]
                  refine wpAnyH_ready (rs := [5, 10]) (by kernel_rfl) (by simp) (AllReadyH.cons rfl (fun K hK => ?_) (AllReadyH.cons rfl (fun K hK => ?_) (AllReadyH.nil)))
                  · skip
                    go_simp
                    refine (get_new cb Ab nb capb (textOf (a : Int)) (textOf (b : Int)) _ s d2 e0 HGMb.out ((HPb.out.up HB7.out).up hS5) HNb.out HFb.out (text_le _) (text_le _)).mono ?_
                    rintro e W7 ⟨A10, n11, cp12, rfl, hn13, hp14, hb9, hc15⟩
                    refine hK.out _ _ (hS5.trans (hb9.mono hS5.size)) (fun hS8 => ?_)
                    clear hK K
                    simp only [List.setIfInBounds_toArray, List.set_cons_zero, List.set_cons_succ]
                    refine wpAnyH_take (i := 6) (v := .tuple #[.string s, .agg #[.int .i64 d2.width, .int .i64 d2.room, .slice A10 n11 cp12, .int .i64 d2.hits, .int .i64 d2.misses, .int .i64 d2.clashes, .int .i64 d2.evicted], .int .i64 e0]) rfl (by kernel_rfl) (by kernel_rfl) (by kernel_rfl) (fun _ _ _ h => h) (Or.inl ⟨by rfl, fun w' hS' => by exact op_move rfl rfl⟩) hS8 ?_
                    change wpAnyH _ _ _ _ _ _ _ (Act.put _ (some 124) (.tuple #[.string s, .agg #[.int .i64 d2.width, .int .i64 d2.room, .slice A10 n11 cp12, .int .i64 d2.hits, .int .i64 d2.misses, .int .i64 d2.clashes, .int .i64 d2.evicted], .int .i64 e0])) _
                    simp only [Act.put, List.setIfInBounds_toArray, List.set_cons_zero, List.set_cons_succ]
                    refine wpAnyH_take (i := 7) (v := .string s) rfl (by kernel_rfl) (by kernel_rfl) (by kernel_rfl) (fun _ _ _ h => h) (Or.inl ⟨by rfl, fun w' hS' => by go_simp⟩) hS8 ?_
                    change wpAnyH _ _ _ _ _ _ _ (Act.put _ (some 131) (.string s)) _
                    simp only [Act.put, List.setIfInBounds_toArray, List.set_cons_zero, List.set_cons_succ]
                    refine wpAnyH_take (i := 8) (v := .agg #[.int .i64 d2.width, .int .i64 d2.room, .slice A10 n11 cp12, .int .i64 d2.hits, .int .i64 d2.misses, .int .i64 d2.clashes, .int .i64 d2.evicted]) rfl (by kernel_rfl) (by kernel_rfl) (by kernel_rfl) (fun _ _ _ h => h) (Or.inl ⟨by rfl, fun w' hS' => by go_simp⟩) hS8 ?_
                    change wpAnyH _ _ _ _ _ _ _ (Act.put _ (some 132) (.agg #[.int .i64 d2.width, .int .i64 d2.room, .slice A10 n11 cp12, .int .i64 d2.hits, .int .i64 d2.misses, .int .i64 d2.clashes, .int .i64 d2.evicted])) _
                    simp only [Act.put, List.setIfInBounds_toArray, List.set_cons_zero, List.set_cons_succ]
                    refine wpAnyH_take (i := 9) (v := .int .i64 e0) rfl (by kernel_rfl) (by kernel_rfl) (by kernel_rfl) (fun _ _ _ h => h) (Or.inl ⟨by rfl, fun w' hS' => by go_simp⟩) hS8 ?_
                    change wpAnyH _ _ _ _ _ _ _ (Act.put _ (some 133) (.int .i64 e0)) _
                    simp only [Act.put, List.setIfInBounds_toArray, List.set_cons_zero, List.set_cons_succ]
                    refine wpAnyH_ready (rs := [10]) (by kernel_rfl) (by simp) (AllReadyH.cons rfl (fun K hK => ?_) (AllReadyH.nil))
                    · skip
                      obtain ⟨gs17, W16, hr20, hk21, hb19, hg22⟩ := op_allocC W7
                      refine step_op_run (hr20 _ _ rfl) rfl ?_
                      refine hK.out _ _ (hS8.trans (hb19.mono hS8.size)) (fun hS18 => ?_)
                      clear hK K
                      change wpAnyH _ _ _ _ _ _ _ (Act.put _ (some 24) (.pointer (some ⟨gs17, 0, none⟩))) _
                      simp only [Act.put, List.setIfInBounds_toArray, List.set_cons_zero, List.set_cons_succ]
                      refine wpAnyH_take (i := 11) (v := .string s) rfl (by kernel_rfl) (by kernel_rfl) (by kernel_rfl) (fun _ _ _ h => h) (Or.inl ⟨by rfl, fun w' hS' => by exact op_assign rfl rfl⟩) hS18 ?_
                      change wpAnyH _ _ _ _ _ _ _ (Act.put _ (some 23) (.string s)) _
                      simp only [Act.put, List.setIfInBounds_toArray, List.set_cons_zero, List.set_cons_succ]
                      refine wpAnyH_ready (rs := [12]) (by kernel_rfl) (by simp) (AllReadyH.cons rfl (fun K hK => ?_) (AllReadyH.nil))
                      · skip
                        obtain ⟨W23, hr25, hk26, hgr27⟩ := op_store7 hk21 (d2.width) (d2.room) A10 n11 cp12 (d2.hits) (d2.misses) (d2.clashes) (d2.evicted)
                        refine step_op_skip (hr25 _ _ _ _ rfl rfl rfl) rfl ?_
                        refine hK.out _ _ (hS18.grown hgr27 hS18.size (fun b e => by injection e with e; rw [← e]; exact Nat.le_trans (hS8).size hg22)) (fun hS24 => ?_)
                        clear hK K
                        change wpAnyH _ _ _ _ _ _ _ (Act.put _ none (undef)) _
                        simp only [Act.put]
                        refine wpAnyH_take (i := 13) (v := .int .i64 e0) rfl (by kernel_rfl) (by kernel_rfl) (by kernel_rfl) (fun _ _ _ h => h) (Or.inl ⟨by rfl, fun w' hS' => by exact op_assign rfl rfl⟩) hS24 ?_
                        change wpAnyH _ _ _ _ _ _ _ (Act.put _ (some 25) (.int .i64 e0)) _
                        simp only [Act.put, List.setIfInBounds_toArray, List.set_cons_zero, List.set_cons_succ]
                        refine wpAnyH_done (by kernel_rfl) ?_ _
                        refine NoPanic.normal ?_
                        go_wp2_with fail
                        go_meet
                        exact ⟨gs17, A10, n11, cp12, rfl, rfl, rfl, hk26, (((hp14.add hg22).up hb19).kept hgr27 (Or.inr rfl)).less (fun _ hb => .inl (Nat.lt_of_lt_of_le hb (hS5).size)), hn13, hc15, hS24, Nat.le_trans (hS8).size hg22⟩
                  · skip
                    obtain ⟨gs29, W28, hr32, hk33, hb31, hg34⟩ := op_allocC W4
                    refine step_op_run (hr32 _ _ rfl) rfl ?_
                    refine hK.out _ _ (hS5.trans (hb31.mono hS5.size)) (fun hS30 => ?_)
                    clear hK K
                    change wpAnyH _ _ _ _ _ _ _ (Act.put _ (some 24) (.pointer (some ⟨gs29, 0, none⟩))) _
                    simp only [Act.put, List.setIfInBounds_toArray, List.set_cons_zero, List.set_cons_succ]
                    refine wpAnyH_ready (rs := [5]) (by kernel_rfl) (by simp) (AllReadyH.cons rfl (fun K hK => ?_) (AllReadyH.nil))
                    · skip
                      go_simp
                      refine (get_new cb Ab nb capb (textOf (a : Int)) (textOf (b : Int)) _ s d2 e0 HGMb.out ((HPb.out.up HB7.out).up hS30) HNb.out HFb.out (text_le _) (text_le _)).mono ?_
                      rintro e W35 ⟨A38, n39, cp40, rfl, hn41, hp42, hb37, hc43⟩
                      refine hK.out _ _ (hS30.trans (hb37.mono hS30.size)) (fun hS36 => ?_)
                      clear hK K
                      simp only [List.setIfInBounds_toArray, List.set_cons_zero, List.set_cons_succ]
                      refine wpAnyH_take (i := 6) (v := .tuple #[.string s, .agg #[.int .i64 d2.width, .int .i64 d2.room, .slice A38 n39 cp40, .int .i64 d2.hits, .int .i64 d2.misses, .int .i64 d2.clashes, .int .i64 d2.evicted], .int .i64 e0]) rfl (by kernel_rfl) (by kernel_rfl) (by kernel_rfl) (fun _ _ _ h => h) (Or.inl ⟨by rfl, fun w' hS' => by exact op_move rfl rfl⟩) hS36 ?_
                      change wpAnyH _ _ _ _ _ _ _ (Act.put _ (some 124) (.tuple #[.string s, .agg #[.int .i64 d2.width, .int .i64 d2.room, .slice A38 n39 cp40, .int .i64 d2.hits, .int .i64 d2.misses, .int .i64 d2.clashes, .int .i64 d2.evicted], .int .i64 e0])) _
                      simp only [Act.put, List.setIfInBounds_toArray, List.set_cons_zero, List.set_cons_succ]
                      refine wpAnyH_take (i := 7) (v := .string s) rfl (by kernel_rfl) (by kernel_rfl) (by kernel_rfl) (fun _ _ _ h => h) (Or.inl ⟨by rfl, fun w' hS' => by go_simp⟩) hS36 ?_
                      change wpAnyH _ _ _ _ _ _ _ (Act.put _ (some 131) (.string s)) _
                      simp only [Act.put, List.setIfInBounds_toArray, List.set_cons_zero, List.set_cons_succ]
                      refine wpAnyH_take (i := 8) (v := .agg #[.int .i64 d2.width, .int .i64 d2.room, .slice A38 n39 cp40, .int .i64 d2.hits, .int .i64 d2.misses, .int .i64 d2.clashes, .int .i64 d2.evicted]) rfl (by kernel_rfl) (by kernel_rfl) (by kernel_rfl) (fun _ _ _ h => h) (Or.inl ⟨by rfl, fun w' hS' => by go_simp⟩) hS36 ?_
                      change wpAnyH _ _ _ _ _ _ _ (Act.put _ (some 132) (.agg #[.int .i64 d2.width, .int .i64 d2.room, .slice A38 n39 cp40, .int .i64 d2.hits, .int .i64 d2.misses, .int .i64 d2.clashes, .int .i64 d2.evicted])) _
                      simp only [Act.put, List.setIfInBounds_toArray, List.set_cons_zero, List.set_cons_succ]
                      refine wpAnyH_take (i := 9) (v := .int .i64 e0) rfl (by kernel_rfl) (by kernel_rfl) (by kernel_rfl) (fun _ _ _ h => h) (Or.inl ⟨by rfl, fun w' hS' => by go_simp⟩) hS36 ?_
                      change wpAnyH _ _ _ _ _ _ _ (Act.put _ (some 133) (.int .i64 e0)) _
                      simp only [Act.put, List.setIfInBounds_toArray, List.set_cons_zero, List.set_cons_succ]
                      refine wpAnyH_take (i := 11) (v := .string s) rfl (by kernel_rfl) (by kernel_rfl) (by kernel_rfl) (fun _ _ _ h => h) (Or.inl ⟨by rfl, fun w' hS' => by exact op_assign rfl rfl⟩) hS36 ?_
                      change wpAnyH _ _ _ _ _ _ _ (Act.put _ (some 23) (.string s)) _
                      simp only [Act.put, List.setIfInBounds_toArray, List.set_cons_zero, List.set_cons_succ]
                      refine wpAnyH_ready (rs := [12]) (by kernel_rfl) (by simp) (AllReadyH.cons rfl (fun K hK => ?_) (AllReadyH.nil))
                      · skip
                        obtain ⟨W44, hr46, hk47, hgr48⟩ := op_store7 (Blk.below hk33 hb37 hk33.lt) (d2.width) (d2.room) A38 n39 cp40 (d2.hits) (d2.misses) (d2.clashes) (d2.evicted)
                        refine step_op_skip (hr46 _ _ _ _ rfl rfl rfl) rfl ?_
                        refine hK.out _ _ (hS36.grown hgr48 hS36.size (fun b e => by injection e with e; rw [← e]; exact Nat.le_trans (hS5).size hg34)) (fun hS45 => ?_)
                        clear hK K
                        change wpAnyH _ _ _ _ _ _ _ (Act.put _ none (undef)) _
                        simp only [Act.put]
                        refine wpAnyH_take (i := 13) (v := .int .i64 e0) rfl (by kernel_rfl) (by kernel_rfl) (by kernel_rfl) (fun _ _ _ h => h) (Or.inl ⟨by rfl, fun w' hS' => by exact op_assign rfl rfl⟩) hS45 ?_
                        change wpAnyH _ _ _ _ _ _ _ (Act.put _ (some 25) (.int .i64 e0)) _
                        simp only [Act.put, List.setIfInBounds_toArray, List.set_cons_zero, List.set_cons_succ]
                        refine wpAnyH_done (by kernel_rfl) ?_ _
                        refine NoPanic.normal ?_
                        go_wp2_with fail
                        go_meet
                        exact ⟨gs29, A38, n39, cp40, rfl, rfl, rfl, hk47, (hp42.kept hgr48 ((hk33).lt)).less (fun _ hb => Nat.lt_of_lt_of_le hb (hS30).size), hn41, hc43, hS45, Nat.le_trans (hS5).size hg34⟩
                · skip
                  obtain ⟨gs50, W49, hr53, hk54, hb52, hg55⟩ := op_allocC W1
                  refine step_op_run (hr53 _ _ rfl) rfl ?_
                  refine hK.out _ _ (hS2.trans (hb52.mono hS2.size)) (fun hS51 => ?_)
                  clear hK K
                  change wpAnyH _ _ _ _ _ _ _ (Act.put _ (some 24) (.pointer (some ⟨gs50, 0, none⟩))) _
                  simp only [Act.put, List.setIfInBounds_toArray, List.set_cons_zero, List.set_cons_succ]
                  refine wpAnyH_ready (rs := [4]) (by kernel_rfl) (by simp) (AllReadyH.cons rfl (fun K hK => ?_) (AllReadyH.nil))
                  · skip
                    go_simp
                    refine (text_any (b : Int) _ HIB.out).mono ?_
                    rintro e W56 ⟨rfl, hb58⟩
                    refine hK.out _ _ (hS51.trans (hb58.mono hS51.size)) (fun hS57 => ?_)
                    clear hK K
                    simp only [List.setIfInBounds_toArray, List.set_cons_zero, List.set_cons_succ]
                    refine wpAnyH_ready (rs := [5]) (by kernel_rfl) (by simp) (AllReadyH.cons rfl (fun K hK => ?_) (AllReadyH.nil))
                    · skip
                      go_simp
                      refine (get_new cb Ab nb capb (textOf (a : Int)) (textOf (b : Int)) _ s d2 e0 HGMb.out ((HPb.out.up HB7.out).up hS57) HNb.out HFb.out (text_le _) (text_le _)).mono ?_
                      rintro e W59 ⟨A62, n63, cp64, rfl, hn65, hp66, hb61, hc67⟩
                      refine hK.out _ _ (hS57.trans (hb61.mono hS57.size)) (fun hS60 => ?_)
                      clear hK K
                      simp only [List.setIfInBounds_toArray, List.set_cons_zero, List.set_cons_succ]
                      refine wpAnyH_take (i := 6) (v := .tuple #[.string s, .agg #[.int .i64 d2.width, .int .i64 d2.room, .slice A62 n63 cp64, .int .i64 d2.hits, .int .i64 d2.misses, .int .i64 d2.clashes, .int .i64 d2.evicted], .int .i64 e0]) rfl (by kernel_rfl) (by kernel_rfl) (by kernel_rfl) (fun _ _ _ h => h) (Or.inl ⟨by rfl, fun w' hS' => by exact op_move rfl rfl⟩) hS60 ?_
                      change wpAnyH _ _ _ _ _ _ _ (Act.put _ (some 124) (.tuple #[.string s, .agg #[.int .i64 d2.width, .int .i64 d2.room, .slice A62 n63 cp64, .int .i64 d2.hits, .int .i64 d2.misses, .int .i64 d2.clashes, .int .i64 d2.evicted], .int .i64 e0])) _
                      simp only [Act.put, List.setIfInBounds_toArray, List.set_cons_zero, List.set_cons_succ]
                      refine wpAnyH_take (i := 7) (v := .string s) rfl (by kernel_rfl) (by kernel_rfl) (by kernel_rfl) (fun _ _ _ h => h) (Or.inl ⟨by rfl, fun w' hS' => by go_simp⟩) hS60 ?_
                      change wpAnyH _ _ _ _ _ _ _ (Act.put _ (some 131) (.string s)) _
                      simp only [Act.put, List.setIfInBounds_toArray, List.set_cons_zero, List.set_cons_succ]
                      refine wpAnyH_take (i := 8) (v := .agg #[.int .i64 d2.width, .int .i64 d2.room, .slice A62 n63 cp64, .int .i64 d2.hits, .int .i64 d2.misses, .int .i64 d2.clashes, .int .i64 d2.evicted]) rfl (by kernel_rfl) (by kernel_rfl) (by kernel_rfl) (fun _ _ _ h => h) (Or.inl ⟨by rfl, fun w' hS' => by go_simp⟩) hS60 ?_
                      change wpAnyH _ _ _ _ _ _ _ (Act.put _ (some 132) (.agg #[.int .i64 d2.width, .int .i64 d2.room, .slice A62 n63 cp64, .int .i64 d2.hits, .int .i64 d2.misses, .int .i64 d2.clashes, .int .i64 d2.evicted])) _
                      simp only [Act.put, List.setIfInBounds_toArray, List.set_cons_zero, List.set_cons_succ]
                      refine wpAnyH_take (i := 9) (v := .int .i64 e0) rfl (by kernel_rfl) (by kernel_rfl) (by kernel_rfl) (fun _ _ _ h => h) (Or.inl ⟨by rfl, fun w' hS' => by go_simp⟩) hS60 ?_
                      change wpAnyH _ _ _ _ _ _ _ (Act.put _ (some 133) (.int .i64 e0)) _
                      simp only [Act.put, List.setIfInBounds_toArray, List.set_cons_zero, List.set_cons_succ]
                      refine wpAnyH_take (i := 11) (v := .string s) rfl (by kernel_rfl) (by kernel_rfl) (by kernel_rfl) (fun _ _ _ h => h) (Or.inl ⟨by rfl, fun w' hS' => by exact op_assign rfl rfl⟩) hS60 ?_
                      change wpAnyH _ _ _ _ _ _ _ (Act.put _ (some 23) (.string s)) _
                      simp only [Act.put, List.setIfInBounds_toArray, List.set_cons_zero, List.set_cons_succ]
                      refine wpAnyH_ready (rs := [12]) (by kernel_rfl) (by simp) (AllReadyH.cons rfl (fun K hK => ?_) (AllReadyH.nil))
                      · skip
                        obtain ⟨W68, hr70, hk71, hgr72⟩ := op_store7 (Blk.below (Blk.below hk54 hb58 hk54.lt) hb61 (Blk.below hk54 hb58 hk54.lt).lt) (d2.width) (d2.room) A62 n63 cp64 (d2.hits) (d2.misses) (d2.clashes) (d2.evicted)
                        refine step_op_skip (hr70 _ _ _ _ rfl rfl rfl) rfl ?_
                        refine hK.out _ _ (hS60.grown hgr72 hS60.size (fun b e => by injection e with e; rw [← e]; exact Nat.le_trans (hS2).size hg55)) (fun hS69 => ?_)
                        clear hK K
                        change wpAnyH _ _ _ _ _ _ _ (Act.put _ none (undef)) _
                        simp only [Act.put]
                        refine wpAnyH_take (i := 13) (v := .int .i64 e0) rfl (by kernel_rfl) (by kernel_rfl) (by kernel_rfl) (fun _ _ _ h => h) (Or.inl ⟨by rfl, fun w' hS' => by exact op_assign rfl rfl⟩) hS69 ?_
                        change wpAnyH _ _ _ _ _ _ _ (Act.put _ (some 25) (.int .i64 e0)) _
                        simp only [Act.put, List.setIfInBounds_toArray, List.set_cons_zero, List.set_cons_succ]
                        refine wpAnyH_done (by kernel_rfl) ?_ _
                        refine NoPanic.normal ?_
                        go_wp2_with fail
                        go_meet
                        exact ⟨gs50, A62, n63, cp64, rfl, rfl, rfl, hk71, (hp66.kept hgr72 (((Blk.below hk54 hb58 hk54.lt)).lt)).less (fun _ hb => Nat.lt_of_lt_of_le hb (hS57).size), hn65, hc67, hS69, Nat.le_trans (hS2).size hg55⟩
              · skip
                obtain ⟨gs74, W73, hr77, hk78, hb76, hg79⟩ := op_allocC w7.drew
                refine step_op_run (hr77 _ _ rfl) rfl ?_
                refine hK.out _ _ (hS0.trans (hb76.mono hS0.size)) (fun hS75 => ?_)
                clear hK K
                change wpAnyH _ _ _ _ _ _ _ (Act.put _ (some 24) (.pointer (some ⟨gs74, 0, none⟩))) _
                simp only [Act.put, List.setIfInBounds_toArray, List.set_cons_zero, List.set_cons_succ]
                refine wpAnyH_ready (rs := [2]) (by kernel_rfl) (by simp) (AllReadyH.cons rfl (fun K hK => ?_) (AllReadyH.nil))
                · skip
                  go_simp
                  refine (text_any (a : Int) _ HIA.out).mono ?_
                  rintro e W80 ⟨rfl, hb82⟩
                  refine hK.out _ _ (hS75.trans (hb82.mono hS75.size)) (fun hS81 => ?_)
                  clear hK K
                  simp only [List.setIfInBounds_toArray, List.set_cons_zero, List.set_cons_succ]
                  refine wpAnyH_ready (rs := [4]) (by kernel_rfl) (by simp) (AllReadyH.cons rfl (fun K hK => ?_) (AllReadyH.nil))
                  · skip
                    go_simp
                    refine (text_any (b : Int) _ HIB.out).mono ?_
                    rintro e W83 ⟨rfl, hb85⟩
                    refine hK.out _ _ (hS81.trans (hb85.mono hS81.size)) (fun hS84 => ?_)
                    clear hK K
                    simp only [List.setIfInBounds_toArray, List.set_cons_zero, List.set_cons_succ]
                    refine wpAnyH_ready (rs := [5]) (by kernel_rfl) (by simp) (AllReadyH.cons rfl (fun K hK => ?_) (AllReadyH.nil))
                    · skip
                      go_simp
                      refine (get_new cb Ab nb capb (textOf (a : Int)) (textOf (b : Int)) _ s d2 e0 HGMb.out ((HPb.out.up HB7.out).up hS84) HNb.out HFb.out (text_le _) (text_le _)).mono ?_
                      rintro e W86 ⟨A89, n90, cp91, rfl, hn92, hp93, hb88, hc94⟩
                      refine hK.out _ _ (hS84.trans (hb88.mono hS84.size)) (fun hS87 => ?_)
                      clear hK K
                      simp only [List.setIfInBounds_toArray, List.set_cons_zero, List.set_cons_succ]
                      refine wpAnyH_take (i := 6) (v := .tuple #[.string s, .agg #[.int .i64 d2.width, .int .i64 d2.room, .slice A89 n90 cp91, .int .i64 d2.hits, .int .i64 d2.misses, .int .i64 d2.clashes, .int .i64 d2.evicted], .int .i64 e0]) rfl (by kernel_rfl) (by kernel_rfl) (by kernel_rfl) (fun _ _ _ h => h) (Or.inl ⟨by rfl, fun w' hS' => by exact op_move rfl rfl⟩) hS87 ?_
                      change wpAnyH _ _ _ _ _ _ _ (Act.put _ (some 124) (.tuple #[.string s, .agg #[.int .i64 d2.width, .int .i64 d2.room, .slice A89 n90 cp91, .int .i64 d2.hits, .int .i64 d2.misses, .int .i64 d2.clashes, .int .i64 d2.evicted], .int .i64 e0])) _
                      simp only [Act.put, List.setIfInBounds_toArray, List.set_cons_zero, List.set_cons_succ]
                      refine wpAnyH_take (i := 7) (v := .string s) rfl (by kernel_rfl) (by kernel_rfl) (by kernel_rfl) (fun _ _ _ h => h) (Or.inl ⟨by rfl, fun w' hS' => by go_simp⟩) hS87 ?_
                      change wpAnyH _ _ _ _ _ _ _ (Act.put _ (some 131) (.string s)) _
                      simp only [Act.put, List.setIfInBounds_toArray, List.set_cons_zero, List.set_cons_succ]
                      refine wpAnyH_take (i := 8) (v := .agg #[.int .i64 d2.width, .int .i64 d2.room, .slice A89 n90 cp91, .int .i64 d2.hits, .int .i64 d2.misses, .int .i64 d2.clashes, .int .i64 d2.evicted]) rfl (by kernel_rfl) (by kernel_rfl) (by kernel_rfl) (fun _ _ _ h => h) (Or.inl ⟨by rfl, fun w' hS' => by go_simp⟩) hS87 ?_
                      change wpAnyH _ _ _ _ _ _ _ (Act.put _ (some 132) (.agg #[.int .i64 d2.width, .int .i64 d2.room, .slice A89 n90 cp91, .int .i64 d2.hits, .int .i64 d2.misses, .int .i64 d2.clashes, .int .i64 d2.evicted])) _
                      simp only [Act.put, List.setIfInBounds_toArray, List.set_cons_zero, List.set_cons_succ]
                      refine wpAnyH_take (i := 9) (v := .int .i64 e0) rfl (by kernel_rfl) (by kernel_rfl) (by kernel_rfl) (fun _ _ _ h => h) (Or.inl ⟨by rfl, fun w' hS' => by go_simp⟩) hS87 ?_
                      change wpAnyH _ _ _ _ _ _ _ (Act.put _ (some 133) (.int .i64 e0)) _
                      simp only [Act.put, List.setIfInBounds_toArray, List.set_cons_zero, List.set_cons_succ]
                      refine wpAnyH_take (i := 11) (v := .string s) rfl (by kernel_rfl) (by kernel_rfl) (by kernel_rfl) (fun _ _ _ h => h) (Or.inl ⟨by rfl, fun w' hS' => by exact op_assign rfl rfl⟩) hS87 ?_
                      change wpAnyH _ _ _ _ _ _ _ (Act.put _ (some 23) (.string s)) _
                      simp only [Act.put, List.setIfInBounds_toArray, List.set_cons_zero, List.set_cons_succ]
                      refine wpAnyH_ready (rs := [12]) (by kernel_rfl) (by simp) (AllReadyH.cons rfl (fun K hK => ?_) (AllReadyH.nil))
                      · skip
                        obtain ⟨W95, hr97, hk98, hgr99⟩ := op_store7 (Blk.below (Blk.below (Blk.below hk78 hb82 hk78.lt) hb85 (Blk.below hk78 hb82 hk78.lt).lt) hb88 (Blk.below (Blk.below hk78 hb82 hk78.lt) hb85 (Blk.below hk78 hb82 hk78.lt).lt).lt) (d2.width) (d2.room) A89 n90 cp91 (d2.hits) (d2.misses) (d2.clashes) (d2.evicted)
                        refine step_op_skip (hr97 _ _ _ _ rfl rfl rfl) rfl ?_
                        refine hK.out _ _ (hS87.grown hgr99 hS87.size (fun b e => by injection e with e; rw [← e]; exact Nat.le_trans (hS0).size hg79)) (fun hS96 => ?_)
                        clear hK K
                        change wpAnyH _ _ _ _ _ _ _ (Act.put _ none (undef)) _
                        simp only [Act.put]
                        refine wpAnyH_take (i := 13) (v := .int .i64 e0) rfl (by kernel_rfl) (by kernel_rfl) (by kernel_rfl) (fun _ _ _ h => h) (Or.inl ⟨by rfl, fun w' hS' => by exact op_assign rfl rfl⟩) hS96 ?_
                        change wpAnyH _ _ _ _ _ _ _ (Act.put _ (some 25) (.int .i64 e0)) _
                        simp only [Act.put, List.setIfInBounds_toArray, List.set_cons_zero, List.set_cons_succ]
                        refine wpAnyH_done (by kernel_rfl) ?_ _
                        refine NoPanic.normal ?_
                        go_wp2_with fail
                        go_meet
                        exact ⟨gs74, A89, n90, cp91, rfl, rfl, rfl, hk98, (hp93.kept hgr99 (((Blk.below (Blk.below hk78 hb82 hk78.lt) hb85 (Blk.below hk78 hb82 hk78.lt).lt)).lt)).less (fun _ hb => Nat.lt_of_lt_of_le hb (hS84).size), hn92, hc94, hS96, Nat.le_trans (hS0).size hg79⟩
            case rest =>
              obtain ⟨g2, A2, n2, c2, rfl, rfl, rfl, hb2, hp2, hn2, hc2, hbw, hge⟩ := hcut
              obtain ⟨w8, rfl⟩ : ∃ w8, w8 = wc := ⟨_, rfl⟩
              have HB8 := Lib.hid (below_step HB7.out hbw)
              have HG1 := Lib.hid (Blk.below HR1.out hbw HR1.out.lt)
              have HG2 := Lib.hid hb2
              have HQ1 := Lib.hid (HS1.out.up hbw)
              have HQ2 := Lib.hid hp2
              have HM2 := Lib.hid hn2
              have HO2 := Lib.hid hc2
              have HBA := Lib.hid (Blk.below HBa.out HB8.out HBa.out.lt)
              have HBB := Lib.hid (Blk.below HBb.out HB8.out HBb.out.lt)
              have HGP := Lib.hid (Blk.below HBp.out HB8.out HBp.out.lt)
              have HW8 : Hid (Below w2.heap.size w2 w8) := Lib.hid (below_step HI.out.1 HB8.out)
              have HLT : Hid (ga < w6.heap.size ∧ gb < w6.heap.size ∧ gp < w6.heap.size) := Lib.hid ⟨Nat.lt_of_lt_of_le HBa.out.lt HB6.out.size, Nat.lt_of_lt_of_le HBb.out.lt HB6.out.size, Nat.lt_of_lt_of_le HBp.out.lt HB6.out.size⟩
              have HNE : Hid (g1 ≠ ga ∧ g2 ≠ ga ∧ g2 ≠ gb) := Lib.hid (by have h1 := HLT.out; have h2 := HE1.out; have h3 := HB67.out.size; omega)
              clear hbw hb2 hp2 hn2 hc2 hge
              have na : ¬ ((6 : Int) ≤ (a : Int)) := by have := HAB.out.1; omega
              have nb : ¬ ((6 : Int) ≤ (b : Int)) := by have := HAB.out.2; omega
              obtain ⟨pv, hpv⟩ : ∃ pv, (V a b).isSome = pv := ⟨_, rfl⟩
              have zl : w8.cell? ⟨gp, a * 6 + b, none⟩ = some (.bool pv) := (Blk.cell HGP.out _).trans (by rw [← hpv]; exact HLL.out.2 a b HAB.out.1 HAB.out.2)
              have hll := HGP.out.lt
              have HCODE2 : Hid ((e0 = 0 ∧ pv = true) ∨ (e0 = 10 ∧ pv = false)) := Lib.hid (by rw [← hpv]; exact HCODE.out)
              clear hpv
              rcases HCODE2.out with ⟨rfl, rfl⟩ | ⟨rfl, rfl⟩
              · as_aux_lemma =>
                go_upto_region 24 with (fail)
                clear zl hll na nb
                have hne1 : g1 ≠ ga := HNE.out.1
                obtain ⟨x0, x1, x2, x3, x4, x5, x6⟩ := box7 HG1.out (Below.refl _ _)
                obtain ⟨y0, y1, y2, y3, y4, y5, y6⟩ := box7 HBA.out (Below.refl _ _)
                have q0 := Blk.frozen HBA.out 0
                have q1 := Blk.frozen HBA.out 1
                have q2 := Blk.frozen HBA.out 2
                have q3 := Blk.frozen HBA.out 3
                have q4 := Blk.frozen HBA.out 4
                have q5 := Blk.frozen HBA.out 5
                have q6 := Blk.frozen HBA.out 6
                have hla := HBA.out.lt
                have HSA := Lib.hid (set7 HBA.out d1.width d1.room A1 n1 c1 d1.hits d1.misses d1.clashes d1.evicted)
                go_upto_region 25 with (fail)
                obtain ⟨w9, hw9⟩ : ∃ w9, w9 = (((((((w8.setCell ⟨ga, 0, none⟩ (.int .i64 d1.width)).setCell ⟨ga, 1, none⟩ (.int .i64 d1.room)).setCell ⟨ga, 2, none⟩ (.slice A1 n1 c1)).setCell ⟨ga, 3, none⟩ (.int .i64 d1.hits)).setCell ⟨ga, 4, none⟩ (.int .i64 d1.misses)).setCell ⟨ga, 5, none⟩ (.int .i64 d1.clashes)).setCell ⟨ga, 6, none⟩ (.int .i64 d1.evicted)) := ⟨_, rfl⟩
                rw [← hw9] at HSA ⊢
                clear hw9 x0 y0 q0 x1 y1 q1 x2 y2 q2 x3 y3 q3 x4 y4 q4 x5 y5 q5 x6 y6 q6 hla
                have hb9 := Blk.grown HBB.out HSA.out.2 (fun e => HG.out.2.2.2.1 (Option.some.inj e))
                have hg9 := Blk.grown HG2.out HSA.out.2 (fun e => HNE.out.2.1 (Option.some.inj e))
                have HBB9 := Lib.hid hb9
                obtain ⟨x0, x1, x2, x3, x4, x5, x6⟩ := box7 hg9 (Below.refl _ _)
                obtain ⟨y0, y1, y2, y3, y4, y5, y6⟩ := box7 hb9 (Below.refl _ _)
                have q0 := Blk.frozen HBB9.out 0
                have q1 := Blk.frozen HBB9.out 1
                have q2 := Blk.frozen HBB9.out 2
                have q3 := Blk.frozen HBB9.out 3
                have q4 := Blk.frozen HBB9.out 4
                have q5 := Blk.frozen HBB9.out 5
                have q6 := Blk.frozen HBB9.out 6
                have hne2 : g2 ≠ gb := HNE.out.2.2
                have hlb := hb9.lt
                have HSB := Lib.hid (set7 hb9 d2.width d2.room A2 n2 c2 d2.hits d2.misses d2.clashes d2.evicted)
                clear hb9 hg9
                have HXA := Lib.hid (Blk.grown HSA.out.1 HSB.out.2 (fun e => HG.out.2.2.2.1 (Option.some.inj e).symm))
                have HXB := Lib.hid HSB.out.1
                have HXP := Lib.hid (Blk.grown (Blk.grown HGP.out HSA.out.2 (fun e => HG.out.2.2.2.2.1 (Option.some.inj e))) HSB.out.2 (fun e => HG.out.2.2.2.2.2 (Option.some.inj e)))
                have HXW := Lib.hid (((HW8.out.grown HSA.out.2 HW8.out.size (fun b e => by injection e with e; rw [← e]; exact HG.out.1))).grown HSB.out.2 (Nat.le_trans HW8.out.size HSA.out.2.size) (fun b e => by injection e with e; rw [← e]; exact HG.out.2.1))
                have HXP1 := Lib.hid (((HQ1.out.kept HSA.out.2 (show ga < w6.heap.size from HLT.out.1)).kept HSB.out.2 (show gb < w6.heap.size from HLT.out.2.1)).less (fun b hb => by rcases hb with e | e | e <;> rw [e]; exact HLT.out.1; exact HLT.out.2.1; exact HLT.out.2.2) : PartsAt (fun x => x = ga ∨ x = gb ∨ x = gp) _ A1 d1.parts)
                have HXP2 := Lib.hid (((HQ2.out.kept HSA.out.2 (show ga < w7.heap.size from Nat.lt_of_lt_of_le HLT.out.1 HB67.out.size)).kept HSB.out.2 (show gb < w7.heap.size from Nat.lt_of_lt_of_le HLT.out.2.1 HB67.out.size)).less (fun b hb => by rcases hb with e | e | e <;> rw [e]; exact Nat.lt_of_lt_of_le HLT.out.1 HB67.out.size; exact Nat.lt_of_lt_of_le HLT.out.2.1 HB67.out.size; exact Nat.lt_of_lt_of_le HLT.out.2.2 HB67.out.size) : PartsAt (fun x => x = ga ∨ x = gb ∨ x = gp) _ A2 d2.parts)
                have HI2 : Hid (Below w2.heap.size w2 _ ∧ Boxed (fun x => x = ga ∨ x = gb ∨ x = gp) _ ga d1 ∧ Boxed (fun x => x = ga ∨ x = gb ∨ x = gp) _ gb d2 ∧ Blk _ gp 53 ls) := Lib.hid
                  ⟨HXW.out, ⟨A1, n1, c1, HXA.out, HXP1.out, HM1.out, HO1.out⟩, ⟨A2, n2, c2, HXB.out, HXP2.out, HM2.out, HO2.out⟩, HXP.out⟩
                go_wp2_with fail
                go_roundw
                case rel => exact ⟨k + 1, d1, d2, V, ls, by omega, by omega, by go_num, HPR2, HLL, HI2⟩
                case measure => simp [intOf]; omega
              · as_aux_lemma =>
                go_upto_region 24 with (fail)
                clear zl hll na nb
                have hne1 : g1 ≠ ga := HNE.out.1
                obtain ⟨x0, x1, x2, x3, x4, x5, x6⟩ := box7 HG1.out (Below.refl _ _)
                obtain ⟨y0, y1, y2, y3, y4, y5, y6⟩ := box7 HBA.out (Below.refl _ _)
                have q0 := Blk.frozen HBA.out 0
                have q1 := Blk.frozen HBA.out 1
                have q2 := Blk.frozen HBA.out 2
                have q3 := Blk.frozen HBA.out 3
                have q4 := Blk.frozen HBA.out 4
                have q5 := Blk.frozen HBA.out 5
                have q6 := Blk.frozen HBA.out 6
                have hla := HBA.out.lt
                have HSA := Lib.hid (set7 HBA.out d1.width d1.room A1 n1 c1 d1.hits d1.misses d1.clashes d1.evicted)
                go_upto_region 25 with (fail)
                obtain ⟨w9, hw9⟩ : ∃ w9, w9 = (((((((w8.setCell ⟨ga, 0, none⟩ (.int .i64 d1.width)).setCell ⟨ga, 1, none⟩ (.int .i64 d1.room)).setCell ⟨ga, 2, none⟩ (.slice A1 n1 c1)).setCell ⟨ga, 3, none⟩ (.int .i64 d1.hits)).setCell ⟨ga, 4, none⟩ (.int .i64 d1.misses)).setCell ⟨ga, 5, none⟩ (.int .i64 d1.clashes)).setCell ⟨ga, 6, none⟩ (.int .i64 d1.evicted)) := ⟨_, rfl⟩
                rw [← hw9] at HSA ⊢
                clear hw9 x0 y0 q0 x1 y1 q1 x2 y2 q2 x3 y3 q3 x4 y4 q4 x5 y5 q5 x6 y6 q6 hla
                have hb9 := Blk.grown HBB.out HSA.out.2 (fun e => HG.out.2.2.2.1 (Option.some.inj e))
                have hg9 := Blk.grown HG2.out HSA.out.2 (fun e => HNE.out.2.1 (Option.some.inj e))
                have HBB9 := Lib.hid hb9
                obtain ⟨x0, x1, x2, x3, x4, x5, x6⟩ := box7 hg9 (Below.refl _ _)
                obtain ⟨y0, y1, y2, y3, y4, y5, y6⟩ := box7 hb9 (Below.refl _ _)
                have q0 := Blk.frozen HBB9.out 0
                have q1 := Blk.frozen HBB9.out 1
                have q2 := Blk.frozen HBB9.out 2
                have q3 := Blk.frozen HBB9.out 3
                have q4 := Blk.frozen HBB9.out 4
                have q5 := Blk.frozen HBB9.out 5
                have q6 := Blk.frozen HBB9.out 6
                have hne2 : g2 ≠ gb := HNE.out.2.2
                have hlb := hb9.lt
                have HSB := Lib.hid (set7 hb9 d2.width d2.room A2 n2 c2 d2.hits d2.misses d2.clashes d2.evicted)
                clear hb9 hg9
                have HXA := Lib.hid (Blk.grown HSA.out.1 HSB.out.2 (fun e => HG.out.2.2.2.1 (Option.some.inj e).symm))
                have HXB := Lib.hid HSB.out.1
                have HXP := Lib.hid (Blk.grown (Blk.grown HGP.out HSA.out.2 (fun e => HG.out.2.2.2.2.1 (Option.some.inj e))) HSB.out.2 (fun e => HG.out.2.2.2.2.2 (Option.some.inj e)))
                have HXW := Lib.hid (((HW8.out.grown HSA.out.2 HW8.out.size (fun b e => by injection e with e; rw [← e]; exact HG.out.1))).grown HSB.out.2 (Nat.le_trans HW8.out.size HSA.out.2.size) (fun b e => by injection e with e; rw [← e]; exact HG.out.2.1))
                have HXP1 := Lib.hid (((HQ1.out.kept HSA.out.2 (show ga < w6.heap.size from HLT.out.1)).kept HSB.out.2 (show gb < w6.heap.size from HLT.out.2.1)).less (fun b hb => by rcases hb with e | e | e <;> rw [e]; exact HLT.out.1; exact HLT.out.2.1; exact HLT.out.2.2) : PartsAt (fun x => x = ga ∨ x = gb ∨ x = gp) _ A1 d1.parts)
                have HXP2 := Lib.hid (((HQ2.out.kept HSA.out.2 (show ga < w7.heap.size from Nat.lt_of_lt_of_le HLT.out.1 HB67.out.size)).kept HSB.out.2 (show gb < w7.heap.size from Nat.lt_of_lt_of_le HLT.out.2.1 HB67.out.size)).less (fun b hb => by rcases hb with e | e | e <;> rw [e]; exact Nat.lt_of_lt_of_le HLT.out.1 HB67.out.size; exact Nat.lt_of_lt_of_le HLT.out.2.1 HB67.out.size; exact Nat.lt_of_lt_of_le HLT.out.2.2 HB67.out.size) : PartsAt (fun x => x = ga ∨ x = gb ∨ x = gp) _ A2 d2.parts)
                have HI2 : Hid (Below w2.heap.size w2 _ ∧ Boxed (fun x => x = ga ∨ x = gb ∨ x = gp) _ ga d1 ∧ Boxed (fun x => x = ga ∨ x = gb ∨ x = gp) _ gb d2 ∧ Blk _ gp 53 ls) := Lib.hid
                  ⟨HXW.out, ⟨A1, n1, c1, HXA.out, HXP1.out, HM1.out, HO1.out⟩, ⟨A2, n2, c2, HXB.out, HXP2.out, HM2.out, HO2.out⟩, HXP.out⟩
                go_wp2_with fail
                go_roundw
                case rel => exact ⟨k + 1, d1, d2, V, ls, by omega, by omega, by go_num, HPR2, HLL, HI2⟩
                case measure => simp [intOf]; omega
      · as_aux_lemma =>
        have g3 : ¬ (k : Int) < 30 := by omega
        obtain ⟨sz, hsz⟩ : ∃ n, sizeC ca = n := ⟨_, rfl⟩
        have HSZa := Lib.hid hsz
        have HSZb : Hid (sizeC cb = sz) := Lib.hid (by rw [← hsz]; exact HPR.out.size.symm)
        have f1 : ((ca.evicted == 0) : Bool) = true := by rw [HPR.out.one.evicted]; rfl
        have f2 : ((cb.evicted == 0) : Bool) = true := by rw [HPR.out.two.evicted]; rfl
        have f3 : ((ca.clashes == 0) : Bool) = true := by rw [HPR.out.one.clashes]; rfl
        have f4 : ((cb.clashes == 0) : Bool) = true := by rw [HPR.out.two.clashes]; rfl
        have f5 : ((ca.hits == cb.hits) : Bool) = true := by rw [beq_iff_eq]; exact HPR.out.hits
        have f6 : ((ca.misses == cb.misses) : Bool) = true := by rw [beq_iff_eq]; exact HPR.out.misses
        clear hsz
        go_wp2_with fail
        refine wp_region_noPanic ?_
        refine wp_region_held_drew (S := fun W => Below w4.heap.size w4 W) (by kernel_rfl) ((Below.refl w4.heap.size w4).drew) (fun hS0 => ?_)
        change wpAnyH _ _ _ _ _ 43 #[false, false, false, false, false, false, false, false, false, false, false, false, false, false, false, false, false, false, false, false, false, false, false, false, false, false, false, false, false, false, false, false, false, false, false, false, false, false, false, false, false, false, false] _ (World.drew _)
        refine wpAnyH_take (i := 0) (v := .bool true) rfl (by kernel_rfl) (by kernel_rfl) (by kernel_rfl) (fun _ _ _ h => h) (Or.inl ⟨by rfl, fun w' hS' => by exact op_move rfl rfl⟩) hS0 ?_
        change wpAnyH _ _ _ _ _ _ _ (Act.put _ (some 154) (.bool true)) _
        simp only [Act.put, List.setIfInBounds_toArray, List.set_cons_zero, List.set_cons_succ]
        refine wpAnyH_take (i := 1) (v := .bool true) rfl (by kernel_rfl) (by kernel_rfl) (by kernel_rfl) (fun _ _ _ h => h) (Or.inl ⟨by rfl, fun w' hS' => by exact op_move rfl rfl⟩) hS0 ?_
        change wpAnyH _ _ _ _ _ _ _ (Act.put _ (some 155) (.bool true)) _
        simp only [Act.put, List.setIfInBounds_toArray, List.set_cons_zero, List.set_cons_succ]
        refine wpAnyH_take (i := 2) (v := .agg #[.int .i64 ca.width, .int .i64 ca.room, .slice Aa na capa, .int .i64 ca.hits, .int .i64 ca.misses, .int .i64 ca.clashes, .int .i64 ca.evicted]) rfl (by kernel_rfl) (by kernel_rfl) (by kernel_rfl) (fun _ _ _ h => h) (Or.inl ⟨by rfl, fun w' hS' => by obtain ⟨y0, y1, y2, y3, y4, y5, y6⟩ := HCA0.out _ hS'; go_simp⟩) hS0 ?_
        change wpAnyH _ _ _ _ _ _ _ (Act.put _ (some 156) (.agg #[.int .i64 ca.width, .int .i64 ca.room, .slice Aa na capa, .int .i64 ca.hits, .int .i64 ca.misses, .int .i64 ca.clashes, .int .i64 ca.evicted])) _
        simp only [Act.put, List.setIfInBounds_toArray, List.set_cons_zero, List.set_cons_succ]
        refine wpAnyH_take (i := 4) (v := .agg #[.int .i64 cb.width, .int .i64 cb.room, .slice Ab nb capb, .int .i64 cb.hits, .int .i64 cb.misses, .int .i64 cb.clashes, .int .i64 cb.evicted]) rfl (by kernel_rfl) (by kernel_rfl) (by kernel_rfl) (fun _ _ _ h => h) (Or.inl ⟨by rfl, fun w' hS' => by obtain ⟨y0, y1, y2, y3, y4, y5, y6⟩ := HCB0.out _ hS'; go_simp⟩) hS0 ?_
        change wpAnyH _ _ _ _ _ _ _ (Act.put _ (some 158) (.agg #[.int .i64 cb.width, .int .i64 cb.room, .slice Ab nb capb, .int .i64 cb.hits, .int .i64 cb.misses, .int .i64 cb.clashes, .int .i64 cb.evicted])) _
        simp only [Act.put, List.setIfInBounds_toArray, List.set_cons_zero, List.set_cons_succ]
        refine wpAnyH_ready (rs := [3]) (by kernel_rfl) (by simp) (AllReadyH.cons rfl (fun K hK => ?_) (AllReadyH.nil))
        · skip
          go_simp
          refine (sizeC_any ca Aa na capa _ (HPa.out.up hS0) HNa.out HFa.out).mono ?_
          rintro e W1 ⟨rfl, hb3⟩
          rw [HSZa.out]
          refine hK.out _ _ (hS0.trans (hb3.mono hS0.size)) (fun hS2 => ?_)
          clear hK K
          simp only [List.setIfInBounds_toArray, List.set_cons_zero, List.set_cons_succ]
          refine wpAnyH_ready (rs := [5]) (by kernel_rfl) (by simp) (AllReadyH.cons rfl (fun K hK => ?_) (AllReadyH.nil))
          · skip
            go_simp
            refine (sizeC_any cb Ab nb capb _ (HPb.out.up hS2) HNb.out HFb.out).mono ?_
            rintro e W4 ⟨rfl, hb6⟩
            rw [HSZb.out]
            refine hK.out _ _ (hS2.trans (hb6.mono hS2.size)) (fun hS5 => ?_)
            clear hK K
            simp only [List.setIfInBounds_toArray, List.set_cons_zero, List.set_cons_succ]
            refine wpAnyH_take (i := 6) (v := .bool true) rfl (by kernel_rfl) (by kernel_rfl) (by kernel_rfl) (fun _ _ _ h => h) (Or.inl ⟨by rfl, fun w' hS' => by go_simp⟩) hS5 ?_
            change wpAnyH _ _ _ _ _ _ _ (Act.put _ (some 160) (.bool true)) _
            simp only [Act.put, List.setIfInBounds_toArray, List.set_cons_zero, List.set_cons_succ]
            refine wpAnyH_take (i := 7) (v := .bool true) rfl (by kernel_rfl) (by kernel_rfl) (by kernel_rfl) (fun _ _ _ h => h) (Or.inl ⟨by rfl, fun w' hS' => by go_simp⟩) hS5 ?_
            change wpAnyH _ _ _ _ _ _ _ (Act.put _ (some 161) (.bool true)) _
            simp only [Act.put, List.setIfInBounds_toArray, List.set_cons_zero, List.set_cons_succ]
            refine wpAnyH_take (i := 8) (v := .bool true) rfl (by kernel_rfl) (by kernel_rfl) (by kernel_rfl) (fun _ _ _ h => h) (Or.inl ⟨by rfl, fun w' hS' => by exact op_move rfl rfl⟩) hS5 ?_
            change wpAnyH _ _ _ _ _ _ _ (Act.put _ (some 162) (.bool true)) _
            simp only [Act.put, List.setIfInBounds_toArray, List.set_cons_zero, List.set_cons_succ]
            refine wpAnyH_take (i := 9) (v := .pointer (some ⟨ga, 6, none⟩)) rfl (by kernel_rfl) (by kernel_rfl) (by kernel_rfl) (fun _ _ _ h => h) (Or.inl ⟨by rfl, fun w' hS' => by go_simp⟩) hS5 ?_
            change wpAnyH _ _ _ _ _ _ _ (Act.put _ (some 163) (.pointer (some ⟨ga, 6, none⟩))) _
            simp only [Act.put, List.setIfInBounds_toArray, List.set_cons_zero, List.set_cons_succ]
            refine wpAnyH_take (i := 10) (v := .int .i64 ca.evicted) rfl (by kernel_rfl) (by kernel_rfl) (by kernel_rfl) (fun _ _ _ h => h) (Or.inl ⟨by rfl, fun w' hS' => by obtain ⟨y0, y1, y2, y3, y4, y5, y6⟩ := HCA0.out _ hS'; go_simp⟩) hS5 ?_
            change wpAnyH _ _ _ _ _ _ _ (Act.put _ (some 164) (.int .i64 ca.evicted)) _
            simp only [Act.put, List.setIfInBounds_toArray, List.set_cons_zero, List.set_cons_succ]
            refine wpAnyH_take (i := 11) (v := .bool true) rfl (by kernel_rfl) (by kernel_rfl) (by kernel_rfl) (fun _ _ _ h => h) (Or.inl ⟨by rfl, fun w' hS' => by go_simp⟩) hS5 ?_
            change wpAnyH _ _ _ _ _ _ _ (Act.put _ (some 165) (.bool true)) _
            simp only [Act.put, List.setIfInBounds_toArray, List.set_cons_zero, List.set_cons_succ]
            refine wpAnyH_take (i := 12) (v := .bool true) rfl (by kernel_rfl) (by kernel_rfl) (by kernel_rfl) (fun _ _ _ h => h) (Or.inl ⟨by rfl, fun w' hS' => by go_simp⟩) hS5 ?_
            change wpAnyH _ _ _ _ _ _ _ (Act.put _ (some 166) (.bool true)) _
            simp only [Act.put, List.setIfInBounds_toArray, List.set_cons_zero, List.set_cons_succ]
            refine wpAnyH_take (i := 13) (v := .bool true) rfl (by kernel_rfl) (by kernel_rfl) (by kernel_rfl) (fun _ _ _ h => h) (Or.inl ⟨by rfl, fun w' hS' => by exact op_move rfl rfl⟩) hS5 ?_
            change wpAnyH _ _ _ _ _ _ _ (Act.put _ (some 167) (.bool true)) _
            simp only [Act.put, List.setIfInBounds_toArray, List.set_cons_zero, List.set_cons_succ]
            refine wpAnyH_take (i := 14) (v := .pointer (some ⟨gb, 6, none⟩)) rfl (by kernel_rfl) (by kernel_rfl) (by kernel_rfl) (fun _ _ _ h => h) (Or.inl ⟨by rfl, fun w' hS' => by go_simp⟩) hS5 ?_
            change wpAnyH _ _ _ _ _ _ _ (Act.put _ (some 168) (.pointer (some ⟨gb, 6, none⟩))) _
            simp only [Act.put, List.setIfInBounds_toArray, List.set_cons_zero, List.set_cons_succ]
            refine wpAnyH_take (i := 15) (v := .int .i64 cb.evicted) rfl (by kernel_rfl) (by kernel_rfl) (by kernel_rfl) (fun _ _ _ h => h) (Or.inl ⟨by rfl, fun w' hS' => by obtain ⟨y0, y1, y2, y3, y4, y5, y6⟩ := HCB0.out _ hS'; go_simp⟩) hS5 ?_
            change wpAnyH _ _ _ _ _ _ _ (Act.put _ (some 169) (.int .i64 cb.evicted)) _
            simp only [Act.put, List.setIfInBounds_toArray, List.set_cons_zero, List.set_cons_succ]
            refine wpAnyH_take (i := 16) (v := .bool true) rfl (by kernel_rfl) (by kernel_rfl) (by kernel_rfl) (fun _ _ _ h => h) (Or.inl ⟨by rfl, fun w' hS' => by go_simp⟩) hS5 ?_
            change wpAnyH _ _ _ _ _ _ _ (Act.put _ (some 170) (.bool true)) _
            simp only [Act.put, List.setIfInBounds_toArray, List.set_cons_zero, List.set_cons_succ]
            refine wpAnyH_take (i := 17) (v := .bool true) rfl (by kernel_rfl) (by kernel_rfl) (by kernel_rfl) (fun _ _ _ h => h) (Or.inl ⟨by rfl, fun w' hS' => by go_simp⟩) hS5 ?_
            change wpAnyH _ _ _ _ _ _ _ (Act.put _ (some 171) (.bool true)) _
            simp only [Act.put, List.setIfInBounds_toArray, List.set_cons_zero, List.set_cons_succ]
            refine wpAnyH_take (i := 18) (v := .bool true) rfl (by kernel_rfl) (by kernel_rfl) (by kernel_rfl) (fun _ _ _ h => h) (Or.inl ⟨by rfl, fun w' hS' => by exact op_move rfl rfl⟩) hS5 ?_
            change wpAnyH _ _ _ _ _ _ _ (Act.put _ (some 172) (.bool true)) _
            simp only [Act.put, List.setIfInBounds_toArray, List.set_cons_zero, List.set_cons_succ]
            refine wpAnyH_take (i := 19) (v := .pointer (some ⟨ga, 3, none⟩)) rfl (by kernel_rfl) (by kernel_rfl) (by kernel_rfl) (fun _ _ _ h => h) (Or.inl ⟨by rfl, fun w' hS' => by go_simp⟩) hS5 ?_
            change wpAnyH _ _ _ _ _ _ _ (Act.put _ (some 173) (.pointer (some ⟨ga, 3, none⟩))) _
            simp only [Act.put, List.setIfInBounds_toArray, List.set_cons_zero, List.set_cons_succ]
            refine wpAnyH_take (i := 20) (v := .int .i64 ca.hits) rfl (by kernel_rfl) (by kernel_rfl) (by kernel_rfl) (fun _ _ _ h => h) (Or.inl ⟨by rfl, fun w' hS' => by obtain ⟨y0, y1, y2, y3, y4, y5, y6⟩ := HCA0.out _ hS'; go_simp⟩) hS5 ?_
            change wpAnyH _ _ _ _ _ _ _ (Act.put _ (some 174) (.int .i64 ca.hits)) _
            simp only [Act.put, List.setIfInBounds_toArray, List.set_cons_zero, List.set_cons_succ]
            refine wpAnyH_take (i := 21) (v := .pointer (some ⟨gb, 3, none⟩)) rfl (by kernel_rfl) (by kernel_rfl) (by kernel_rfl) (fun _ _ _ h => h) (Or.inl ⟨by rfl, fun w' hS' => by go_simp⟩) hS5 ?_
            change wpAnyH _ _ _ _ _ _ _ (Act.put _ (some 175) (.pointer (some ⟨gb, 3, none⟩))) _
            simp only [Act.put, List.setIfInBounds_toArray, List.set_cons_zero, List.set_cons_succ]
            refine wpAnyH_take (i := 22) (v := .int .i64 cb.hits) rfl (by kernel_rfl) (by kernel_rfl) (by kernel_rfl) (fun _ _ _ h => h) (Or.inl ⟨by rfl, fun w' hS' => by obtain ⟨y0, y1, y2, y3, y4, y5, y6⟩ := HCB0.out _ hS'; go_simp⟩) hS5 ?_
            change wpAnyH _ _ _ _ _ _ _ (Act.put _ (some 176) (.int .i64 cb.hits)) _
            simp only [Act.put, List.setIfInBounds_toArray, List.set_cons_zero, List.set_cons_succ]
            refine wpAnyH_take (i := 23) (v := .bool true) rfl (by kernel_rfl) (by kernel_rfl) (by kernel_rfl) (fun _ _ _ h => h) (Or.inl ⟨by rfl, fun w' hS' => by go_simp⟩) hS5 ?_
            change wpAnyH _ _ _ _ _ _ _ (Act.put _ (some 177) (.bool true)) _
            simp only [Act.put, List.setIfInBounds_toArray, List.set_cons_zero, List.set_cons_succ]
            refine wpAnyH_take (i := 24) (v := .bool true) rfl (by kernel_rfl) (by kernel_rfl) (by kernel_rfl) (fun _ _ _ h => h) (Or.inl ⟨by rfl, fun w' hS' => by go_simp⟩) hS5 ?_
            change wpAnyH _ _ _ _ _ _ _ (Act.put _ (some 178) (.bool true)) _
            simp only [Act.put, List.setIfInBounds_toArray, List.set_cons_zero, List.set_cons_succ]
            refine wpAnyH_take (i := 25) (v := .bool true) rfl (by kernel_rfl) (by kernel_rfl) (by kernel_rfl) (fun _ _ _ h => h) (Or.inl ⟨by rfl, fun w' hS' => by exact op_move rfl rfl⟩) hS5 ?_
            change wpAnyH _ _ _ _ _ _ _ (Act.put _ (some 179) (.bool true)) _
            simp only [Act.put, List.setIfInBounds_toArray, List.set_cons_zero, List.set_cons_succ]
            refine wpAnyH_take (i := 26) (v := .pointer (some ⟨ga, 4, none⟩)) rfl (by kernel_rfl) (by kernel_rfl) (by kernel_rfl) (fun _ _ _ h => h) (Or.inl ⟨by rfl, fun w' hS' => by go_simp⟩) hS5 ?_
            change wpAnyH _ _ _ _ _ _ _ (Act.put _ (some 180) (.pointer (some ⟨ga, 4, none⟩))) _
            simp only [Act.put, List.setIfInBounds_toArray, List.set_cons_zero, List.set_cons_succ]
            refine wpAnyH_take (i := 27) (v := .int .i64 ca.misses) rfl (by kernel_rfl) (by kernel_rfl) (by kernel_rfl) (fun _ _ _ h => h) (Or.inl ⟨by rfl, fun w' hS' => by obtain ⟨y0, y1, y2, y3, y4, y5, y6⟩ := HCA0.out _ hS'; go_simp⟩) hS5 ?_
            change wpAnyH _ _ _ _ _ _ _ (Act.put _ (some 181) (.int .i64 ca.misses)) _
            simp only [Act.put, List.setIfInBounds_toArray, List.set_cons_zero, List.set_cons_succ]
            refine wpAnyH_take (i := 28) (v := .pointer (some ⟨gb, 4, none⟩)) rfl (by kernel_rfl) (by kernel_rfl) (by kernel_rfl) (fun _ _ _ h => h) (Or.inl ⟨by rfl, fun w' hS' => by go_simp⟩) hS5 ?_
            change wpAnyH _ _ _ _ _ _ _ (Act.put _ (some 182) (.pointer (some ⟨gb, 4, none⟩))) _
            simp only [Act.put, List.setIfInBounds_toArray, List.set_cons_zero, List.set_cons_succ]
            refine wpAnyH_take (i := 29) (v := .int .i64 cb.misses) rfl (by kernel_rfl) (by kernel_rfl) (by kernel_rfl) (fun _ _ _ h => h) (Or.inl ⟨by rfl, fun w' hS' => by obtain ⟨y0, y1, y2, y3, y4, y5, y6⟩ := HCB0.out _ hS'; go_simp⟩) hS5 ?_
            change wpAnyH _ _ _ _ _ _ _ (Act.put _ (some 183) (.int .i64 cb.misses)) _
            simp only [Act.put, List.setIfInBounds_toArray, List.set_cons_zero, List.set_cons_succ]
            refine wpAnyH_take (i := 30) (v := .bool true) rfl (by kernel_rfl) (by kernel_rfl) (by kernel_rfl) (fun _ _ _ h => h) (Or.inl ⟨by rfl, fun w' hS' => by go_simp⟩) hS5 ?_
            change wpAnyH _ _ _ _ _ _ _ (Act.put _ (some 184) (.bool true)) _
            simp only [Act.put, List.setIfInBounds_toArray, List.set_cons_zero, List.set_cons_succ]
            refine wpAnyH_take (i := 31) (v := .bool true) rfl (by kernel_rfl) (by kernel_rfl) (by kernel_rfl) (fun _ _ _ h => h) (Or.inl ⟨by rfl, fun w' hS' => by go_simp⟩) hS5 ?_
            change wpAnyH _ _ _ _ _ _ _ (Act.put _ (some 185) (.bool true)) _
            simp only [Act.put, List.setIfInBounds_toArray, List.set_cons_zero, List.set_cons_succ]
            refine wpAnyH_take (i := 32) (v := .bool true) rfl (by kernel_rfl) (by kernel_rfl) (by kernel_rfl) (fun _ _ _ h => h) (Or.inl ⟨by rfl, fun w' hS' => by exact op_move rfl rfl⟩) hS5 ?_
            change wpAnyH _ _ _ _ _ _ _ (Act.put _ (some 186) (.bool true)) _
            simp only [Act.put, List.setIfInBounds_toArray, List.set_cons_zero, List.set_cons_succ]
            refine wpAnyH_take (i := 33) (v := .pointer (some ⟨ga, 5, none⟩)) rfl (by kernel_rfl) (by kernel_rfl) (by kernel_rfl) (fun _ _ _ h => h) (Or.inl ⟨by rfl, fun w' hS' => by go_simp⟩) hS5 ?_
            change wpAnyH _ _ _ _ _ _ _ (Act.put _ (some 187) (.pointer (some ⟨ga, 5, none⟩))) _
            simp only [Act.put, List.setIfInBounds_toArray, List.set_cons_zero, List.set_cons_succ]
            refine wpAnyH_take (i := 34) (v := .int .i64 ca.clashes) rfl (by kernel_rfl) (by kernel_rfl) (by kernel_rfl) (fun _ _ _ h => h) (Or.inl ⟨by rfl, fun w' hS' => by obtain ⟨y0, y1, y2, y3, y4, y5, y6⟩ := HCA0.out _ hS'; go_simp⟩) hS5 ?_
            change wpAnyH _ _ _ _ _ _ _ (Act.put _ (some 188) (.int .i64 ca.clashes)) _
            simp only [Act.put, List.setIfInBounds_toArray, List.set_cons_zero, List.set_cons_succ]
            refine wpAnyH_take (i := 35) (v := .bool true) rfl (by kernel_rfl) (by kernel_rfl) (by kernel_rfl) (fun _ _ _ h => h) (Or.inl ⟨by rfl, fun w' hS' => by go_simp⟩) hS5 ?_
            change wpAnyH _ _ _ _ _ _ _ (Act.put _ (some 189) (.bool true)) _
            simp only [Act.put, List.setIfInBounds_toArray, List.set_cons_zero, List.set_cons_succ]
            refine wpAnyH_take (i := 36) (v := .bool true) rfl (by kernel_rfl) (by kernel_rfl) (by kernel_rfl) (fun _ _ _ h => h) (Or.inl ⟨by rfl, fun w' hS' => by go_simp⟩) hS5 ?_
            change wpAnyH _ _ _ _ _ _ _ (Act.put _ (some 190) (.bool true)) _
            simp only [Act.put, List.setIfInBounds_toArray, List.set_cons_zero, List.set_cons_succ]
            refine wpAnyH_take (i := 37) (v := .bool true) rfl (by kernel_rfl) (by kernel_rfl) (by kernel_rfl) (fun _ _ _ h => h) (Or.inl ⟨by rfl, fun w' hS' => by exact op_move rfl rfl⟩) hS5 ?_
            change wpAnyH _ _ _ _ _ _ _ (Act.put _ (some 191) (.bool true)) _
            simp only [Act.put, List.setIfInBounds_toArray, List.set_cons_zero, List.set_cons_succ]
            refine wpAnyH_take (i := 38) (v := .pointer (some ⟨gb, 5, none⟩)) rfl (by kernel_rfl) (by kernel_rfl) (by kernel_rfl) (fun _ _ _ h => h) (Or.inl ⟨by rfl, fun w' hS' => by go_simp⟩) hS5 ?_
            change wpAnyH _ _ _ _ _ _ _ (Act.put _ (some 192) (.pointer (some ⟨gb, 5, none⟩))) _
            simp only [Act.put, List.setIfInBounds_toArray, List.set_cons_zero, List.set_cons_succ]
            refine wpAnyH_take (i := 39) (v := .int .i64 cb.clashes) rfl (by kernel_rfl) (by kernel_rfl) (by kernel_rfl) (fun _ _ _ h => h) (Or.inl ⟨by rfl, fun w' hS' => by obtain ⟨y0, y1, y2, y3, y4, y5, y6⟩ := HCB0.out _ hS'; go_simp⟩) hS5 ?_
            change wpAnyH _ _ _ _ _ _ _ (Act.put _ (some 193) (.int .i64 cb.clashes)) _
            simp only [Act.put, List.setIfInBounds_toArray, List.set_cons_zero, List.set_cons_succ]
            refine wpAnyH_take (i := 40) (v := .bool true) rfl (by kernel_rfl) (by kernel_rfl) (by kernel_rfl) (fun _ _ _ h => h) (Or.inl ⟨by rfl, fun w' hS' => by go_simp⟩) hS5 ?_
            change wpAnyH _ _ _ _ _ _ _ (Act.put _ (some 194) (.bool true)) _
            simp only [Act.put, List.setIfInBounds_toArray, List.set_cons_zero, List.set_cons_succ]
            refine wpAnyH_take (i := 41) (v := .bool true) rfl (by kernel_rfl) (by kernel_rfl) (by kernel_rfl) (fun _ _ _ h => h) (Or.inl ⟨by rfl, fun w' hS' => by go_simp⟩) hS5 ?_
            change wpAnyH _ _ _ _ _ _ _ (Act.put _ (some 195) (.bool true)) _
            simp only [Act.put, List.setIfInBounds_toArray, List.set_cons_zero, List.set_cons_succ]
            refine wpAnyH_take (i := 42) (v := .bool true) rfl (by kernel_rfl) (by kernel_rfl) (by kernel_rfl) (fun _ _ _ h => h) (Or.inl ⟨by rfl, fun w' hS' => by exact op_assign rfl rfl⟩) hS5 ?_
            change wpAnyH _ _ _ _ _ _ _ (Act.put _ (some 6) (.bool true)) _
            simp only [Act.put, List.setIfInBounds_toArray, List.set_cons_zero, List.set_cons_succ]
            refine wpAnyH_done (by kernel_rfl) ?_ _
            refine NoPanic.normal ?_
            have HS := Lib.hid hS5
            go_wp2_with fail
            go_ret
            exact ⟨rfl, below_step HWW.out HS.out⟩
    · as_aux_lemma =>
      have g3 : ¬ (k : Int) < (deeds.length : Int) := by omega
      obtain ⟨sz, hsz⟩ : ∃ n, sizeC ca = n := ⟨_, rfl⟩
      have HSZa := Lib.hid hsz
      have HSZb : Hid (sizeC cb = sz) := Lib.hid (by rw [← hsz]; exact HPR.out.size.symm)
      have f1 : ((ca.evicted == 0) : Bool) = true := by rw [HPR.out.one.evicted]; rfl
      have f2 : ((cb.evicted == 0) : Bool) = true := by rw [HPR.out.two.evicted]; rfl
      have f3 : ((ca.clashes == 0) : Bool) = true := by rw [HPR.out.one.clashes]; rfl
      have f4 : ((cb.clashes == 0) : Bool) = true := by rw [HPR.out.two.clashes]; rfl
      have f5 : ((ca.hits == cb.hits) : Bool) = true := by rw [beq_iff_eq]; exact HPR.out.hits
      have f6 : ((ca.misses == cb.misses) : Bool) = true := by rw [beq_iff_eq]; exact HPR.out.misses
      clear hsz
      go_wp2_with fail
      refine wp_region_noPanic ?_
      refine wp_region_held_drew (S := fun W => Below w4.heap.size w4 W) (by kernel_rfl) ((Below.refl w4.heap.size w4).drew) (fun hS0 => ?_)
      change wpAnyH _ _ _ _ _ 43 #[false, false, false, false, false, false, false, false, false, false, false, false, false, false, false, false, false, false, false, false, false, false, false, false, false, false, false, false, false, false, false, false, false, false, false, false, false, false, false, false, false, false, false] _ (World.drew _)
      refine wpAnyH_take (i := 0) (v := .bool true) rfl (by kernel_rfl) (by kernel_rfl) (by kernel_rfl) (fun _ _ _ h => h) (Or.inl ⟨by rfl, fun w' hS' => by exact op_move rfl rfl⟩) hS0 ?_
      change wpAnyH _ _ _ _ _ _ _ (Act.put _ (some 154) (.bool true)) _
      simp only [Act.put, List.setIfInBounds_toArray, List.set_cons_zero, List.set_cons_succ]
      refine wpAnyH_take (i := 1) (v := .bool true) rfl (by kernel_rfl) (by kernel_rfl) (by kernel_rfl) (fun _ _ _ h => h) (Or.inl ⟨by rfl, fun w' hS' => by exact op_move rfl rfl⟩) hS0 ?_
      change wpAnyH _ _ _ _ _ _ _ (Act.put _ (some 155) (.bool true)) _
      simp only [Act.put, List.setIfInBounds_toArray, List.set_cons_zero, List.set_cons_succ]
      refine wpAnyH_take (i := 2) (v := .agg #[.int .i64 ca.width, .int .i64 ca.room, .slice Aa na capa, .int .i64 ca.hits, .int .i64 ca.misses, .int .i64 ca.clashes, .int .i64 ca.evicted]) rfl (by kernel_rfl) (by kernel_rfl) (by kernel_rfl) (fun _ _ _ h => h) (Or.inl ⟨by rfl, fun w' hS' => by obtain ⟨y0, y1, y2, y3, y4, y5, y6⟩ := HCA0.out _ hS'; go_simp⟩) hS0 ?_
      change wpAnyH _ _ _ _ _ _ _ (Act.put _ (some 156) (.agg #[.int .i64 ca.width, .int .i64 ca.room, .slice Aa na capa, .int .i64 ca.hits, .int .i64 ca.misses, .int .i64 ca.clashes, .int .i64 ca.evicted])) _
      simp only [Act.put, List.setIfInBounds_toArray, List.set_cons_zero, List.set_cons_succ]
      refine wpAnyH_take (i := 4) (v := .agg #[.int .i64 cb.width, .int .i64 cb.room, .slice Ab nb capb, .int .i64 cb.hits, .int .i64 cb.misses, .int .i64 cb.clashes, .int .i64 cb.evicted]) rfl (by kernel_rfl) (by kernel_rfl) (by kernel_rfl) (fun _ _ _ h => h) (Or.inl ⟨by rfl, fun w' hS' => by obtain ⟨y0, y1, y2, y3, y4, y5, y6⟩ := HCB0.out _ hS'; go_simp⟩) hS0 ?_
      change wpAnyH _ _ _ _ _ _ _ (Act.put _ (some 158) (.agg #[.int .i64 cb.width, .int .i64 cb.room, .slice Ab nb capb, .int .i64 cb.hits, .int .i64 cb.misses, .int .i64 cb.clashes, .int .i64 cb.evicted])) _
      simp only [Act.put, List.setIfInBounds_toArray, List.set_cons_zero, List.set_cons_succ]
      refine wpAnyH_ready (rs := [3]) (by kernel_rfl) (by simp) (AllReadyH.cons rfl (fun K hK => ?_) (AllReadyH.nil))
      · skip
        go_simp
        refine (sizeC_any ca Aa na capa _ (HPa.out.up hS0) HNa.out HFa.out).mono ?_
        rintro e W1 ⟨rfl, hb3⟩
        rw [HSZa.out]
        refine hK.out _ _ (hS0.trans (hb3.mono hS0.size)) (fun hS2 => ?_)
        clear hK K
        simp only [List.setIfInBounds_toArray, List.set_cons_zero, List.set_cons_succ]
        refine wpAnyH_ready (rs := [5]) (by kernel_rfl) (by simp) (AllReadyH.cons rfl (fun K hK => ?_) (AllReadyH.nil))
        · skip
          go_simp
          refine (sizeC_any cb Ab nb capb _ (HPb.out.up hS2) HNb.out HFb.out).mono ?_
          rintro e W4 ⟨rfl, hb6⟩
          rw [HSZb.out]
          refine hK.out _ _ (hS2.trans (hb6.mono hS2.size)) (fun hS5 => ?_)
          clear hK K
          simp only [List.setIfInBounds_toArray, List.set_cons_zero, List.set_cons_succ]
          refine wpAnyH_take (i := 6) (v := .bool true) rfl (by kernel_rfl) (by kernel_rfl) (by kernel_rfl) (fun _ _ _ h => h) (Or.inl ⟨by rfl, fun w' hS' => by go_simp⟩) hS5 ?_
          change wpAnyH _ _ _ _ _ _ _ (Act.put _ (some 160) (.bool true)) _
          simp only [Act.put, List.setIfInBounds_toArray, List.set_cons_zero, List.set_cons_succ]
          refine wpAnyH_take (i := 7) (v := .bool true) rfl (by kernel_rfl) (by kernel_rfl) (by kernel_rfl) (fun _ _ _ h => h) (Or.inl ⟨by rfl, fun w' hS' => by go_simp⟩) hS5 ?_
          change wpAnyH _ _ _ _ _ _ _ (Act.put _ (some 161) (.bool true)) _
          simp only [Act.put, List.setIfInBounds_toArray, List.set_cons_zero, List.set_cons_succ]
          refine wpAnyH_take (i := 8) (v := .bool true) rfl (by kernel_rfl) (by kernel_rfl) (by kernel_rfl) (fun _ _ _ h => h) (Or.inl ⟨by rfl, fun w' hS' => by exact op_move rfl rfl⟩) hS5 ?_
          change wpAnyH _ _ _ _ _ _ _ (Act.put _ (some 162) (.bool true)) _
          simp only [Act.put, List.setIfInBounds_toArray, List.set_cons_zero, List.set_cons_succ]
          refine wpAnyH_take (i := 9) (v := .pointer (some ⟨ga, 6, none⟩)) rfl (by kernel_rfl) (by kernel_rfl) (by kernel_rfl) (fun _ _ _ h => h) (Or.inl ⟨by rfl, fun w' hS' => by go_simp⟩) hS5 ?_
          change wpAnyH _ _ _ _ _ _ _ (Act.put _ (some 163) (.pointer (some ⟨ga, 6, none⟩))) _
          simp only [Act.put, List.setIfInBounds_toArray, List.set_cons_zero, List.set_cons_succ]
          refine wpAnyH_take (i := 10) (v := .int .i64 ca.evicted) rfl (by kernel_rfl) (by kernel_rfl) (by kernel_rfl) (fun _ _ _ h => h) (Or.inl ⟨by rfl, fun w' hS' => by obtain ⟨y0, y1, y2, y3, y4, y5, y6⟩ := HCA0.out _ hS'; go_simp⟩) hS5 ?_
          change wpAnyH _ _ _ _ _ _ _ (Act.put _ (some 164) (.int .i64 ca.evicted)) _
          simp only [Act.put, List.setIfInBounds_toArray, List.set_cons_zero, List.set_cons_succ]
          refine wpAnyH_take (i := 11) (v := .bool true) rfl (by kernel_rfl) (by kernel_rfl) (by kernel_rfl) (fun _ _ _ h => h) (Or.inl ⟨by rfl, fun w' hS' => by go_simp⟩) hS5 ?_
          change wpAnyH _ _ _ _ _ _ _ (Act.put _ (some 165) (.bool true)) _
          simp only [Act.put, List.setIfInBounds_toArray, List.set_cons_zero, List.set_cons_succ]
          refine wpAnyH_take (i := 12) (v := .bool true) rfl (by kernel_rfl) (by kernel_rfl) (by kernel_rfl) (fun _ _ _ h => h) (Or.inl ⟨by rfl, fun w' hS' => by go_simp⟩) hS5 ?_
          change wpAnyH _ _ _ _ _ _ _ (Act.put _ (some 166) (.bool true)) _
          simp only [Act.put, List.setIfInBounds_toArray, List.set_cons_zero, List.set_cons_succ]
          refine wpAnyH_take (i := 13) (v := .bool true) rfl (by kernel_rfl) (by kernel_rfl) (by kernel_rfl) (fun _ _ _ h => h) (Or.inl ⟨by rfl, fun w' hS' => by exact op_move rfl rfl⟩) hS5 ?_
          change wpAnyH _ _ _ _ _ _ _ (Act.put _ (some 167) (.bool true)) _
          simp only [Act.put, List.setIfInBounds_toArray, List.set_cons_zero, List.set_cons_succ]
          refine wpAnyH_take (i := 14) (v := .pointer (some ⟨gb, 6, none⟩)) rfl (by kernel_rfl) (by kernel_rfl) (by kernel_rfl) (fun _ _ _ h => h) (Or.inl ⟨by rfl, fun w' hS' => by go_simp⟩) hS5 ?_
          change wpAnyH _ _ _ _ _ _ _ (Act.put _ (some 168) (.pointer (some ⟨gb, 6, none⟩))) _
          simp only [Act.put, List.setIfInBounds_toArray, List.set_cons_zero, List.set_cons_succ]
          refine wpAnyH_take (i := 15) (v := .int .i64 cb.evicted) rfl (by kernel_rfl) (by kernel_rfl) (by kernel_rfl) (fun _ _ _ h => h) (Or.inl ⟨by rfl, fun w' hS' => by obtain ⟨y0, y1, y2, y3, y4, y5, y6⟩ := HCB0.out _ hS'; go_simp⟩) hS5 ?_
          change wpAnyH _ _ _ _ _ _ _ (Act.put _ (some 169) (.int .i64 cb.evicted)) _
          simp only [Act.put, List.setIfInBounds_toArray, List.set_cons_zero, List.set_cons_succ]
          refine wpAnyH_take (i := 16) (v := .bool true) rfl (by kernel_rfl) (by kernel_rfl) (by kernel_rfl) (fun _ _ _ h => h) (Or.inl ⟨by rfl, fun w' hS' => by go_simp⟩) hS5 ?_
          change wpAnyH _ _ _ _ _ _ _ (Act.put _ (some 170) (.bool true)) _
          simp only [Act.put, List.setIfInBounds_toArray, List.set_cons_zero, List.set_cons_succ]
          refine wpAnyH_take (i := 17) (v := .bool true) rfl (by kernel_rfl) (by kernel_rfl) (by kernel_rfl) (fun _ _ _ h => h) (Or.inl ⟨by rfl, fun w' hS' => by go_simp⟩) hS5 ?_
          change wpAnyH _ _ _ _ _ _ _ (Act.put _ (some 171) (.bool true)) _
          simp only [Act.put, List.setIfInBounds_toArray, List.set_cons_zero, List.set_cons_succ]
          refine wpAnyH_take (i := 18) (v := .bool true) rfl (by kernel_rfl) (by kernel_rfl) (by kernel_rfl) (fun _ _ _ h => h) (Or.inl ⟨by rfl, fun w' hS' => by exact op_move rfl rfl⟩) hS5 ?_
          change wpAnyH _ _ _ _ _ _ _ (Act.put _ (some 172) (.bool true)) _
          simp only [Act.put, List.setIfInBounds_toArray, List.set_cons_zero, List.set_cons_succ]
          refine wpAnyH_take (i := 19) (v := .pointer (some ⟨ga, 3, none⟩)) rfl (by kernel_rfl) (by kernel_rfl) (by kernel_rfl) (fun _ _ _ h => h) (Or.inl ⟨by rfl, fun w' hS' => by go_simp⟩) hS5 ?_
          change wpAnyH _ _ _ _ _ _ _ (Act.put _ (some 173) (.pointer (some ⟨ga, 3, none⟩))) _
          simp only [Act.put, List.setIfInBounds_toArray, List.set_cons_zero, List.set_cons_succ]
          refine wpAnyH_take (i := 20) (v := .int .i64 ca.hits) rfl (by kernel_rfl) (by kernel_rfl) (by kernel_rfl) (fun _ _ _ h => h) (Or.inl ⟨by rfl, fun w' hS' => by obtain ⟨y0, y1, y2, y3, y4, y5, y6⟩ := HCA0.out _ hS'; go_simp⟩) hS5 ?_
          change wpAnyH _ _ _ _ _ _ _ (Act.put _ (some 174) (.int .i64 ca.hits)) _
          simp only [Act.put, List.setIfInBounds_toArray, List.set_cons_zero, List.set_cons_succ]
          refine wpAnyH_take (i := 21) (v := .pointer (some ⟨gb, 3, none⟩)) rfl (by kernel_rfl) (by kernel_rfl) (by kernel_rfl) (fun _ _ _ h => h) (Or.inl ⟨by rfl, fun w' hS' => by go_simp⟩) hS5 ?_
          change wpAnyH _ _ _ _ _ _ _ (Act.put _ (some 175) (.pointer (some ⟨gb, 3, none⟩))) _
          simp only [Act.put, List.setIfInBounds_toArray, List.set_cons_zero, List.set_cons_succ]
          refine wpAnyH_take (i := 22) (v := .int .i64 cb.hits) rfl (by kernel_rfl) (by kernel_rfl) (by kernel_rfl) (fun _ _ _ h => h) (Or.inl ⟨by rfl, fun w' hS' => by obtain ⟨y0, y1, y2, y3, y4, y5, y6⟩ := HCB0.out _ hS'; go_simp⟩) hS5 ?_
          change wpAnyH _ _ _ _ _ _ _ (Act.put _ (some 176) (.int .i64 cb.hits)) _
          simp only [Act.put, List.setIfInBounds_toArray, List.set_cons_zero, List.set_cons_succ]
          refine wpAnyH_take (i := 23) (v := .bool true) rfl (by kernel_rfl) (by kernel_rfl) (by kernel_rfl) (fun _ _ _ h => h) (Or.inl ⟨by rfl, fun w' hS' => by go_simp⟩) hS5 ?_
          change wpAnyH _ _ _ _ _ _ _ (Act.put _ (some 177) (.bool true)) _
          simp only [Act.put, List.setIfInBounds_toArray, List.set_cons_zero, List.set_cons_succ]
          refine wpAnyH_take (i := 24) (v := .bool true) rfl (by kernel_rfl) (by kernel_rfl) (by kernel_rfl) (fun _ _ _ h => h) (Or.inl ⟨by rfl, fun w' hS' => by go_simp⟩) hS5 ?_
          change wpAnyH _ _ _ _ _ _ _ (Act.put _ (some 178) (.bool true)) _
          simp only [Act.put, List.setIfInBounds_toArray, List.set_cons_zero, List.set_cons_succ]
          refine wpAnyH_take (i := 25) (v := .bool true) rfl (by kernel_rfl) (by kernel_rfl) (by kernel_rfl) (fun _ _ _ h => h) (Or.inl ⟨by rfl, fun w' hS' => by exact op_move rfl rfl⟩) hS5 ?_
          change wpAnyH _ _ _ _ _ _ _ (Act.put _ (some 179) (.bool true)) _
          simp only [Act.put, List.setIfInBounds_toArray, List.set_cons_zero, List.set_cons_succ]
          refine wpAnyH_take (i := 26) (v := .pointer (some ⟨ga, 4, none⟩)) rfl (by kernel_rfl) (by kernel_rfl) (by kernel_rfl) (fun _ _ _ h => h) (Or.inl ⟨by rfl, fun w' hS' => by go_simp⟩) hS5 ?_
          change wpAnyH _ _ _ _ _ _ _ (Act.put _ (some 180) (.pointer (some ⟨ga, 4, none⟩))) _
          simp only [Act.put, List.setIfInBounds_toArray, List.set_cons_zero, List.set_cons_succ]
          refine wpAnyH_take (i := 27) (v := .int .i64 ca.misses) rfl (by kernel_rfl) (by kernel_rfl) (by kernel_rfl) (fun _ _ _ h => h) (Or.inl ⟨by rfl, fun w' hS' => by obtain ⟨y0, y1, y2, y3, y4, y5, y6⟩ := HCA0.out _ hS'; go_simp⟩) hS5 ?_
          change wpAnyH _ _ _ _ _ _ _ (Act.put _ (some 181) (.int .i64 ca.misses)) _
          simp only [Act.put, List.setIfInBounds_toArray, List.set_cons_zero, List.set_cons_succ]
          refine wpAnyH_take (i := 28) (v := .pointer (some ⟨gb, 4, none⟩)) rfl (by kernel_rfl) (by kernel_rfl) (by kernel_rfl) (fun _ _ _ h => h) (Or.inl ⟨by rfl, fun w' hS' => by go_simp⟩) hS5 ?_
          change wpAnyH _ _ _ _ _ _ _ (Act.put _ (some 182) (.pointer (some ⟨gb, 4, none⟩))) _
          simp only [Act.put, List.setIfInBounds_toArray, List.set_cons_zero, List.set_cons_succ]
          refine wpAnyH_take (i := 29) (v := .int .i64 cb.misses) rfl (by kernel_rfl) (by kernel_rfl) (by kernel_rfl) (fun _ _ _ h => h) (Or.inl ⟨by rfl, fun w' hS' => by obtain ⟨y0, y1, y2, y3, y4, y5, y6⟩ := HCB0.out _ hS'; go_simp⟩) hS5 ?_
          change wpAnyH _ _ _ _ _ _ _ (Act.put _ (some 183) (.int .i64 cb.misses)) _
          simp only [Act.put, List.setIfInBounds_toArray, List.set_cons_zero, List.set_cons_succ]
          refine wpAnyH_take (i := 30) (v := .bool true) rfl (by kernel_rfl) (by kernel_rfl) (by kernel_rfl) (fun _ _ _ h => h) (Or.inl ⟨by rfl, fun w' hS' => by go_simp⟩) hS5 ?_
          change wpAnyH _ _ _ _ _ _ _ (Act.put _ (some 184) (.bool true)) _
          simp only [Act.put, List.setIfInBounds_toArray, List.set_cons_zero, List.set_cons_succ]
          refine wpAnyH_take (i := 31) (v := .bool true) rfl (by kernel_rfl) (by kernel_rfl) (by kernel_rfl) (fun _ _ _ h => h) (Or.inl ⟨by rfl, fun w' hS' => by go_simp⟩) hS5 ?_
          change wpAnyH _ _ _ _ _ _ _ (Act.put _ (some 185) (.bool true)) _
          simp only [Act.put, List.setIfInBounds_toArray, List.set_cons_zero, List.set_cons_succ]
          refine wpAnyH_take (i := 32) (v := .bool true) rfl (by kernel_rfl) (by kernel_rfl) (by kernel_rfl) (fun _ _ _ h => h) (Or.inl ⟨by rfl, fun w' hS' => by exact op_move rfl rfl⟩) hS5 ?_
          change wpAnyH _ _ _ _ _ _ _ (Act.put _ (some 186) (.bool true)) _
          simp only [Act.put, List.setIfInBounds_toArray, List.set_cons_zero, List.set_cons_succ]
          refine wpAnyH_take (i := 33) (v := .pointer (some ⟨ga, 5, none⟩)) rfl (by kernel_rfl) (by kernel_rfl) (by kernel_rfl) (fun _ _ _ h => h) (Or.inl ⟨by rfl, fun w' hS' => by go_simp⟩) hS5 ?_
          change wpAnyH _ _ _ _ _ _ _ (Act.put _ (some 187) (.pointer (some ⟨ga, 5, none⟩))) _
          simp only [Act.put, List.setIfInBounds_toArray, List.set_cons_zero, List.set_cons_succ]
          refine wpAnyH_take (i := 34) (v := .int .i64 ca.clashes) rfl (by kernel_rfl) (by kernel_rfl) (by kernel_rfl) (fun _ _ _ h => h) (Or.inl ⟨by rfl, fun w' hS' => by obtain ⟨y0, y1, y2, y3, y4, y5, y6⟩ := HCA0.out _ hS'; go_simp⟩) hS5 ?_
          change wpAnyH _ _ _ _ _ _ _ (Act.put _ (some 188) (.int .i64 ca.clashes)) _
          simp only [Act.put, List.setIfInBounds_toArray, List.set_cons_zero, List.set_cons_succ]
          refine wpAnyH_take (i := 35) (v := .bool true) rfl (by kernel_rfl) (by kernel_rfl) (by kernel_rfl) (fun _ _ _ h => h) (Or.inl ⟨by rfl, fun w' hS' => by go_simp⟩) hS5 ?_
          change wpAnyH _ _ _ _ _ _ _ (Act.put _ (some 189) (.bool true)) _
          simp only [Act.put, List.setIfInBounds_toArray, List.set_cons_zero, List.set_cons_succ]
          refine wpAnyH_take (i := 36) (v := .bool true) rfl (by kernel_rfl) (by kernel_rfl) (by kernel_rfl) (fun _ _ _ h => h) (Or.inl ⟨by rfl, fun w' hS' => by go_simp⟩) hS5 ?_
          change wpAnyH _ _ _ _ _ _ _ (Act.put _ (some 190) (.bool true)) _
          simp only [Act.put, List.setIfInBounds_toArray, List.set_cons_zero, List.set_cons_succ]
          refine wpAnyH_take (i := 37) (v := .bool true) rfl (by kernel_rfl) (by kernel_rfl) (by kernel_rfl) (fun _ _ _ h => h) (Or.inl ⟨by rfl, fun w' hS' => by exact op_move rfl rfl⟩) hS5 ?_
          change wpAnyH _ _ _ _ _ _ _ (Act.put _ (some 191) (.bool true)) _
          simp only [Act.put, List.setIfInBounds_toArray, List.set_cons_zero, List.set_cons_succ]
          refine wpAnyH_take (i := 38) (v := .pointer (some ⟨gb, 5, none⟩)) rfl (by kernel_rfl) (by kernel_rfl) (by kernel_rfl) (fun _ _ _ h => h) (Or.inl ⟨by rfl, fun w' hS' => by go_simp⟩) hS5 ?_
          change wpAnyH _ _ _ _ _ _ _ (Act.put _ (some 192) (.pointer (some ⟨gb, 5, none⟩))) _
          simp only [Act.put, List.setIfInBounds_toArray, List.set_cons_zero, List.set_cons_succ]
          refine wpAnyH_take (i := 39) (v := .int .i64 cb.clashes) rfl (by kernel_rfl) (by kernel_rfl) (by kernel_rfl) (fun _ _ _ h => h) (Or.inl ⟨by rfl, fun w' hS' => by obtain ⟨y0, y1, y2, y3, y4, y5, y6⟩ := HCB0.out _ hS'; go_simp⟩) hS5 ?_
          change wpAnyH _ _ _ _ _ _ _ (Act.put _ (some 193) (.int .i64 cb.clashes)) _
          simp only [Act.put, List.setIfInBounds_toArray, List.set_cons_zero, List.set_cons_succ]
          refine wpAnyH_take (i := 40) (v := .bool true) rfl (by kernel_rfl) (by kernel_rfl) (by kernel_rfl) (fun _ _ _ h => h) (Or.inl ⟨by rfl, fun w' hS' => by go_simp⟩) hS5 ?_
          change wpAnyH _ _ _ _ _ _ _ (Act.put _ (some 194) (.bool true)) _
          simp only [Act.put, List.setIfInBounds_toArray, List.set_cons_zero, List.set_cons_succ]
          refine wpAnyH_take (i := 41) (v := .bool true) rfl (by kernel_rfl) (by kernel_rfl) (by kernel_rfl) (fun _ _ _ h => h) (Or.inl ⟨by rfl, fun w' hS' => by go_simp⟩) hS5 ?_
          change wpAnyH _ _ _ _ _ _ _ (Act.put _ (some 195) (.bool true)) _
          simp only [Act.put, List.setIfInBounds_toArray, List.set_cons_zero, List.set_cons_succ]
          refine wpAnyH_take (i := 42) (v := .bool true) rfl (by kernel_rfl) (by kernel_rfl) (by kernel_rfl) (fun _ _ _ h => h) (Or.inl ⟨by rfl, fun w' hS' => by exact op_assign rfl rfl⟩) hS5 ?_
          change wpAnyH _ _ _ _ _ _ _ (Act.put _ (some 6) (.bool true)) _
          simp only [Act.put, List.setIfInBounds_toArray, List.set_cons_zero, List.set_cons_succ]
          refine wpAnyH_done (by kernel_rfl) ?_ _
          refine NoPanic.normal ?_
          have HS := Lib.hid hS5
          go_wp2_with fail
          go_ret
          exact ⟨rfl, below_step HWW.out HS.out⟩

end Go.Proofs.Ytjifmfgfmciaeaa
