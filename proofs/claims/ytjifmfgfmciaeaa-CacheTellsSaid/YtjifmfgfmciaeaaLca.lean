/-
  collatorlaw14.Cache: of raw numbers, a cache by the document. Nothing that was there is changed.
-/
import Derived.Test.YtjifmfgfmciaeaaOk
namespace Go.Proofs.Ytjifmfgfmciaeaa
open Go.RowKit

theorem PartsAt.add {X : Nat → Prop} {w : World} {A : Option Addr} {P : List (List Sl)} (h : PartsAt X w A P) {g : Nat} (hg : w.heap.size ≤ g) : PartsAt (fun b => X b ∨ b = g) w A P := fun hn => by
  obtain ⟨a, e, hl, hx, hc⟩ := h hn
  refine ⟨a, e, hl, fun k => k.elim hx (fun k => by omega), fun i L hi => ?_⟩
  obtain ⟨B, c, h1, h2, h3, h4⟩ := hc i L hi
  refine ⟨B, c, h1, h2, h3, fun b hb eb k => k.elim (h4 b hb eb) (fun k => ?_)⟩
  obtain ⟨b', eb', hbl, _⟩ := h2 hb
  rw [eb] at eb'
  injection eb' with eb'
  subst eb'
  omega
theorem PartsAt.drew {X : Nat → Prop} {w : World} {A : Option Addr} {P : List (List Sl)} (h : PartsAt X w A P) : PartsAt X w.drew A P := h
theorem set7 {h : Nat} {u0 u1 u2 u3 u4 u5 u6 : Value} {W : World} (hb : Blk W h 28 #[u0, u1, u2, u3, u4, u5, u6]) (i0 i1 : Int) (A : Option Addr) (n cap : Nat) (i3 i4 i5 i6 : Int) :
    Blk (((((((W.setCell ⟨h, 0, none⟩ (.int .i64 i0)).setCell ⟨h, 1, none⟩ (.int .i64 i1)).setCell ⟨h, 2, none⟩ (.slice A n cap)).setCell ⟨h, 3, none⟩ (.int .i64 i3)).setCell ⟨h, 4, none⟩ (.int .i64 i4)).setCell ⟨h, 5, none⟩ (.int .i64 i5)).setCell ⟨h, 6, none⟩ (.int .i64 i6)) h 28 #[.int .i64 i0, .int .i64 i1, .slice A n cap, .int .i64 i3, .int .i64 i4, .int .i64 i5, .int .i64 i6] ∧
    W.grownBy (((((((W.setCell ⟨h, 0, none⟩ (.int .i64 i0)).setCell ⟨h, 1, none⟩ (.int .i64 i1)).setCell ⟨h, 2, none⟩ (.slice A n cap)).setCell ⟨h, 3, none⟩ (.int .i64 i3)).setCell ⟨h, 4, none⟩ (.int .i64 i4)).setCell ⟨h, 5, none⟩ (.int .i64 i5)).setCell ⟨h, 6, none⟩ (.int .i64 i6)) (some h) := by
  have h0 := Blk.set_ hb 0 (.int .i64 i0)
  have h1 := Blk.set_ h0 1 (.int .i64 i1)
  have h2 := Blk.set_ h1 2 (.slice A n cap)
  have h3 := Blk.set_ h2 3 (.int .i64 i3)
  have h4 := Blk.set_ h3 4 (.int .i64 i4)
  have h5 := Blk.set_ h4 5 (.int .i64 i5)
  have h6 := Blk.set_ h5 6 (.int .i64 i6)
  exact ⟨by simpa only [List.setIfInBounds_toArray, List.set_cons_zero, List.set_cons_succ] using h6, ((((((grown_set _ _ _ _).trans (grown_set _ _ _ _)).trans (grown_set _ _ _ _)).trans (grown_set _ _ _ _)).trans (grown_set _ _ _ _)).trans (grown_set _ _ _ _)).trans (grown_set _ _ _ _)⟩
theorem op_allocC (W : World) : ∃ g W1, (∀ (o : Oper) (a : Act), o.op = Op.alloc 28 → (execOp a.eval o).run Try.prog W = .ok (.value (.pointer (some ⟨g, 0, none⟩))) W1) ∧ Blk W1 g 28 #[.int .i64 0, .int .i64 0, .slice none 0 0, .int .i64 0, .int .i64 0, .int .i64 0, .int .i64 0] ∧ Below W.heap.size W W1 ∧ W.heap.size ≤ g := by
  refine ⟨W.heap.size, W.alloc (.cells #[.int .i64 0, .int .i64 0, .slice none 0 0, .int .i64 0, .int .i64 0, .int .i64 0, .int .i64 0] 28), fun o a ho => ?_, Blk.new _ _ _, (Below.refl _ _).alloc (Nat.le_refl _) _, Nat.le_refl _⟩
  rw [show execOp a.eval o = execOp a.eval { o with op := Op.alloc 28 } from by rw [← ho]]
  kernel_rfl
abbrev Tri : Type := Int × Int × Int
def triC (z : Tri) : List Value := [.int .i64 z.1, .int .i64 z.2.1, .int .i64 z.2.2]
theorem tri_len : ∀ z : Tri, (triC z).length = 3 := fun _ => rfl
abbrev TrisAt (w : World) (A : Option Addr) (zs : List Tri) : Prop := RowAt triC 3 w A zs
def TriFit (z : Tri) : Prop := I64 z.1 ∧ I64 z.2.1 ∧ I64 z.2.2
/-- the cache of which raw numbers speak -/
def cache0 (z : Tri) : Ca := (newC (1 + pickI z.1 4) (pickI z.2.1 9) (pickI z.2.2 5 * pickI (z.2.2.tdiv 5) 17)).1
def stepC (c : Ca) (z : Tri) : Ca := (putC c (textOf z.1) (textOf z.2.1) (textOf z.2.2)).1
def cacheOf (z : Tri) (zs : List Tri) : Ca := (zs.take 20).foldl stepC (cache0 z)
theorem cache0_fits (z : Tri) : fitsB (1 + pickI z.1 4) (pickI z.2.1 9) (pickI z.2.2 5 * pickI (z.2.2.tdiv 5) 17) = true := by
  have a := pickI_range z.1 4 (by omega)
  have b := pickI_range z.2.1 9 (by omega)
  have c := pickI_range z.2.2 5 (by omega)
  have d := pickI_range (z.2.2.tdiv 5) 17 (by omega)
  have e1 : 0 ≤ pickI z.2.2 5 * pickI (z.2.2.tdiv 5) 17 := Int.mul_nonneg c.1 d.1
  have e2 : pickI z.2.2 5 * pickI (z.2.2.tdiv 5) 17 ≤ 4 * 16 := Int.mul_le_mul (by omega) (by omega) d.1 (by omega)
  exact decide_eq_true ⟨by omega, by omega, by omega, by omega, e1, by omega⟩
theorem cache0_good (z : Tri) : Good (cache0 z) 0 := Good.new (cache0_fits z)
theorem step_good {c : Ca} {m : Nat} (h : Good c m) (z : Tri) : Good (stepC c z) (m + 1) :=
  h.put _ _ _ (Nat.le_trans (textOf_size _) (by omega)) (Nat.le_trans (textOf_size _) (by omega)) (Nat.le_trans (textOf_size _) (by omega))
theorem fold_good : ∀ (zs : List Tri) {c : Ca} {m : Nat}, Good c m → Good (zs.foldl stepC c) (m + zs.length)
  | [], _, _, h => h
  | z :: zs, _, _, h => by
    have := fold_good zs (step_good h z)
    rw [List.length_cons, show ∀ a b : Nat, a + (b + 1) = a + 1 + b from by omega]
    exact this
theorem cacheOf_good (z : Tri) (zs : List Tri) : Good (cacheOf z zs) 20 := (fold_good (zs.take 20) (cache0_good z)).mono (by rw [Nat.zero_add]; exact List.length_take_le _ _)
def NewIn (w1 : World) (h : Nat) (c0 : Ca) (v5 v6 : Value) (wx : World) : Prop :=
  ∃ (g : Nat) (A : Option Addr) (n cap : Nat), v5 = .pointer (some ⟨g, 0, none⟩) ∧ v6 = .int .i64 0 ∧ Blk wx g 28 #[.int .i64 c0.width, .int .i64 c0.room, .slice A n cap, .int .i64 c0.hits, .int .i64 c0.misses, .int .i64 c0.clashes, .int .i64 c0.evicted] ∧ PartsAt (fun b => b = h ∨ b = g) wx A c0.parts ∧ c0.parts.length = n ∧ n ≤ cap ∧ Below w1.heap.size w1 wx ∧ w1.heap.size ≤ g
theorem text_le (k : Int) : (textOf k).size ≤ 4096 := Nat.le_trans (textOf_size k) (by omega)
/-- between two rounds -/
def CIn (w1 wr : World) (h g5 : Nat) (c : Ca) : Prop :=
  ∃ (A : Option Addr) (n cap : Nat), Blk wr g5 28 #[.int .i64 c.width, .int .i64 c.room, .slice A n cap, .int .i64 c.hits, .int .i64 c.misses, .int .i64 c.clashes, .int .i64 c.evicted] ∧ PartsAt (fun b => b = h ∨ b = g5) wr A c.parts ∧ c.parts.length = n ∧ n ≤ cap ∧ Below w1.heap.size w1 wr
def PutIn (w1 : World) (h g5 : Nat) (ck d : Ca) (A5 : Option Addr) (n5 cap5 : Nat) (v8 v9 : Value) (wx : World) : Prop :=
  ∃ (g : Nat) (A : Option Addr) (n cap : Nat), v8 = .pointer (some ⟨g, 0, none⟩) ∧ v9 = .int .i64 0 ∧ Blk wx g 28 #[.int .i64 d.width, .int .i64 d.room, .slice A n cap, .int .i64 d.hits, .int .i64 d.misses, .int .i64 d.clashes, .int .i64 d.evicted] ∧ Blk wx g5 28 #[.int .i64 ck.width, .int .i64 ck.room, .slice A5 n5 cap5, .int .i64 ck.hits, .int .i64 ck.misses, .int .i64 ck.clashes, .int .i64 ck.evicted] ∧ PartsAt (fun b => b = h ∨ b = g5) wx A d.parts ∧ d.parts.length = n ∧ n ≤ cap ∧ Below w1.heap.size w1 wx ∧ g5 < g
theorem fold_take {zs : List Tri} {k : Nat} {z : Tri} (h : zs[k]? = some z) (c : Ca) : (zs.take (k + 1)).foldl stepC c = stepC ((zs.take k).foldl stepC c) z := by
  obtain ⟨hk, rfl⟩ := List.getElem?_eq_some_iff.1 h
  rw [List.take_succ_eq_append_getElem hk, List.foldl_append]
  rfl
def CacheTold (c : Ca) (w : World) (e : Ending) (w' : World) : Prop :=
  ∃ (A : Option Addr) (n cap : Nat), e = .returned (.agg #[.int .i64 c.width, .int .i64 c.room, .slice A n cap, .int .i64 c.hits, .int .i64 c.misses, .int .i64 c.clashes, .int .i64 c.evicted]) ∧ c.parts.length = n ∧ PartsAt (fun _ => False) w' A c.parts ∧ Below w.heap.size w w' ∧ n ≤ cap

set_option maxHeartbeats 8000000 in
set_option maxRecDepth 100000 in
theorem cache_any (z0 z1 z2 : Int) (A : Option Addr) (zs : List Tri) (n cap : Nat) (w : World) (hz : TriFit (z0, z1, z2)) (ha : TrisAt w A zs) (hn : zs.length = n) (h1 : n ≤ 9223372036854775807) (hf : ∀ z ∈ zs, TriFit z) :
    Calls Try.prog 14 #[.agg #[.int .i64 z0, .int .i64 z1, .int .i64 z2], .slice A n cap] w (CacheTold (cacheOf (z0, z1, z2) zs) w) := by
  subst hn
  have HA := Lib.hid ha
  have HF := Lib.hid hf
  have Hz0 : Hid (I64 z0) := Lib.hid hz.1
  have Hz1 : Hid (I64 z1) := Lib.hid hz.2.1
  have Hz2 : Hid (I64 z2) := Lib.hid hz.2.2
  have Hz3 : Hid (I64 (z2.tdiv 5)) := Lib.hid (by
    have h := hz.2.2
    unfold I64 at *
    simp only at h
    rcases Int.le_total 0 z2 with k | k
    · rw [Int.tdiv_eq_ediv_of_nonneg k]; omega
    · have e : z2.tdiv 5 = -((-z2).tdiv 5) := by rw [Int.neg_tdiv]; omega
      rw [e, Int.tdiv_eq_ediv_of_nonneg (by omega)]; omega)
  have a0 := pickI_range z0 4 (by omega)
  have a1 := pickI_range z1 9 (by omega)
  have a2 := pickI_range z2 5 (by omega)
  have a3 := pickI_range (z2.tdiv 5) 17 (by omega)
  obtain ⟨q0, e0⟩ : ∃ q, pickI z0 4 = q := ⟨_, rfl⟩
  obtain ⟨q1, e1⟩ : ∃ q, pickI z1 9 = q := ⟨_, rfl⟩
  obtain ⟨q2, e2⟩ : ∃ q, pickI z2 5 = q := ⟨_, rfl⟩
  obtain ⟨q3, e3⟩ : ∃ q, pickI (z2.tdiv 5) 17 = q := ⟨_, rfl⟩
  obtain ⟨c0, ec⟩ : ∃ c, cache0 (z0, z1, z2) = c := ⟨_, rfl⟩
  have HC0 : Hid (newC (1 + q0) q1 (q2 * q3) = (c0, 0)) := Lib.hid (by
    have hf := cache0_fits (z0, z1, z2)
    rw [← ec, ← e0, ← e1, ← e2, ← e3]
    unfold cache0 newC at *
    simp only at hf ⊢
    rw [if_pos hf])
  have HEC := Lib.hid ec
  rw [e0] at a0
  rw [e1] at a1
  rw [e2] at a2
  rw [e3] at a3
  have m1 : 0 ≤ q2 * q3 := Int.mul_nonneg a2.1 a3.1
  have m2 : q2 * q3 ≤ 4 * 16 := Int.mul_le_mul (by omega) (by omega) a3.1 (by omega)
  have hw1 : IntKind.i64.wrap (1 + q0) = 1 + q0 := IntWalk.i64_in _ (by omega)
  have hw2 : IntKind.i64.wrap (q2 * q3) = q2 * q3 := IntWalk.i64_in _ (by omega)
  have hw3 : IntKind.i64.wrap (z2.tdiv 5) = z2.tdiv 5 := IntWalk.i64_in _ Hz3.out
  have HQ0 := Lib.hid e0
  have HQ1 := Lib.hid e1
  have HQ2 := Lib.hid e2
  have HQ3 := Lib.hid e3
  clear ha hf hz e0 e1 e2 e3 ec m1 m2
  go_enter Try.func14, Try.ntmps14
  go_wp2_with fail
  have hb0 : Blk ((w.alloc (.cells #[.int .i64 z0, .int .i64 z1, .int .i64 z2] 22)).alloc (.cells #[.int .i64 0, .int .i64 0, .slice none 0 0, .int .i64 0, .int .i64 0, .int .i64 0, .int .i64 0] 28)) w.heap.size 22 #[.int .i64 z0, .int .i64 z1, .int .i64 z2] := (Blk.new w _ _).alloc _
  have hb2 : Blk ((w.alloc (.cells #[.int .i64 z0, .int .i64 z1, .int .i64 z2] 22)).alloc (.cells #[.int .i64 0, .int .i64 0, .slice none 0 0, .int .i64 0, .int .i64 0, .int .i64 0, .int .i64 0] 28)) (w.heap.size + 1) 28 #[.int .i64 0, .int .i64 0, .slice none 0 0, .int .i64 0, .int .i64 0, .int .i64 0, .int .i64 0] := by
    have := Blk.new (w.alloc (.cells #[.int .i64 z0, .int .i64 z1, .int .i64 z2] 22)) 28 #[.int .i64 0, .int .i64 0, .slice none 0 0, .int .i64 0, .int .i64 0, .int .i64 0, .int .i64 0]
    simpa using this
  have hw0 : Below w.heap.size w ((w.alloc (.cells #[.int .i64 z0, .int .i64 z1, .int .i64 z2] 22)).alloc (.cells #[.int .i64 0, .int .i64 0, .slice none 0 0, .int .i64 0, .int .i64 0, .int .i64 0, .int .i64 0] 28)) := ((Below.refl _ _).alloc (Nat.le_refl _) _).alloc (by simp) _
  obtain ⟨w1, hwe⟩ : ∃ w1, w1 = (w.alloc (.cells #[.int .i64 z0, .int .i64 z1, .int .i64 z2] 22)).alloc (.cells #[.int .i64 0, .int .i64 0, .slice none 0 0, .int .i64 0, .int .i64 0, .int .i64 0, .int .i64 0] 28) := ⟨_, rfl⟩
  obtain ⟨g2, hg⟩ : ∃ g, g = w.heap.size := ⟨_, rfl⟩
  obtain ⟨h, hh⟩ : ∃ h, h = w.heap.size + 1 := ⟨_, rfl⟩
  rw [← hwe] at hb0 hb2 hw0 ⊢
  rw [← hh] at hb2 ⊢
  rw [← hg] at hb0
  have HH2 : Hid (w.heap.size ≤ h) := Lib.hid (by omega)
  rw [show (⟨w.heap.size, 0, none⟩ : Addr) = ⟨g2, 0, none⟩ from by rw [hg]]
  have HX1 := Lib.hid hb0
  have HH1 := Lib.hid hb2
  have HW1 := Lib.hid hw0
  have HCZ : Hid (∀ W, Below w1.heap.size w1 W → W.cell? ⟨g2, 0, none⟩ = some (.int .i64 z0) ∧ W.cell? ⟨g2, 1, none⟩ = some (.int .i64 z1) ∧ W.cell? ⟨g2, 2, none⟩ = some (.int .i64 z2)) :=
    Lib.hid fun W hW => ⟨(Blk.below HX1.out hW HX1.out.lt).cell 0, (Blk.below HX1.out hW HX1.out.lt).cell 1, (Blk.below HX1.out hW HX1.out.lt).cell 2⟩
  clear hb0 hb2 hw0 hwe hg hh
  go_cut [5, 6] (fun s5 s6 wx => NewIn w1 h c0 s5 s6 wx)
  case first =>
    refine wp_region_noPanic ?_
    refine wp_region_held_drew (S := fun W => Below w1.heap.size w1 W) (by kernel_rfl) ((Below.refl w1.heap.size w1).drew) (fun hS0 => ?_)
    change wpAnyH _ _ _ _ _ 22 #[false, false, false, false, false, false, false, false, false, false, false, false, false, false, false, false, false, false, false, false, false, false] _ (World.drew _)
    refine wpAnyH_take (i := 0) (v := .pointer (some ⟨g2, 0, none⟩)) rfl (by kernel_rfl) (by kernel_rfl) (by kernel_rfl) (fun _ _ _ h => h) (Or.inl ⟨by rfl, fun w' hS' => by go_simp⟩) hS0 ?_
    change wpAnyH _ _ _ _ _ _ _ (Act.put _ (some 11) (.pointer (some ⟨g2, 0, none⟩))) _
    simp only [Act.put, List.setIfInBounds_toArray, List.set_cons_zero, List.set_cons_succ]
    refine wpAnyH_take (i := 1) (v := .int .i64 z0) rfl (by kernel_rfl) (by kernel_rfl) (by kernel_rfl) (fun _ _ _ h => h) (Or.inl ⟨by rfl, fun w' hS' => by obtain ⟨k0, k1, k2⟩ := HCZ.out _ hS'; go_simp⟩) hS0 ?_
    change wpAnyH _ _ _ _ _ _ _ (Act.put _ (some 12) (.int .i64 z0)) _
    simp only [Act.put, List.setIfInBounds_toArray, List.set_cons_zero, List.set_cons_succ]
    refine wpAnyH_take (i := 4) (v := .pointer (some ⟨g2, 1, none⟩)) rfl (by kernel_rfl) (by kernel_rfl) (by kernel_rfl) (fun _ _ _ h => h) (Or.inl ⟨by rfl, fun w' hS' => by go_simp⟩) hS0 ?_
    change wpAnyH _ _ _ _ _ _ _ (Act.put _ (some 15) (.pointer (some ⟨g2, 1, none⟩))) _
    simp only [Act.put, List.setIfInBounds_toArray, List.set_cons_zero, List.set_cons_succ]
    refine wpAnyH_take (i := 5) (v := .int .i64 z1) rfl (by kernel_rfl) (by kernel_rfl) (by kernel_rfl) (fun _ _ _ h => h) (Or.inl ⟨by rfl, fun w' hS' => by obtain ⟨k0, k1, k2⟩ := HCZ.out _ hS'; go_simp⟩) hS0 ?_
    change wpAnyH _ _ _ _ _ _ _ (Act.put _ (some 16) (.int .i64 z1)) _
    simp only [Act.put, List.setIfInBounds_toArray, List.set_cons_zero, List.set_cons_succ]
    refine wpAnyH_take (i := 7) (v := .pointer (some ⟨g2, 2, none⟩)) rfl (by kernel_rfl) (by kernel_rfl) (by kernel_rfl) (fun _ _ _ h => h) (Or.inl ⟨by rfl, fun w' hS' => by go_simp⟩) hS0 ?_
    change wpAnyH _ _ _ _ _ _ _ (Act.put _ (some 18) (.pointer (some ⟨g2, 2, none⟩))) _
    simp only [Act.put, List.setIfInBounds_toArray, List.set_cons_zero, List.set_cons_succ]
    refine wpAnyH_take (i := 8) (v := .int .i64 z2) rfl (by kernel_rfl) (by kernel_rfl) (by kernel_rfl) (fun _ _ _ h => h) (Or.inl ⟨by rfl, fun w' hS' => by obtain ⟨k0, k1, k2⟩ := HCZ.out _ hS'; go_simp⟩) hS0 ?_
    change wpAnyH _ _ _ _ _ _ _ (Act.put _ (some 19) (.int .i64 z2)) _
    simp only [Act.put, List.setIfInBounds_toArray, List.set_cons_zero, List.set_cons_succ]
    refine wpAnyH_take (i := 10) (v := .pointer (some ⟨g2, 2, none⟩)) rfl (by kernel_rfl) (by kernel_rfl) (by kernel_rfl) (fun _ _ _ h => h) (Or.inl ⟨by rfl, fun w' hS' => by go_simp⟩) hS0 ?_
    change wpAnyH _ _ _ _ _ _ _ (Act.put _ (some 21) (.pointer (some ⟨g2, 2, none⟩))) _
    simp only [Act.put, List.setIfInBounds_toArray, List.set_cons_zero, List.set_cons_succ]
    refine wpAnyH_take (i := 11) (v := .int .i64 z2) rfl (by kernel_rfl) (by kernel_rfl) (by kernel_rfl) (fun _ _ _ h => h) (Or.inl ⟨by rfl, fun w' hS' => by obtain ⟨k0, k1, k2⟩ := HCZ.out _ hS'; go_simp⟩) hS0 ?_
    change wpAnyH _ _ _ _ _ _ _ (Act.put _ (some 22) (.int .i64 z2)) _
    simp only [Act.put, List.setIfInBounds_toArray, List.set_cons_zero, List.set_cons_succ]
    refine wpAnyH_take (i := 12) (v := .int .i64 (z2.tdiv 5)) rfl (by kernel_rfl) (by kernel_rfl) (by kernel_rfl) (fun _ _ _ h => h) (Or.inl ⟨by rfl, fun w' hS' => by go_simp⟩) hS0 ?_
    change wpAnyH _ _ _ _ _ _ _ (Act.put _ (some 23) (.int .i64 (z2.tdiv 5))) _
    simp only [Act.put, List.setIfInBounds_toArray, List.set_cons_zero, List.set_cons_succ]
    refine wpAnyH_ready (rs := [2, 19]) (by kernel_rfl) (by simp) (AllReadyH.cons rfl (fun K hK => ?_) (AllReadyH.cons rfl (fun K hK => ?_) (AllReadyH.nil)))
    · skip
      go_simp
      refine (pick_v z0 4 q0 HQ0.out _ Hz0.out (by omega) (by omega)).mono ?_
      rintro e W ⟨rfl, rfl⟩
      refine hK.out _ _ hS0 (fun hS1 => ?_)
      clear hK K
      simp only [List.setIfInBounds_toArray, List.set_cons_zero, List.set_cons_succ]
      refine wpAnyH_take (i := 3) (v := .int .i64 (1 + q0)) rfl (by kernel_rfl) (by kernel_rfl) (by kernel_rfl) (fun _ _ _ h => h) (Or.inl ⟨by rfl, fun w' hS' => by go_simp⟩) hS1 ?_
      change wpAnyH _ _ _ _ _ _ _ (Act.put _ (some 14) (.int .i64 (1 + q0))) _
      simp only [Act.put, List.setIfInBounds_toArray, List.set_cons_zero, List.set_cons_succ]
      refine wpAnyH_ready (rs := [6, 19]) (by kernel_rfl) (by simp) (AllReadyH.cons rfl (fun K hK => ?_) (AllReadyH.cons rfl (fun K hK => ?_) (AllReadyH.nil)))
      · skip
        go_simp
        refine (pick_v z1 9 q1 HQ1.out _ Hz1.out (by omega) (by omega)).mono ?_
        rintro e W ⟨rfl, rfl⟩
        refine hK.out _ _ hS1 (fun hS2 => ?_)
        clear hK K
        simp only [List.setIfInBounds_toArray, List.set_cons_zero, List.set_cons_succ]
        refine wpAnyH_ready (rs := [9, 19]) (by kernel_rfl) (by simp) (AllReadyH.cons rfl (fun K hK => ?_) (AllReadyH.cons rfl (fun K hK => ?_) (AllReadyH.nil)))
        · skip
          go_simp
          refine (pick_v z2 5 q2 HQ2.out _ Hz2.out (by omega) (by omega)).mono ?_
          rintro e W ⟨rfl, rfl⟩
          refine hK.out _ _ hS2 (fun hS3 => ?_)
          clear hK K
          simp only [List.setIfInBounds_toArray, List.set_cons_zero, List.set_cons_succ]
          refine wpAnyH_ready (rs := [13, 19]) (by kernel_rfl) (by simp) (AllReadyH.cons rfl (fun K hK => ?_) (AllReadyH.cons rfl (fun K hK => ?_) (AllReadyH.nil)))
          · skip
            go_simp
            refine (pick_v (z2.tdiv 5) 17 q3 HQ3.out _ Hz3.out (by omega) (by omega)).mono ?_
            rintro e W ⟨rfl, rfl⟩
            refine hK.out _ _ hS3 (fun hS4 => ?_)
            clear hK K
            simp only [List.setIfInBounds_toArray, List.set_cons_zero, List.set_cons_succ]
            refine wpAnyH_take (i := 14) (v := .int .i64 (q2 * q3)) rfl (by kernel_rfl) (by kernel_rfl) (by kernel_rfl) (fun _ _ _ h => h) (Or.inl ⟨by rfl, fun w' hS' => by go_simp⟩) hS4 ?_
            change wpAnyH _ _ _ _ _ _ _ (Act.put _ (some 25) (.int .i64 (q2 * q3))) _
            simp only [Act.put, List.setIfInBounds_toArray, List.set_cons_zero, List.set_cons_succ]
            refine wpAnyH_ready (rs := [15, 19]) (by kernel_rfl) (by simp) (AllReadyH.cons rfl (fun K hK => ?_) (AllReadyH.cons rfl (fun K hK => ?_) (AllReadyH.nil)))
            · skip
              go_simp
              refine (rnewC_any (1 + q0) q1 (q2 * q3) _ c0 0 HC0.out (fun b => b = h) (fun b e => (fun e => by rw [e]; exact Nat.lt_of_lt_of_le HH1.out.lt (hS4).size) e)).mono ?_
              rintro e W5 ⟨A8, n9, cp10, rfl, hn11, hp12, hb7, hc13⟩
              refine hK.out _ _ (hS4.trans (hb7.mono hS4.size)) (fun hS6 => ?_)
              clear hK K
              simp only [List.setIfInBounds_toArray, List.set_cons_zero, List.set_cons_succ]
              refine wpAnyH_take (i := 16) (v := .tuple #[.agg #[.int .i64 c0.width, .int .i64 c0.room, .slice A8 n9 cp10, .int .i64 c0.hits, .int .i64 c0.misses, .int .i64 c0.clashes, .int .i64 c0.evicted], .int .i64 0]) rfl (by kernel_rfl) (by kernel_rfl) (by kernel_rfl) (fun _ _ _ h => h) (Or.inl ⟨by rfl, fun w' hS' => by exact op_move rfl rfl⟩) hS6 ?_
              change wpAnyH _ _ _ _ _ _ _ (Act.put _ (some 10) (.tuple #[.agg #[.int .i64 c0.width, .int .i64 c0.room, .slice A8 n9 cp10, .int .i64 c0.hits, .int .i64 c0.misses, .int .i64 c0.clashes, .int .i64 c0.evicted], .int .i64 0])) _
              simp only [Act.put, List.setIfInBounds_toArray, List.set_cons_zero, List.set_cons_succ]
              refine wpAnyH_take (i := 17) (v := .agg #[.int .i64 c0.width, .int .i64 c0.room, .slice A8 n9 cp10, .int .i64 c0.hits, .int .i64 c0.misses, .int .i64 c0.clashes, .int .i64 c0.evicted]) rfl (by kernel_rfl) (by kernel_rfl) (by kernel_rfl) (fun _ _ _ h => h) (Or.inl ⟨by rfl, fun w' hS' => by go_simp⟩) hS6 ?_
              change wpAnyH _ _ _ _ _ _ _ (Act.put _ (some 27) (.agg #[.int .i64 c0.width, .int .i64 c0.room, .slice A8 n9 cp10, .int .i64 c0.hits, .int .i64 c0.misses, .int .i64 c0.clashes, .int .i64 c0.evicted])) _
              simp only [Act.put, List.setIfInBounds_toArray, List.set_cons_zero, List.set_cons_succ]
              refine wpAnyH_take (i := 18) (v := .int .i64 0) rfl (by kernel_rfl) (by kernel_rfl) (by kernel_rfl) (fun _ _ _ h => h) (Or.inl ⟨by rfl, fun w' hS' => by go_simp⟩) hS6 ?_
              change wpAnyH _ _ _ _ _ _ _ (Act.put _ (some 28) (.int .i64 0)) _
              simp only [Act.put, List.setIfInBounds_toArray, List.set_cons_zero, List.set_cons_succ]
              refine wpAnyH_ready (rs := [19]) (by kernel_rfl) (by simp) (AllReadyH.cons rfl (fun K hK => ?_) (AllReadyH.nil))
              · skip
                obtain ⟨g15, W14, hr18, hk19, hb17, hg20⟩ := op_allocC W5
                refine step_op_run (hr18 _ _ rfl) rfl ?_
                refine hK.out _ _ (hS6.trans (hb17.mono hS6.size)) (fun hS16 => ?_)
                clear hK K
                change wpAnyH _ _ _ _ _ _ _ (Act.put _ (some 5) (.pointer (some ⟨g15, 0, none⟩))) _
                simp only [Act.put, List.setIfInBounds_toArray, List.set_cons_zero, List.set_cons_succ]
                refine wpAnyH_ready (rs := [20]) (by kernel_rfl) (by simp) (AllReadyH.cons rfl (fun K hK => ?_) (AllReadyH.nil))
                · skip
                  obtain ⟨W21, hr23, hk24, hgr25⟩ := op_store7 hk19 c0.width c0.room A8 n9 cp10 c0.hits c0.misses c0.clashes c0.evicted
                  refine step_op_skip (hr23 _ _ _ _ rfl rfl rfl) rfl ?_
                  refine hK.out _ _ (hS16.grown hgr25 hS16.size (fun b e => by injection e with e; rw [← e]; exact Nat.le_trans (hS6).size hg20)) (fun hS22 => ?_)
                  clear hK K
                  change wpAnyH _ _ _ _ _ _ _ (Act.put _ none (undef)) _
                  simp only [Act.put]
                  refine wpAnyH_take (i := 21) (v := .int .i64 0) rfl (by kernel_rfl) (by kernel_rfl) (by kernel_rfl) (fun _ _ _ h => h) (Or.inl ⟨by rfl, fun w' hS' => by exact op_assign rfl rfl⟩) hS22 ?_
                  change wpAnyH _ _ _ _ _ _ _ (Act.put _ (some 6) (.int .i64 0)) _
                  simp only [Act.put, List.setIfInBounds_toArray, List.set_cons_zero, List.set_cons_succ]
                  refine wpAnyH_done (by kernel_rfl) ?_ _
                  refine NoPanic.normal ?_
                  go_wp2_with fail
                  go_meet
                  exact ⟨g15, A8, n9, cp10, rfl, rfl, hk24, PartsAt.kept (PartsAt.up (hp12.add hg20) hb17) hgr25 (Or.inr rfl), hn11, hc13, hS22, Nat.le_trans (hS6).size hg20⟩
            · skip
              obtain ⟨g27, W26, hr30, hk31, hb29, hg32⟩ := op_allocC w1.drew
              refine step_op_run (hr30 _ _ rfl) rfl ?_
              refine hK.out _ _ (hS4.trans (hb29.mono hS4.size)) (fun hS28 => ?_)
              clear hK K
              change wpAnyH _ _ _ _ _ _ _ (Act.put _ (some 5) (.pointer (some ⟨g27, 0, none⟩))) _
              simp only [Act.put, List.setIfInBounds_toArray, List.set_cons_zero, List.set_cons_succ]
              refine wpAnyH_ready (rs := [15]) (by kernel_rfl) (by simp) (AllReadyH.cons rfl (fun K hK => ?_) (AllReadyH.nil))
              · skip
                go_simp
                refine (rnewC_any (1 + q0) q1 (q2 * q3) _ c0 0 HC0.out (fun b => b = h ∨ b = g27) (fun b e => e.elim (fun e => by rw [e]; exact Nat.lt_of_lt_of_le HH1.out.lt (hS28).size) (fun e => by rw [e]; exact (hk31).lt))).mono ?_
                rintro e W33 ⟨A36, n37, cp38, rfl, hn39, hp40, hb35, hc41⟩
                refine hK.out _ _ (hS28.trans (hb35.mono hS28.size)) (fun hS34 => ?_)
                clear hK K
                simp only [List.setIfInBounds_toArray, List.set_cons_zero, List.set_cons_succ]
                refine wpAnyH_take (i := 16) (v := .tuple #[.agg #[.int .i64 c0.width, .int .i64 c0.room, .slice A36 n37 cp38, .int .i64 c0.hits, .int .i64 c0.misses, .int .i64 c0.clashes, .int .i64 c0.evicted], .int .i64 0]) rfl (by kernel_rfl) (by kernel_rfl) (by kernel_rfl) (fun _ _ _ h => h) (Or.inl ⟨by rfl, fun w' hS' => by exact op_move rfl rfl⟩) hS34 ?_
                change wpAnyH _ _ _ _ _ _ _ (Act.put _ (some 10) (.tuple #[.agg #[.int .i64 c0.width, .int .i64 c0.room, .slice A36 n37 cp38, .int .i64 c0.hits, .int .i64 c0.misses, .int .i64 c0.clashes, .int .i64 c0.evicted], .int .i64 0])) _
                simp only [Act.put, List.setIfInBounds_toArray, List.set_cons_zero, List.set_cons_succ]
                refine wpAnyH_take (i := 17) (v := .agg #[.int .i64 c0.width, .int .i64 c0.room, .slice A36 n37 cp38, .int .i64 c0.hits, .int .i64 c0.misses, .int .i64 c0.clashes, .int .i64 c0.evicted]) rfl (by kernel_rfl) (by kernel_rfl) (by kernel_rfl) (fun _ _ _ h => h) (Or.inl ⟨by rfl, fun w' hS' => by go_simp⟩) hS34 ?_
                change wpAnyH _ _ _ _ _ _ _ (Act.put _ (some 27) (.agg #[.int .i64 c0.width, .int .i64 c0.room, .slice A36 n37 cp38, .int .i64 c0.hits, .int .i64 c0.misses, .int .i64 c0.clashes, .int .i64 c0.evicted])) _
                simp only [Act.put, List.setIfInBounds_toArray, List.set_cons_zero, List.set_cons_succ]
                refine wpAnyH_take (i := 18) (v := .int .i64 0) rfl (by kernel_rfl) (by kernel_rfl) (by kernel_rfl) (fun _ _ _ h => h) (Or.inl ⟨by rfl, fun w' hS' => by go_simp⟩) hS34 ?_
                change wpAnyH _ _ _ _ _ _ _ (Act.put _ (some 28) (.int .i64 0)) _
                simp only [Act.put, List.setIfInBounds_toArray, List.set_cons_zero, List.set_cons_succ]
                refine wpAnyH_ready (rs := [20]) (by kernel_rfl) (by simp) (AllReadyH.cons rfl (fun K hK => ?_) (AllReadyH.nil))
                · skip
                  obtain ⟨W42, hr44, hk45, hgr46⟩ := op_store7 (Blk.below hk31 hb35 hk31.lt) c0.width c0.room A36 n37 cp38 c0.hits c0.misses c0.clashes c0.evicted
                  refine step_op_skip (hr44 _ _ _ _ rfl rfl rfl) rfl ?_
                  refine hK.out _ _ (hS34.grown hgr46 hS34.size (fun b e => by injection e with e; rw [← e]; exact Nat.le_trans (hS4).size hg32)) (fun hS43 => ?_)
                  clear hK K
                  change wpAnyH _ _ _ _ _ _ _ (Act.put _ none (undef)) _
                  simp only [Act.put]
                  refine wpAnyH_take (i := 21) (v := .int .i64 0) rfl (by kernel_rfl) (by kernel_rfl) (by kernel_rfl) (fun _ _ _ h => h) (Or.inl ⟨by rfl, fun w' hS' => by exact op_assign rfl rfl⟩) hS43 ?_
                  change wpAnyH _ _ _ _ _ _ _ (Act.put _ (some 6) (.int .i64 0)) _
                  simp only [Act.put, List.setIfInBounds_toArray, List.set_cons_zero, List.set_cons_succ]
                  refine wpAnyH_done (by kernel_rfl) ?_ _
                  refine NoPanic.normal ?_
                  go_wp2_with fail
                  go_meet
                  exact ⟨g27, A36, n37, cp38, rfl, rfl, hk45, PartsAt.kept hp40 hgr46 (Or.inr rfl), hn39, hc41, hS43, Nat.le_trans (hS4).size hg32⟩
          · skip
            obtain ⟨g48, W47, hr51, hk52, hb50, hg53⟩ := op_allocC w1.drew
            refine step_op_run (hr51 _ _ rfl) rfl ?_
            refine hK.out _ _ (hS3.trans (hb50.mono hS3.size)) (fun hS49 => ?_)
            clear hK K
            change wpAnyH _ _ _ _ _ _ _ (Act.put _ (some 5) (.pointer (some ⟨g48, 0, none⟩))) _
            simp only [Act.put, List.setIfInBounds_toArray, List.set_cons_zero, List.set_cons_succ]
            refine wpAnyH_ready (rs := [13]) (by kernel_rfl) (by simp) (AllReadyH.cons rfl (fun K hK => ?_) (AllReadyH.nil))
            · skip
              go_simp
              refine (pick_v (z2.tdiv 5) 17 q3 HQ3.out _ Hz3.out (by omega) (by omega)).mono ?_
              rintro e W ⟨rfl, rfl⟩
              refine hK.out _ _ hS49 (fun hS54 => ?_)
              clear hK K
              simp only [List.setIfInBounds_toArray, List.set_cons_zero, List.set_cons_succ]
              refine wpAnyH_take (i := 14) (v := .int .i64 (q2 * q3)) rfl (by kernel_rfl) (by kernel_rfl) (by kernel_rfl) (fun _ _ _ h => h) (Or.inl ⟨by rfl, fun w' hS' => by go_simp⟩) hS54 ?_
              change wpAnyH _ _ _ _ _ _ _ (Act.put _ (some 25) (.int .i64 (q2 * q3))) _
              simp only [Act.put, List.setIfInBounds_toArray, List.set_cons_zero, List.set_cons_succ]
              refine wpAnyH_ready (rs := [15]) (by kernel_rfl) (by simp) (AllReadyH.cons rfl (fun K hK => ?_) (AllReadyH.nil))
              · skip
                go_simp
                refine (rnewC_any (1 + q0) q1 (q2 * q3) _ c0 0 HC0.out (fun b => b = h ∨ b = g48) (fun b e => e.elim (fun e => by rw [e]; exact Nat.lt_of_lt_of_le HH1.out.lt (hS54).size) (fun e => by rw [e]; exact (hk52).lt))).mono ?_
                rintro e W55 ⟨A58, n59, cp60, rfl, hn61, hp62, hb57, hc63⟩
                refine hK.out _ _ (hS54.trans (hb57.mono hS54.size)) (fun hS56 => ?_)
                clear hK K
                simp only [List.setIfInBounds_toArray, List.set_cons_zero, List.set_cons_succ]
                refine wpAnyH_take (i := 16) (v := .tuple #[.agg #[.int .i64 c0.width, .int .i64 c0.room, .slice A58 n59 cp60, .int .i64 c0.hits, .int .i64 c0.misses, .int .i64 c0.clashes, .int .i64 c0.evicted], .int .i64 0]) rfl (by kernel_rfl) (by kernel_rfl) (by kernel_rfl) (fun _ _ _ h => h) (Or.inl ⟨by rfl, fun w' hS' => by exact op_move rfl rfl⟩) hS56 ?_
                change wpAnyH _ _ _ _ _ _ _ (Act.put _ (some 10) (.tuple #[.agg #[.int .i64 c0.width, .int .i64 c0.room, .slice A58 n59 cp60, .int .i64 c0.hits, .int .i64 c0.misses, .int .i64 c0.clashes, .int .i64 c0.evicted], .int .i64 0])) _
                simp only [Act.put, List.setIfInBounds_toArray, List.set_cons_zero, List.set_cons_succ]
                refine wpAnyH_take (i := 17) (v := .agg #[.int .i64 c0.width, .int .i64 c0.room, .slice A58 n59 cp60, .int .i64 c0.hits, .int .i64 c0.misses, .int .i64 c0.clashes, .int .i64 c0.evicted]) rfl (by kernel_rfl) (by kernel_rfl) (by kernel_rfl) (fun _ _ _ h => h) (Or.inl ⟨by rfl, fun w' hS' => by go_simp⟩) hS56 ?_
                change wpAnyH _ _ _ _ _ _ _ (Act.put _ (some 27) (.agg #[.int .i64 c0.width, .int .i64 c0.room, .slice A58 n59 cp60, .int .i64 c0.hits, .int .i64 c0.misses, .int .i64 c0.clashes, .int .i64 c0.evicted])) _
                simp only [Act.put, List.setIfInBounds_toArray, List.set_cons_zero, List.set_cons_succ]
                refine wpAnyH_take (i := 18) (v := .int .i64 0) rfl (by kernel_rfl) (by kernel_rfl) (by kernel_rfl) (fun _ _ _ h => h) (Or.inl ⟨by rfl, fun w' hS' => by go_simp⟩) hS56 ?_
                change wpAnyH _ _ _ _ _ _ _ (Act.put _ (some 28) (.int .i64 0)) _
                simp only [Act.put, List.setIfInBounds_toArray, List.set_cons_zero, List.set_cons_succ]
                refine wpAnyH_ready (rs := [20]) (by kernel_rfl) (by simp) (AllReadyH.cons rfl (fun K hK => ?_) (AllReadyH.nil))
                · skip
                  obtain ⟨W64, hr66, hk67, hgr68⟩ := op_store7 (Blk.below hk52 hb57 hk52.lt) c0.width c0.room A58 n59 cp60 c0.hits c0.misses c0.clashes c0.evicted
                  refine step_op_skip (hr66 _ _ _ _ rfl rfl rfl) rfl ?_
                  refine hK.out _ _ (hS56.grown hgr68 hS56.size (fun b e => by injection e with e; rw [← e]; exact Nat.le_trans (hS3).size hg53)) (fun hS65 => ?_)
                  clear hK K
                  change wpAnyH _ _ _ _ _ _ _ (Act.put _ none (undef)) _
                  simp only [Act.put]
                  refine wpAnyH_take (i := 21) (v := .int .i64 0) rfl (by kernel_rfl) (by kernel_rfl) (by kernel_rfl) (fun _ _ _ h => h) (Or.inl ⟨by rfl, fun w' hS' => by exact op_assign rfl rfl⟩) hS65 ?_
                  change wpAnyH _ _ _ _ _ _ _ (Act.put _ (some 6) (.int .i64 0)) _
                  simp only [Act.put, List.setIfInBounds_toArray, List.set_cons_zero, List.set_cons_succ]
                  refine wpAnyH_done (by kernel_rfl) ?_ _
                  refine NoPanic.normal ?_
                  go_wp2_with fail
                  go_meet
                  exact ⟨g48, A58, n59, cp60, rfl, rfl, hk67, PartsAt.kept hp62 hgr68 (Or.inr rfl), hn61, hc63, hS65, Nat.le_trans (hS3).size hg53⟩
        · skip
          obtain ⟨g70, W69, hr73, hk74, hb72, hg75⟩ := op_allocC w1.drew
          refine step_op_run (hr73 _ _ rfl) rfl ?_
          refine hK.out _ _ (hS2.trans (hb72.mono hS2.size)) (fun hS71 => ?_)
          clear hK K
          change wpAnyH _ _ _ _ _ _ _ (Act.put _ (some 5) (.pointer (some ⟨g70, 0, none⟩))) _
          simp only [Act.put, List.setIfInBounds_toArray, List.set_cons_zero, List.set_cons_succ]
          refine wpAnyH_ready (rs := [9]) (by kernel_rfl) (by simp) (AllReadyH.cons rfl (fun K hK => ?_) (AllReadyH.nil))
          · skip
            go_simp
            refine (pick_v z2 5 q2 HQ2.out _ Hz2.out (by omega) (by omega)).mono ?_
            rintro e W ⟨rfl, rfl⟩
            refine hK.out _ _ hS71 (fun hS76 => ?_)
            clear hK K
            simp only [List.setIfInBounds_toArray, List.set_cons_zero, List.set_cons_succ]
            refine wpAnyH_ready (rs := [13]) (by kernel_rfl) (by simp) (AllReadyH.cons rfl (fun K hK => ?_) (AllReadyH.nil))
            · skip
              go_simp
              refine (pick_v (z2.tdiv 5) 17 q3 HQ3.out _ Hz3.out (by omega) (by omega)).mono ?_
              rintro e W ⟨rfl, rfl⟩
              refine hK.out _ _ hS76 (fun hS77 => ?_)
              clear hK K
              simp only [List.setIfInBounds_toArray, List.set_cons_zero, List.set_cons_succ]
              refine wpAnyH_take (i := 14) (v := .int .i64 (q2 * q3)) rfl (by kernel_rfl) (by kernel_rfl) (by kernel_rfl) (fun _ _ _ h => h) (Or.inl ⟨by rfl, fun w' hS' => by go_simp⟩) hS77 ?_
              change wpAnyH _ _ _ _ _ _ _ (Act.put _ (some 25) (.int .i64 (q2 * q3))) _
              simp only [Act.put, List.setIfInBounds_toArray, List.set_cons_zero, List.set_cons_succ]
              refine wpAnyH_ready (rs := [15]) (by kernel_rfl) (by simp) (AllReadyH.cons rfl (fun K hK => ?_) (AllReadyH.nil))
              · skip
                go_simp
                refine (rnewC_any (1 + q0) q1 (q2 * q3) _ c0 0 HC0.out (fun b => b = h ∨ b = g70) (fun b e => e.elim (fun e => by rw [e]; exact Nat.lt_of_lt_of_le HH1.out.lt (hS77).size) (fun e => by rw [e]; exact (hk74).lt))).mono ?_
                rintro e W78 ⟨A81, n82, cp83, rfl, hn84, hp85, hb80, hc86⟩
                refine hK.out _ _ (hS77.trans (hb80.mono hS77.size)) (fun hS79 => ?_)
                clear hK K
                simp only [List.setIfInBounds_toArray, List.set_cons_zero, List.set_cons_succ]
                refine wpAnyH_take (i := 16) (v := .tuple #[.agg #[.int .i64 c0.width, .int .i64 c0.room, .slice A81 n82 cp83, .int .i64 c0.hits, .int .i64 c0.misses, .int .i64 c0.clashes, .int .i64 c0.evicted], .int .i64 0]) rfl (by kernel_rfl) (by kernel_rfl) (by kernel_rfl) (fun _ _ _ h => h) (Or.inl ⟨by rfl, fun w' hS' => by exact op_move rfl rfl⟩) hS79 ?_
                change wpAnyH _ _ _ _ _ _ _ (Act.put _ (some 10) (.tuple #[.agg #[.int .i64 c0.width, .int .i64 c0.room, .slice A81 n82 cp83, .int .i64 c0.hits, .int .i64 c0.misses, .int .i64 c0.clashes, .int .i64 c0.evicted], .int .i64 0])) _
                simp only [Act.put, List.setIfInBounds_toArray, List.set_cons_zero, List.set_cons_succ]
                refine wpAnyH_take (i := 17) (v := .agg #[.int .i64 c0.width, .int .i64 c0.room, .slice A81 n82 cp83, .int .i64 c0.hits, .int .i64 c0.misses, .int .i64 c0.clashes, .int .i64 c0.evicted]) rfl (by kernel_rfl) (by kernel_rfl) (by kernel_rfl) (fun _ _ _ h => h) (Or.inl ⟨by rfl, fun w' hS' => by go_simp⟩) hS79 ?_
                change wpAnyH _ _ _ _ _ _ _ (Act.put _ (some 27) (.agg #[.int .i64 c0.width, .int .i64 c0.room, .slice A81 n82 cp83, .int .i64 c0.hits, .int .i64 c0.misses, .int .i64 c0.clashes, .int .i64 c0.evicted])) _
                simp only [Act.put, List.setIfInBounds_toArray, List.set_cons_zero, List.set_cons_succ]
                refine wpAnyH_take (i := 18) (v := .int .i64 0) rfl (by kernel_rfl) (by kernel_rfl) (by kernel_rfl) (fun _ _ _ h => h) (Or.inl ⟨by rfl, fun w' hS' => by go_simp⟩) hS79 ?_
                change wpAnyH _ _ _ _ _ _ _ (Act.put _ (some 28) (.int .i64 0)) _
                simp only [Act.put, List.setIfInBounds_toArray, List.set_cons_zero, List.set_cons_succ]
                refine wpAnyH_ready (rs := [20]) (by kernel_rfl) (by simp) (AllReadyH.cons rfl (fun K hK => ?_) (AllReadyH.nil))
                · skip
                  obtain ⟨W87, hr89, hk90, hgr91⟩ := op_store7 (Blk.below hk74 hb80 hk74.lt) c0.width c0.room A81 n82 cp83 c0.hits c0.misses c0.clashes c0.evicted
                  refine step_op_skip (hr89 _ _ _ _ rfl rfl rfl) rfl ?_
                  refine hK.out _ _ (hS79.grown hgr91 hS79.size (fun b e => by injection e with e; rw [← e]; exact Nat.le_trans (hS2).size hg75)) (fun hS88 => ?_)
                  clear hK K
                  change wpAnyH _ _ _ _ _ _ _ (Act.put _ none (undef)) _
                  simp only [Act.put]
                  refine wpAnyH_take (i := 21) (v := .int .i64 0) rfl (by kernel_rfl) (by kernel_rfl) (by kernel_rfl) (fun _ _ _ h => h) (Or.inl ⟨by rfl, fun w' hS' => by exact op_assign rfl rfl⟩) hS88 ?_
                  change wpAnyH _ _ _ _ _ _ _ (Act.put _ (some 6) (.int .i64 0)) _
                  simp only [Act.put, List.setIfInBounds_toArray, List.set_cons_zero, List.set_cons_succ]
                  refine wpAnyH_done (by kernel_rfl) ?_ _
                  refine NoPanic.normal ?_
                  go_wp2_with fail
                  go_meet
                  exact ⟨g70, A81, n82, cp83, rfl, rfl, hk90, PartsAt.kept hp85 hgr91 (Or.inr rfl), hn84, hc86, hS88, Nat.le_trans (hS2).size hg75⟩
      · skip
        obtain ⟨g93, W92, hr96, hk97, hb95, hg98⟩ := op_allocC w1.drew
        refine step_op_run (hr96 _ _ rfl) rfl ?_
        refine hK.out _ _ (hS1.trans (hb95.mono hS1.size)) (fun hS94 => ?_)
        clear hK K
        change wpAnyH _ _ _ _ _ _ _ (Act.put _ (some 5) (.pointer (some ⟨g93, 0, none⟩))) _
        simp only [Act.put, List.setIfInBounds_toArray, List.set_cons_zero, List.set_cons_succ]
        refine wpAnyH_ready (rs := [6]) (by kernel_rfl) (by simp) (AllReadyH.cons rfl (fun K hK => ?_) (AllReadyH.nil))
        · skip
          go_simp
          refine (pick_v z1 9 q1 HQ1.out _ Hz1.out (by omega) (by omega)).mono ?_
          rintro e W ⟨rfl, rfl⟩
          refine hK.out _ _ hS94 (fun hS99 => ?_)
          clear hK K
          simp only [List.setIfInBounds_toArray, List.set_cons_zero, List.set_cons_succ]
          refine wpAnyH_ready (rs := [9]) (by kernel_rfl) (by simp) (AllReadyH.cons rfl (fun K hK => ?_) (AllReadyH.nil))
          · skip
            go_simp
            refine (pick_v z2 5 q2 HQ2.out _ Hz2.out (by omega) (by omega)).mono ?_
            rintro e W ⟨rfl, rfl⟩
            refine hK.out _ _ hS99 (fun hS100 => ?_)
            clear hK K
            simp only [List.setIfInBounds_toArray, List.set_cons_zero, List.set_cons_succ]
            refine wpAnyH_ready (rs := [13]) (by kernel_rfl) (by simp) (AllReadyH.cons rfl (fun K hK => ?_) (AllReadyH.nil))
            · skip
              go_simp
              refine (pick_v (z2.tdiv 5) 17 q3 HQ3.out _ Hz3.out (by omega) (by omega)).mono ?_
              rintro e W ⟨rfl, rfl⟩
              refine hK.out _ _ hS100 (fun hS101 => ?_)
              clear hK K
              simp only [List.setIfInBounds_toArray, List.set_cons_zero, List.set_cons_succ]
              refine wpAnyH_take (i := 14) (v := .int .i64 (q2 * q3)) rfl (by kernel_rfl) (by kernel_rfl) (by kernel_rfl) (fun _ _ _ h => h) (Or.inl ⟨by rfl, fun w' hS' => by go_simp⟩) hS101 ?_
              change wpAnyH _ _ _ _ _ _ _ (Act.put _ (some 25) (.int .i64 (q2 * q3))) _
              simp only [Act.put, List.setIfInBounds_toArray, List.set_cons_zero, List.set_cons_succ]
              refine wpAnyH_ready (rs := [15]) (by kernel_rfl) (by simp) (AllReadyH.cons rfl (fun K hK => ?_) (AllReadyH.nil))
              · skip
                go_simp
                refine (rnewC_any (1 + q0) q1 (q2 * q3) _ c0 0 HC0.out (fun b => b = h ∨ b = g93) (fun b e => e.elim (fun e => by rw [e]; exact Nat.lt_of_lt_of_le HH1.out.lt (hS101).size) (fun e => by rw [e]; exact (hk97).lt))).mono ?_
                rintro e W102 ⟨A105, n106, cp107, rfl, hn108, hp109, hb104, hc110⟩
                refine hK.out _ _ (hS101.trans (hb104.mono hS101.size)) (fun hS103 => ?_)
                clear hK K
                simp only [List.setIfInBounds_toArray, List.set_cons_zero, List.set_cons_succ]
                refine wpAnyH_take (i := 16) (v := .tuple #[.agg #[.int .i64 c0.width, .int .i64 c0.room, .slice A105 n106 cp107, .int .i64 c0.hits, .int .i64 c0.misses, .int .i64 c0.clashes, .int .i64 c0.evicted], .int .i64 0]) rfl (by kernel_rfl) (by kernel_rfl) (by kernel_rfl) (fun _ _ _ h => h) (Or.inl ⟨by rfl, fun w' hS' => by exact op_move rfl rfl⟩) hS103 ?_
                change wpAnyH _ _ _ _ _ _ _ (Act.put _ (some 10) (.tuple #[.agg #[.int .i64 c0.width, .int .i64 c0.room, .slice A105 n106 cp107, .int .i64 c0.hits, .int .i64 c0.misses, .int .i64 c0.clashes, .int .i64 c0.evicted], .int .i64 0])) _
                simp only [Act.put, List.setIfInBounds_toArray, List.set_cons_zero, List.set_cons_succ]
                refine wpAnyH_take (i := 17) (v := .agg #[.int .i64 c0.width, .int .i64 c0.room, .slice A105 n106 cp107, .int .i64 c0.hits, .int .i64 c0.misses, .int .i64 c0.clashes, .int .i64 c0.evicted]) rfl (by kernel_rfl) (by kernel_rfl) (by kernel_rfl) (fun _ _ _ h => h) (Or.inl ⟨by rfl, fun w' hS' => by go_simp⟩) hS103 ?_
                change wpAnyH _ _ _ _ _ _ _ (Act.put _ (some 27) (.agg #[.int .i64 c0.width, .int .i64 c0.room, .slice A105 n106 cp107, .int .i64 c0.hits, .int .i64 c0.misses, .int .i64 c0.clashes, .int .i64 c0.evicted])) _
                simp only [Act.put, List.setIfInBounds_toArray, List.set_cons_zero, List.set_cons_succ]
                refine wpAnyH_take (i := 18) (v := .int .i64 0) rfl (by kernel_rfl) (by kernel_rfl) (by kernel_rfl) (fun _ _ _ h => h) (Or.inl ⟨by rfl, fun w' hS' => by go_simp⟩) hS103 ?_
                change wpAnyH _ _ _ _ _ _ _ (Act.put _ (some 28) (.int .i64 0)) _
                simp only [Act.put, List.setIfInBounds_toArray, List.set_cons_zero, List.set_cons_succ]
                refine wpAnyH_ready (rs := [20]) (by kernel_rfl) (by simp) (AllReadyH.cons rfl (fun K hK => ?_) (AllReadyH.nil))
                · skip
                  obtain ⟨W111, hr113, hk114, hgr115⟩ := op_store7 (Blk.below hk97 hb104 hk97.lt) c0.width c0.room A105 n106 cp107 c0.hits c0.misses c0.clashes c0.evicted
                  refine step_op_skip (hr113 _ _ _ _ rfl rfl rfl) rfl ?_
                  refine hK.out _ _ (hS103.grown hgr115 hS103.size (fun b e => by injection e with e; rw [← e]; exact Nat.le_trans (hS1).size hg98)) (fun hS112 => ?_)
                  clear hK K
                  change wpAnyH _ _ _ _ _ _ _ (Act.put _ none (undef)) _
                  simp only [Act.put]
                  refine wpAnyH_take (i := 21) (v := .int .i64 0) rfl (by kernel_rfl) (by kernel_rfl) (by kernel_rfl) (fun _ _ _ h => h) (Or.inl ⟨by rfl, fun w' hS' => by exact op_assign rfl rfl⟩) hS112 ?_
                  change wpAnyH _ _ _ _ _ _ _ (Act.put _ (some 6) (.int .i64 0)) _
                  simp only [Act.put, List.setIfInBounds_toArray, List.set_cons_zero, List.set_cons_succ]
                  refine wpAnyH_done (by kernel_rfl) ?_ _
                  refine NoPanic.normal ?_
                  go_wp2_with fail
                  go_meet
                  exact ⟨g93, A105, n106, cp107, rfl, rfl, hk114, PartsAt.kept hp109 hgr115 (Or.inr rfl), hn108, hc110, hS112, Nat.le_trans (hS1).size hg98⟩
    · skip
      obtain ⟨g117, W116, hr120, hk121, hb119, hg122⟩ := op_allocC w1.drew
      refine step_op_run (hr120 _ _ rfl) rfl ?_
      refine hK.out _ _ (hS0.trans (hb119.mono hS0.size)) (fun hS118 => ?_)
      clear hK K
      change wpAnyH _ _ _ _ _ _ _ (Act.put _ (some 5) (.pointer (some ⟨g117, 0, none⟩))) _
      simp only [Act.put, List.setIfInBounds_toArray, List.set_cons_zero, List.set_cons_succ]
      refine wpAnyH_ready (rs := [2]) (by kernel_rfl) (by simp) (AllReadyH.cons rfl (fun K hK => ?_) (AllReadyH.nil))
      · skip
        go_simp
        refine (pick_v z0 4 q0 HQ0.out _ Hz0.out (by omega) (by omega)).mono ?_
        rintro e W ⟨rfl, rfl⟩
        refine hK.out _ _ hS118 (fun hS123 => ?_)
        clear hK K
        simp only [List.setIfInBounds_toArray, List.set_cons_zero, List.set_cons_succ]
        refine wpAnyH_take (i := 3) (v := .int .i64 (1 + q0)) rfl (by kernel_rfl) (by kernel_rfl) (by kernel_rfl) (fun _ _ _ h => h) (Or.inl ⟨by rfl, fun w' hS' => by go_simp⟩) hS123 ?_
        change wpAnyH _ _ _ _ _ _ _ (Act.put _ (some 14) (.int .i64 (1 + q0))) _
        simp only [Act.put, List.setIfInBounds_toArray, List.set_cons_zero, List.set_cons_succ]
        refine wpAnyH_ready (rs := [6]) (by kernel_rfl) (by simp) (AllReadyH.cons rfl (fun K hK => ?_) (AllReadyH.nil))
        · skip
          go_simp
          refine (pick_v z1 9 q1 HQ1.out _ Hz1.out (by omega) (by omega)).mono ?_
          rintro e W ⟨rfl, rfl⟩
          refine hK.out _ _ hS123 (fun hS124 => ?_)
          clear hK K
          simp only [List.setIfInBounds_toArray, List.set_cons_zero, List.set_cons_succ]
          refine wpAnyH_ready (rs := [9]) (by kernel_rfl) (by simp) (AllReadyH.cons rfl (fun K hK => ?_) (AllReadyH.nil))
          · skip
            go_simp
            refine (pick_v z2 5 q2 HQ2.out _ Hz2.out (by omega) (by omega)).mono ?_
            rintro e W ⟨rfl, rfl⟩
            refine hK.out _ _ hS124 (fun hS125 => ?_)
            clear hK K
            simp only [List.setIfInBounds_toArray, List.set_cons_zero, List.set_cons_succ]
            refine wpAnyH_ready (rs := [13]) (by kernel_rfl) (by simp) (AllReadyH.cons rfl (fun K hK => ?_) (AllReadyH.nil))
            · skip
              go_simp
              refine (pick_v (z2.tdiv 5) 17 q3 HQ3.out _ Hz3.out (by omega) (by omega)).mono ?_
              rintro e W ⟨rfl, rfl⟩
              refine hK.out _ _ hS125 (fun hS126 => ?_)
              clear hK K
              simp only [List.setIfInBounds_toArray, List.set_cons_zero, List.set_cons_succ]
              refine wpAnyH_take (i := 14) (v := .int .i64 (q2 * q3)) rfl (by kernel_rfl) (by kernel_rfl) (by kernel_rfl) (fun _ _ _ h => h) (Or.inl ⟨by rfl, fun w' hS' => by go_simp⟩) hS126 ?_
              change wpAnyH _ _ _ _ _ _ _ (Act.put _ (some 25) (.int .i64 (q2 * q3))) _
              simp only [Act.put, List.setIfInBounds_toArray, List.set_cons_zero, List.set_cons_succ]
              refine wpAnyH_ready (rs := [15]) (by kernel_rfl) (by simp) (AllReadyH.cons rfl (fun K hK => ?_) (AllReadyH.nil))
              · skip
                go_simp
                refine (rnewC_any (1 + q0) q1 (q2 * q3) _ c0 0 HC0.out (fun b => b = h ∨ b = g117) (fun b e => e.elim (fun e => by rw [e]; exact Nat.lt_of_lt_of_le HH1.out.lt (hS126).size) (fun e => by rw [e]; exact (hk121).lt))).mono ?_
                rintro e W127 ⟨A130, n131, cp132, rfl, hn133, hp134, hb129, hc135⟩
                refine hK.out _ _ (hS126.trans (hb129.mono hS126.size)) (fun hS128 => ?_)
                clear hK K
                simp only [List.setIfInBounds_toArray, List.set_cons_zero, List.set_cons_succ]
                refine wpAnyH_take (i := 16) (v := .tuple #[.agg #[.int .i64 c0.width, .int .i64 c0.room, .slice A130 n131 cp132, .int .i64 c0.hits, .int .i64 c0.misses, .int .i64 c0.clashes, .int .i64 c0.evicted], .int .i64 0]) rfl (by kernel_rfl) (by kernel_rfl) (by kernel_rfl) (fun _ _ _ h => h) (Or.inl ⟨by rfl, fun w' hS' => by exact op_move rfl rfl⟩) hS128 ?_
                change wpAnyH _ _ _ _ _ _ _ (Act.put _ (some 10) (.tuple #[.agg #[.int .i64 c0.width, .int .i64 c0.room, .slice A130 n131 cp132, .int .i64 c0.hits, .int .i64 c0.misses, .int .i64 c0.clashes, .int .i64 c0.evicted], .int .i64 0])) _
                simp only [Act.put, List.setIfInBounds_toArray, List.set_cons_zero, List.set_cons_succ]
                refine wpAnyH_take (i := 17) (v := .agg #[.int .i64 c0.width, .int .i64 c0.room, .slice A130 n131 cp132, .int .i64 c0.hits, .int .i64 c0.misses, .int .i64 c0.clashes, .int .i64 c0.evicted]) rfl (by kernel_rfl) (by kernel_rfl) (by kernel_rfl) (fun _ _ _ h => h) (Or.inl ⟨by rfl, fun w' hS' => by go_simp⟩) hS128 ?_
                change wpAnyH _ _ _ _ _ _ _ (Act.put _ (some 27) (.agg #[.int .i64 c0.width, .int .i64 c0.room, .slice A130 n131 cp132, .int .i64 c0.hits, .int .i64 c0.misses, .int .i64 c0.clashes, .int .i64 c0.evicted])) _
                simp only [Act.put, List.setIfInBounds_toArray, List.set_cons_zero, List.set_cons_succ]
                refine wpAnyH_take (i := 18) (v := .int .i64 0) rfl (by kernel_rfl) (by kernel_rfl) (by kernel_rfl) (fun _ _ _ h => h) (Or.inl ⟨by rfl, fun w' hS' => by go_simp⟩) hS128 ?_
                change wpAnyH _ _ _ _ _ _ _ (Act.put _ (some 28) (.int .i64 0)) _
                simp only [Act.put, List.setIfInBounds_toArray, List.set_cons_zero, List.set_cons_succ]
                refine wpAnyH_ready (rs := [20]) (by kernel_rfl) (by simp) (AllReadyH.cons rfl (fun K hK => ?_) (AllReadyH.nil))
                · skip
                  obtain ⟨W136, hr138, hk139, hgr140⟩ := op_store7 (Blk.below hk121 hb129 hk121.lt) c0.width c0.room A130 n131 cp132 c0.hits c0.misses c0.clashes c0.evicted
                  refine step_op_skip (hr138 _ _ _ _ rfl rfl rfl) rfl ?_
                  refine hK.out _ _ (hS128.grown hgr140 hS128.size (fun b e => by injection e with e; rw [← e]; exact Nat.le_trans (hS0).size hg122)) (fun hS137 => ?_)
                  clear hK K
                  change wpAnyH _ _ _ _ _ _ _ (Act.put _ none (undef)) _
                  simp only [Act.put]
                  refine wpAnyH_take (i := 21) (v := .int .i64 0) rfl (by kernel_rfl) (by kernel_rfl) (by kernel_rfl) (fun _ _ _ h => h) (Or.inl ⟨by rfl, fun w' hS' => by exact op_assign rfl rfl⟩) hS137 ?_
                  change wpAnyH _ _ _ _ _ _ _ (Act.put _ (some 6) (.int .i64 0)) _
                  simp only [Act.put, List.setIfInBounds_toArray, List.set_cons_zero, List.set_cons_succ]
                  refine wpAnyH_done (by kernel_rfl) ?_ _
                  refine NoPanic.normal ?_
                  go_wp2_with fail
                  go_meet
                  exact ⟨g117, A130, n131, cp132, rfl, rfl, hk139, PartsAt.kept hp134 hgr140 (Or.inr rfl), hn133, hc135, hS137, Nat.le_trans (hS0).size hg122⟩
  case rest =>
    obtain ⟨g5, A5, n5, cap5, rfl, rfl, hb5, hp5, hn5, hc5, hw5, hg5⟩ := hcut
    have HI0 : Hid (CIn w1 wc h g5 ((zs.take 0).foldl stepC c0)) := Lib.hid ⟨A5, n5, cap5, hb5, hp5, hn5, hc5, hw5⟩
    have HG5 : Hid (w1.heap.size ≤ g5) := Lib.hid hg5
    have HG0 : Hid (Good c0 0) := Lib.hid (by rw [← HEC.out]; exact cache0_good _)
    clear hb5 hp5 hn5 hc5 hw5 hg5 hw1 hw2 hw3
    go_wp2_with fail
    go_loopw [7] (fun i wr => ∃ k : Nat, k ≤ zs.length ∧ k ≤ 20 ∧ i = .int .i64 k ∧ Hid (CIn w1 wr h g5 ((zs.take k).foldl stepC c0))) (fun i _ => 20 - (intOf i).toNat)
    case atStart => exact ⟨0, Nat.zero_le _, Nat.zero_le _, rfl, HI0⟩
    case round =>
      obtain ⟨k, hkz, hk20, rfl, HV⟩ := hrel
      obtain ⟨w3, rfl⟩ : ∃ w3, w3 = wr := ⟨_, rfl⟩
      by_cases gk : k < zs.length ∧ k < 20
      case neg =>
        have hfin : Hid ((zs.take k).foldl stepC c0 = cacheOf (z0, z1, z2) zs) := Lib.hid (by
          unfold cacheOf
          rw [HEC.out]
          by_cases g1 : k < zs.length
          · rw [show k = 20 by omega]
          · rw [List.take_of_length_le (by omega), List.take_of_length_le (by omega)])
        obtain ⟨A6, n6, cap6, hb6, hp6, hn6, hc6, hw6⟩ := HV.out
        rw [hfin.out] at hb6 hp6 hn6
        obtain ⟨ce, hce⟩ : ∃ c, c = cacheOf (z0, z1, z2) zs := ⟨_, rfl⟩
        rw [← hce] at hb6 hp6 hn6
        have HCEQ := Lib.hid hce
        have HP6 := Lib.hid hp6
        have HN6 := Lib.hid hn6
        have HW6 := Lib.hid (HW1.out.trans (hw6.mono HW1.out.size))
        have hh6 := Blk.below HH1.out hw6 HH1.out.lt
        obtain ⟨y0, y1, y2, y3, y4, y5, y6⟩ := box7 hb6 (Below.refl _ _)
        obtain ⟨x0, x1, x2, x3, x4, x5, x6⟩ := box7 hh6 (Below.refl _ _)
        have HHZ := Lib.hid hh6
        have q0' := Blk.frozen hh6 0
        have q1' := Blk.frozen hh6 1
        have q2' := Blk.frozen hh6 2
        have q3' := Blk.frozen hh6 3
        have q4' := Blk.frozen hh6 4
        have q5' := Blk.frozen hh6 5
        have q6' := Blk.frozen hh6 6
        clear hfin hb6 hp6 hn6 hw6 hh6 hce HV
        by_cases g1 : k < zs.length
        · have g2 : ¬ k < 20 := fun h => gk ⟨g1, h⟩
          clear gk
          go_wp2_with fail
          refine bodyPost_ret (v := .agg #[.int .i64 ce.width, .int .i64 ce.room, .slice A6 n6 cap6, .int .i64 ce.hits, .int .i64 ce.misses, .int .i64 ce.clashes, .int .i64 ce.evicted]) (by simp [results, Try.results14, go_sem, x0, x1, x2, x3, x4, x5, x6]) rfl ?_
          obtain ⟨-, hgn⟩ := set7 HHZ.out ce.width ce.room A6 n6 cap6 ce.hits ce.misses ce.clashes ce.evicted
          rw [← HCEQ.out]
          exact ⟨A6, n6, cap6, rfl, HN6.out, PartsAt.less (PartsAt.kept HP6.out hgn (Or.inl rfl)) (fun _ (e : False) => e.elim), HW6.out.grown hgn HW6.out.size (fun b e => by injection e with e; rw [← e]; exact HH2.out), hc6⟩
        · clear gk
          go_wp2_with fail
          refine bodyPost_ret (v := .agg #[.int .i64 ce.width, .int .i64 ce.room, .slice A6 n6 cap6, .int .i64 ce.hits, .int .i64 ce.misses, .int .i64 ce.clashes, .int .i64 ce.evicted]) (by simp [results, Try.results14, go_sem, x0, x1, x2, x3, x4, x5, x6]) rfl ?_
          obtain ⟨-, hgn⟩ := set7 HHZ.out ce.width ce.room A6 n6 cap6 ce.hits ce.misses ce.clashes ce.evicted
          rw [← HCEQ.out]
          exact ⟨A6, n6, cap6, rfl, HN6.out, PartsAt.less (PartsAt.kept HP6.out hgn (Or.inl rfl)) (fun _ (e : False) => e.elim), HW6.out.grown hgn HW6.out.size (fun b e => by injection e with e; rw [← e]; exact HH2.out), hc6⟩
      case pos =>
        obtain ⟨g1, g2'⟩ := gk
        obtain ⟨z, hz⟩ : ∃ z, zs[k]? = some z := ⟨_, List.getElem?_eq_getElem g1⟩
        obtain ⟨y0, y1, y2⟩ := z
        have hzf := HF.out _ (List.mem_of_getElem? hz)
        have HY0 : Hid (I64 y0) := Lib.hid hzf.1
        have HY1 : Hid (I64 y1) := Lib.hid hzf.2.1
        have HY2 : Hid (I64 y2) := Lib.hid hzf.2.2
        obtain ⟨ck, hck⟩ : ∃ c, (zs.take k).foldl stepC c0 = c := ⟨_, rfl⟩
        obtain ⟨d, hd⟩ : ∃ d, stepC ck (y0, y1, y2) = d := ⟨_, rfl⟩
        have hgood : Good ck 20 := by rw [← hck]; exact (fold_good _ HG0.out).mono (by rw [Nat.zero_add, List.length_take]; omega)
        have HFK := Lib.hid (hgood.fit (by omega))
        have HD : Hid (putC ck (textOf y0) (textOf y1) (textOf y2) = (d, 0)) := Lib.hid (by rw [← hd]; unfold stepC; simp only; rw [put_eq hgood.right])
        have HNX : Hid ((zs.take (k + 1)).foldl stepC c0 = d) := Lib.hid (by rw [fold_take hz, hck, hd])
        obtain ⟨A5, n5, cap5, hb5, hp5, hn5, hc5, hw5⟩ := HV.out
        rw [hck] at hb5 hp5 hn5
        have HB5 := Lib.hid hb5
        have HPA := Lib.hid hp5
        have HB3 := Lib.hid hw5
        obtain ⟨a, rfl, hal1, hc1⟩ := (HA.out.up HW1.out).at_ hz
        have HCT : Hid (∀ W, Below w1.heap.size w1 W → W.cell? (a.add (k * 3)) = some (.int .i64 y0) ∧ W.cell? ⟨(a.add (k * 3)).block, (a.add (k * 3)).off + 1, none⟩ = some (.int .i64 y1) ∧ W.cell? ⟨(a.add (k * 3)).block, (a.add (k * 3)).off + 2, none⟩ = some (.int .i64 y2)) := Lib.hid fun W hW =>
          ⟨(hW.cell (by rw [add_block]; exact hal1)).trans (hc1 0 _ rfl), by rw [field_at _ _ 1 (by decide)]; exact (hW.cell (by rw [add_block]; exact hal1)).trans (hc1 1 _ rfl), by rw [field_at _ _ 2 (by decide)]; exact (hW.cell (by rw [add_block]; exact hal1)).trans (hc1 2 _ rfl)⟩
        clear hz hzf hck hd hgood hb5 hp5 hw5 hal1 hc1 HV
        go_upto_region 5 with (fail)
        go_cut [8, 9] (fun s8 s9 wx => PutIn w1 h g5 ck d A5 n5 cap5 s8 s9 wx)
        case first =>
          refine wp_region_noPanic ?_
          refine wp_region_held_drew (S := fun W => Below w1.heap.size w1 W ∧ Blk W g5 28 #[.int .i64 ck.width, .int .i64 ck.room, .slice A5 n5 cap5, .int .i64 ck.hits, .int .i64 ck.misses, .int .i64 ck.clashes, .int .i64 ck.evicted]) (by kernel_rfl) (⟨HB3.out.drew, HB5.out⟩) (fun hS0 => ?_)
          change wpAnyH _ _ _ _ _ 26 #[false, false, false, false, false, false, false, false, false, false, false, false, false, false, false, false, false, false, false, false, false, false, false, false, false, false] _ (World.drew _)
          refine wpAnyH_take (i := 0) (v := .agg #[.int .i64 ck.width, .int .i64 ck.room, .slice A5 n5 cap5, .int .i64 ck.hits, .int .i64 ck.misses, .int .i64 ck.clashes, .int .i64 ck.evicted]) rfl (by kernel_rfl) (by kernel_rfl) (by kernel_rfl) (fun _ _ _ h => h) (Or.inl ⟨by rfl, fun w' hS' => by obtain ⟨b0, b1, b2, b3, b4, b5, b6⟩ := box7 hS'.2 (Below.refl _ _); go_simp⟩) hS0 ?_
          change wpAnyH _ _ _ _ _ _ _ (Act.put _ (some 40) (.agg #[.int .i64 ck.width, .int .i64 ck.room, .slice A5 n5 cap5, .int .i64 ck.hits, .int .i64 ck.misses, .int .i64 ck.clashes, .int .i64 ck.evicted])) _
          simp only [Act.put, List.setIfInBounds_toArray, List.set_cons_zero, List.set_cons_succ]
          refine wpAnyH_take (i := 1) (v := .slice (some a) zs.length cap) rfl (by kernel_rfl) (by kernel_rfl) (by kernel_rfl) (fun _ _ _ h => h) (Or.inl ⟨by rfl, fun w' hS' => by exact op_move rfl rfl⟩) hS0 ?_
          change wpAnyH _ _ _ _ _ _ _ (Act.put _ (some 41) (.slice (some a) zs.length cap)) _
          simp only [Act.put, List.setIfInBounds_toArray, List.set_cons_zero, List.set_cons_succ]
          refine wpAnyH_take (i := 2) (v := .int .i64 (k : Int)) rfl (by kernel_rfl) (by kernel_rfl) (by kernel_rfl) (fun _ _ _ h => h) (Or.inl ⟨by rfl, fun w' hS' => by exact op_move rfl rfl⟩) hS0 ?_
          change wpAnyH _ _ _ _ _ _ _ (Act.put _ (some 42) (.int .i64 (k : Int))) _
          simp only [Act.put, List.setIfInBounds_toArray, List.set_cons_zero, List.set_cons_succ]
          refine wpAnyH_take (i := 3) (v := .pointer (some (a.add (k * 3)))) rfl (by kernel_rfl) (by kernel_rfl) (by kernel_rfl) (fun _ _ _ h => h) (Or.inl ⟨by rfl, fun w' hS' => by go_simp⟩) hS0 ?_
          change wpAnyH _ _ _ _ _ _ _ (Act.put _ (some 43) (.pointer (some (a.add (k * 3))))) _
          simp only [Act.put, List.setIfInBounds_toArray, List.set_cons_zero, List.set_cons_succ]
          refine wpAnyH_take (i := 4) (v := .pointer (some (a.add (k * 3)))) rfl (by kernel_rfl) (by kernel_rfl) (by kernel_rfl) (fun _ _ _ h => h) (Or.inl ⟨by rfl, fun w' hS' => by go_simp⟩) hS0 ?_
          change wpAnyH _ _ _ _ _ _ _ (Act.put _ (some 44) (.pointer (some (a.add (k * 3))))) _
          simp only [Act.put, List.setIfInBounds_toArray, List.set_cons_zero, List.set_cons_succ]
          refine wpAnyH_take (i := 5) (v := .int .i64 y0) rfl (by kernel_rfl) (by kernel_rfl) (by kernel_rfl) (fun _ _ _ h => h) (Or.inl ⟨by rfl, fun w' hS' => by obtain ⟨k0, k1, k2⟩ := HCT.out _ hS'.1; go_simp⟩) hS0 ?_
          change wpAnyH _ _ _ _ _ _ _ (Act.put _ (some 45) (.int .i64 y0)) _
          simp only [Act.put, List.setIfInBounds_toArray, List.set_cons_zero, List.set_cons_succ]
          refine wpAnyH_take (i := 7) (v := .slice (some a) zs.length cap) rfl (by kernel_rfl) (by kernel_rfl) (by kernel_rfl) (fun _ _ _ h => h) (Or.inl ⟨by rfl, fun w' hS' => by exact op_move rfl rfl⟩) hS0 ?_
          change wpAnyH _ _ _ _ _ _ _ (Act.put _ (some 47) (.slice (some a) zs.length cap)) _
          simp only [Act.put, List.setIfInBounds_toArray, List.set_cons_zero, List.set_cons_succ]
          refine wpAnyH_take (i := 8) (v := .int .i64 (k : Int)) rfl (by kernel_rfl) (by kernel_rfl) (by kernel_rfl) (fun _ _ _ h => h) (Or.inl ⟨by rfl, fun w' hS' => by exact op_move rfl rfl⟩) hS0 ?_
          change wpAnyH _ _ _ _ _ _ _ (Act.put _ (some 48) (.int .i64 (k : Int))) _
          simp only [Act.put, List.setIfInBounds_toArray, List.set_cons_zero, List.set_cons_succ]
          refine wpAnyH_take (i := 9) (v := .pointer (some (a.add (k * 3)))) rfl (by kernel_rfl) (by kernel_rfl) (by kernel_rfl) (fun _ _ _ h => h) (Or.inl ⟨by rfl, fun w' hS' => by go_simp⟩) hS0 ?_
          change wpAnyH _ _ _ _ _ _ _ (Act.put _ (some 49) (.pointer (some (a.add (k * 3))))) _
          simp only [Act.put, List.setIfInBounds_toArray, List.set_cons_zero, List.set_cons_succ]
          refine wpAnyH_take (i := 10) (v := .pointer (some ⟨(a.add (k * 3)).block, (a.add (k * 3)).off + 1, none⟩)) rfl (by kernel_rfl) (by kernel_rfl) (by kernel_rfl) (fun _ _ _ h => h) (Or.inl ⟨by rfl, fun w' hS' => by go_simp⟩) hS0 ?_
          change wpAnyH _ _ _ _ _ _ _ (Act.put _ (some 50) (.pointer (some ⟨(a.add (k * 3)).block, (a.add (k * 3)).off + 1, none⟩))) _
          simp only [Act.put, List.setIfInBounds_toArray, List.set_cons_zero, List.set_cons_succ]
          refine wpAnyH_take (i := 11) (v := .int .i64 y1) rfl (by kernel_rfl) (by kernel_rfl) (by kernel_rfl) (fun _ _ _ h => h) (Or.inl ⟨by rfl, fun w' hS' => by obtain ⟨k0, k1, k2⟩ := HCT.out _ hS'.1; go_simp⟩) hS0 ?_
          change wpAnyH _ _ _ _ _ _ _ (Act.put _ (some 51) (.int .i64 y1)) _
          simp only [Act.put, List.setIfInBounds_toArray, List.set_cons_zero, List.set_cons_succ]
          refine wpAnyH_take (i := 13) (v := .slice (some a) zs.length cap) rfl (by kernel_rfl) (by kernel_rfl) (by kernel_rfl) (fun _ _ _ h => h) (Or.inl ⟨by rfl, fun w' hS' => by exact op_move rfl rfl⟩) hS0 ?_
          change wpAnyH _ _ _ _ _ _ _ (Act.put _ (some 53) (.slice (some a) zs.length cap)) _
          simp only [Act.put, List.setIfInBounds_toArray, List.set_cons_zero, List.set_cons_succ]
          refine wpAnyH_take (i := 14) (v := .int .i64 (k : Int)) rfl (by kernel_rfl) (by kernel_rfl) (by kernel_rfl) (fun _ _ _ h => h) (Or.inl ⟨by rfl, fun w' hS' => by exact op_move rfl rfl⟩) hS0 ?_
          change wpAnyH _ _ _ _ _ _ _ (Act.put _ (some 54) (.int .i64 (k : Int))) _
          simp only [Act.put, List.setIfInBounds_toArray, List.set_cons_zero, List.set_cons_succ]
          refine wpAnyH_take (i := 15) (v := .pointer (some (a.add (k * 3)))) rfl (by kernel_rfl) (by kernel_rfl) (by kernel_rfl) (fun _ _ _ h => h) (Or.inl ⟨by rfl, fun w' hS' => by go_simp⟩) hS0 ?_
          change wpAnyH _ _ _ _ _ _ _ (Act.put _ (some 55) (.pointer (some (a.add (k * 3))))) _
          simp only [Act.put, List.setIfInBounds_toArray, List.set_cons_zero, List.set_cons_succ]
          refine wpAnyH_take (i := 16) (v := .pointer (some ⟨(a.add (k * 3)).block, (a.add (k * 3)).off + 2, none⟩)) rfl (by kernel_rfl) (by kernel_rfl) (by kernel_rfl) (fun _ _ _ h => h) (Or.inl ⟨by rfl, fun w' hS' => by go_simp⟩) hS0 ?_
          change wpAnyH _ _ _ _ _ _ _ (Act.put _ (some 56) (.pointer (some ⟨(a.add (k * 3)).block, (a.add (k * 3)).off + 2, none⟩))) _
          simp only [Act.put, List.setIfInBounds_toArray, List.set_cons_zero, List.set_cons_succ]
          refine wpAnyH_take (i := 17) (v := .int .i64 y2) rfl (by kernel_rfl) (by kernel_rfl) (by kernel_rfl) (fun _ _ _ h => h) (Or.inl ⟨by rfl, fun w' hS' => by obtain ⟨k0, k1, k2⟩ := HCT.out _ hS'.1; go_simp⟩) hS0 ?_
          change wpAnyH _ _ _ _ _ _ _ (Act.put _ (some 57) (.int .i64 y2)) _
          simp only [Act.put, List.setIfInBounds_toArray, List.set_cons_zero, List.set_cons_succ]
          refine wpAnyH_ready (rs := [6, 23]) (by kernel_rfl) (by simp) (AllReadyH.cons rfl (fun K hK => ?_) (AllReadyH.cons rfl (fun K hK => ?_) (AllReadyH.nil)))
          · skip
            go_simp
            refine (text_any y0 _ HY0.out).mono ?_
            rintro e W1 ⟨rfl, hb3⟩
            refine hK.out _ _ ⟨hS0.1.trans (hb3.mono hS0.1.size), Blk.below hS0.2 hb3 hS0.2.lt⟩ (fun hS2 => ?_)
            clear hK K
            simp only [List.setIfInBounds_toArray, List.set_cons_zero, List.set_cons_succ]
            refine wpAnyH_ready (rs := [12, 23]) (by kernel_rfl) (by simp) (AllReadyH.cons rfl (fun K hK => ?_) (AllReadyH.cons rfl (fun K hK => ?_) (AllReadyH.nil)))
            · skip
              go_simp
              refine (text_any y1 _ HY1.out).mono ?_
              rintro e W4 ⟨rfl, hb6⟩
              refine hK.out _ _ ⟨hS2.1.trans (hb6.mono hS2.1.size), Blk.below hS2.2 hb6 hS2.2.lt⟩ (fun hS5 => ?_)
              clear hK K
              simp only [List.setIfInBounds_toArray, List.set_cons_zero, List.set_cons_succ]
              refine wpAnyH_ready (rs := [18, 23]) (by kernel_rfl) (by simp) (AllReadyH.cons rfl (fun K hK => ?_) (AllReadyH.cons rfl (fun K hK => ?_) (AllReadyH.nil)))
              · skip
                go_simp
                refine (text_any y2 _ HY2.out).mono ?_
                rintro e W7 ⟨rfl, hb9⟩
                refine hK.out _ _ ⟨hS5.1.trans (hb9.mono hS5.1.size), Blk.below hS5.2 hb9 hS5.2.lt⟩ (fun hS8 => ?_)
                clear hK K
                simp only [List.setIfInBounds_toArray, List.set_cons_zero, List.set_cons_succ]
                refine wpAnyH_ready (rs := [19, 23]) (by kernel_rfl) (by simp) (AllReadyH.cons rfl (fun K hK => ?_) (AllReadyH.cons rfl (fun K hK => ?_) (AllReadyH.nil)))
                · skip
                  go_simp
                  refine (rputC_any ck A5 n5 cap5 (textOf y0) (textOf y1) (textOf y2) _ d 0 HD.out (fun b => b = h ∨ b = g5) (fun b e => (fun e => e.elim (fun e => by rw [e]; exact Nat.lt_of_lt_of_le HH1.out.lt (hS8.1).size) (fun e => by rw [e]; exact (hS8.2).lt)) e) ((((PartsAt.drew HPA.out).up hb3).up hb6).up hb9) hn5 hc5 HFK.out (text_le y0) (text_le y1)).mono ?_
                  rintro e W10 ⟨A13, n14, cp15, rfl, hn16, hp17, hb12, hc18⟩
                  refine hK.out _ _ ⟨hS8.1.trans (hb12.mono hS8.1.size), Blk.below hS8.2 hb12 hS8.2.lt⟩ (fun hS11 => ?_)
                  clear hK K
                  simp only [List.setIfInBounds_toArray, List.set_cons_zero, List.set_cons_succ]
                  refine wpAnyH_take (i := 20) (v := .tuple #[.agg #[.int .i64 d.width, .int .i64 d.room, .slice A13 n14 cp15, .int .i64 d.hits, .int .i64 d.misses, .int .i64 d.clashes, .int .i64 d.evicted], .int .i64 0]) rfl (by kernel_rfl) (by kernel_rfl) (by kernel_rfl) (fun _ _ _ h => h) (Or.inl ⟨by rfl, fun w' hS' => by exact op_move rfl rfl⟩) hS11 ?_
                  change wpAnyH _ _ _ _ _ _ _ (Act.put _ (some 39) (.tuple #[.agg #[.int .i64 d.width, .int .i64 d.room, .slice A13 n14 cp15, .int .i64 d.hits, .int .i64 d.misses, .int .i64 d.clashes, .int .i64 d.evicted], .int .i64 0])) _
                  simp only [Act.put, List.setIfInBounds_toArray, List.set_cons_zero, List.set_cons_succ]
                  refine wpAnyH_take (i := 21) (v := .agg #[.int .i64 d.width, .int .i64 d.room, .slice A13 n14 cp15, .int .i64 d.hits, .int .i64 d.misses, .int .i64 d.clashes, .int .i64 d.evicted]) rfl (by kernel_rfl) (by kernel_rfl) (by kernel_rfl) (fun _ _ _ h => h) (Or.inl ⟨by rfl, fun w' hS' => by go_simp⟩) hS11 ?_
                  change wpAnyH _ _ _ _ _ _ _ (Act.put _ (some 60) (.agg #[.int .i64 d.width, .int .i64 d.room, .slice A13 n14 cp15, .int .i64 d.hits, .int .i64 d.misses, .int .i64 d.clashes, .int .i64 d.evicted])) _
                  simp only [Act.put, List.setIfInBounds_toArray, List.set_cons_zero, List.set_cons_succ]
                  refine wpAnyH_take (i := 22) (v := .int .i64 0) rfl (by kernel_rfl) (by kernel_rfl) (by kernel_rfl) (fun _ _ _ h => h) (Or.inl ⟨by rfl, fun w' hS' => by go_simp⟩) hS11 ?_
                  change wpAnyH _ _ _ _ _ _ _ (Act.put _ (some 61) (.int .i64 0)) _
                  simp only [Act.put, List.setIfInBounds_toArray, List.set_cons_zero, List.set_cons_succ]
                  refine wpAnyH_ready (rs := [23]) (by kernel_rfl) (by simp) (AllReadyH.cons rfl (fun K hK => ?_) (AllReadyH.nil))
                  · skip
                    obtain ⟨g20, W19, hr23, hk24, hb22, hg25⟩ := op_allocC W10
                    refine step_op_run (hr23 _ _ rfl) rfl ?_
                    refine hK.out _ _ ⟨hS11.1.trans (hb22.mono hS11.1.size), Blk.below hS11.2 hb22 hS11.2.lt⟩ (fun hS21 => ?_)
                    clear hK K
                    change wpAnyH _ _ _ _ _ _ _ (Act.put _ (some 8) (.pointer (some ⟨g20, 0, none⟩))) _
                    simp only [Act.put, List.setIfInBounds_toArray, List.set_cons_zero, List.set_cons_succ]
                    refine wpAnyH_ready (rs := [24]) (by kernel_rfl) (by simp) (AllReadyH.cons rfl (fun K hK => ?_) (AllReadyH.nil))
                    · skip
                      have hl31 : g5 < g20 := Nat.lt_of_lt_of_le (hS11.2).lt hg25
                      obtain ⟨W26, hr28, hk29, hgr30⟩ := op_store7 hk24 d.width d.room A13 n14 cp15 d.hits d.misses d.clashes d.evicted
                      refine step_op_skip (hr28 _ _ _ _ rfl rfl rfl) rfl ?_
                      refine hK.out _ _ ⟨hS21.1.grown hgr30 hS21.1.size (fun b e => by injection e with e; have h1 := hS11.1.size; have h2 := hg25; omega), Blk.grown hS21.2 hgr30 (fun e => by injection e with e; omega)⟩ (fun hS27 => ?_)
                      clear hK K
                      change wpAnyH _ _ _ _ _ _ _ (Act.put _ none (undef)) _
                      simp only [Act.put]
                      refine wpAnyH_take (i := 25) (v := .int .i64 0) rfl (by kernel_rfl) (by kernel_rfl) (by kernel_rfl) (fun _ _ _ h => h) (Or.inl ⟨by rfl, fun w' hS' => by exact op_assign rfl rfl⟩) hS27 ?_
                      change wpAnyH _ _ _ _ _ _ _ (Act.put _ (some 9) (.int .i64 0)) _
                      simp only [Act.put, List.setIfInBounds_toArray, List.set_cons_zero, List.set_cons_succ]
                      refine wpAnyH_done (by kernel_rfl) ?_ _
                      refine NoPanic.normal ?_
                      go_wp2_with fail
                      go_meet
                      exact ⟨g20, A13, n14, cp15, rfl, rfl, hk29, hS27.2, PartsAt.less (PartsAt.kept ((PartsAt.up (hp17.add hg25) hb22)) hgr30 (Or.inr rfl)) (fun b e => Or.inl e), hn16, hc18, hS27.1, hl31⟩
                · skip
                  obtain ⟨g33, W32, hr36, hk37, hb35, hg38⟩ := op_allocC W7
                  refine step_op_run (hr36 _ _ rfl) rfl ?_
                  refine hK.out _ _ ⟨hS8.1.trans (hb35.mono hS8.1.size), Blk.below hS8.2 hb35 hS8.2.lt⟩ (fun hS34 => ?_)
                  clear hK K
                  change wpAnyH _ _ _ _ _ _ _ (Act.put _ (some 8) (.pointer (some ⟨g33, 0, none⟩))) _
                  simp only [Act.put, List.setIfInBounds_toArray, List.set_cons_zero, List.set_cons_succ]
                  refine wpAnyH_ready (rs := [19]) (by kernel_rfl) (by simp) (AllReadyH.cons rfl (fun K hK => ?_) (AllReadyH.nil))
                  · skip
                    go_simp
                    refine (rputC_any ck A5 n5 cap5 (textOf y0) (textOf y1) (textOf y2) _ d 0 HD.out (fun b => (b = h ∨ b = g5) ∨ b = g33) (fun b e => e.elim (fun e => e.elim (fun e => by rw [e]; exact Nat.lt_of_lt_of_le HH1.out.lt (hS34.1).size) (fun e => by rw [e]; exact (hS34.2).lt)) (fun e => by rw [e]; exact (hk37).lt)) (PartsAt.up (((((PartsAt.drew HPA.out).up hb3).up hb6).up hb9).add hg38) hb35) hn5 hc5 HFK.out (text_le y0) (text_le y1)).mono ?_
                    rintro e W39 ⟨A42, n43, cp44, rfl, hn45, hp46, hb41, hc47⟩
                    refine hK.out _ _ ⟨hS34.1.trans (hb41.mono hS34.1.size), Blk.below hS34.2 hb41 hS34.2.lt⟩ (fun hS40 => ?_)
                    clear hK K
                    simp only [List.setIfInBounds_toArray, List.set_cons_zero, List.set_cons_succ]
                    refine wpAnyH_take (i := 20) (v := .tuple #[.agg #[.int .i64 d.width, .int .i64 d.room, .slice A42 n43 cp44, .int .i64 d.hits, .int .i64 d.misses, .int .i64 d.clashes, .int .i64 d.evicted], .int .i64 0]) rfl (by kernel_rfl) (by kernel_rfl) (by kernel_rfl) (fun _ _ _ h => h) (Or.inl ⟨by rfl, fun w' hS' => by exact op_move rfl rfl⟩) hS40 ?_
                    change wpAnyH _ _ _ _ _ _ _ (Act.put _ (some 39) (.tuple #[.agg #[.int .i64 d.width, .int .i64 d.room, .slice A42 n43 cp44, .int .i64 d.hits, .int .i64 d.misses, .int .i64 d.clashes, .int .i64 d.evicted], .int .i64 0])) _
                    simp only [Act.put, List.setIfInBounds_toArray, List.set_cons_zero, List.set_cons_succ]
                    refine wpAnyH_take (i := 21) (v := .agg #[.int .i64 d.width, .int .i64 d.room, .slice A42 n43 cp44, .int .i64 d.hits, .int .i64 d.misses, .int .i64 d.clashes, .int .i64 d.evicted]) rfl (by kernel_rfl) (by kernel_rfl) (by kernel_rfl) (fun _ _ _ h => h) (Or.inl ⟨by rfl, fun w' hS' => by go_simp⟩) hS40 ?_
                    change wpAnyH _ _ _ _ _ _ _ (Act.put _ (some 60) (.agg #[.int .i64 d.width, .int .i64 d.room, .slice A42 n43 cp44, .int .i64 d.hits, .int .i64 d.misses, .int .i64 d.clashes, .int .i64 d.evicted])) _
                    simp only [Act.put, List.setIfInBounds_toArray, List.set_cons_zero, List.set_cons_succ]
                    refine wpAnyH_take (i := 22) (v := .int .i64 0) rfl (by kernel_rfl) (by kernel_rfl) (by kernel_rfl) (fun _ _ _ h => h) (Or.inl ⟨by rfl, fun w' hS' => by go_simp⟩) hS40 ?_
                    change wpAnyH _ _ _ _ _ _ _ (Act.put _ (some 61) (.int .i64 0)) _
                    simp only [Act.put, List.setIfInBounds_toArray, List.set_cons_zero, List.set_cons_succ]
                    refine wpAnyH_ready (rs := [24]) (by kernel_rfl) (by simp) (AllReadyH.cons rfl (fun K hK => ?_) (AllReadyH.nil))
                    · skip
                      have hl53 : g5 < g33 := Nat.lt_of_lt_of_le (hS8.2).lt hg38
                      obtain ⟨W48, hr50, hk51, hgr52⟩ := op_store7 (Blk.below hk37 hb41 hk37.lt) d.width d.room A42 n43 cp44 d.hits d.misses d.clashes d.evicted
                      refine step_op_skip (hr50 _ _ _ _ rfl rfl rfl) rfl ?_
                      refine hK.out _ _ ⟨hS40.1.grown hgr52 hS40.1.size (fun b e => by injection e with e; have h1 := hS8.1.size; have h2 := hg38; omega), Blk.grown hS40.2 hgr52 (fun e => by injection e with e; omega)⟩ (fun hS49 => ?_)
                      clear hK K
                      change wpAnyH _ _ _ _ _ _ _ (Act.put _ none (undef)) _
                      simp only [Act.put]
                      refine wpAnyH_take (i := 25) (v := .int .i64 0) rfl (by kernel_rfl) (by kernel_rfl) (by kernel_rfl) (fun _ _ _ h => h) (Or.inl ⟨by rfl, fun w' hS' => by exact op_assign rfl rfl⟩) hS49 ?_
                      change wpAnyH _ _ _ _ _ _ _ (Act.put _ (some 9) (.int .i64 0)) _
                      simp only [Act.put, List.setIfInBounds_toArray, List.set_cons_zero, List.set_cons_succ]
                      refine wpAnyH_done (by kernel_rfl) ?_ _
                      refine NoPanic.normal ?_
                      go_wp2_with fail
                      go_meet
                      exact ⟨g33, A42, n43, cp44, rfl, rfl, hk51, hS49.2, PartsAt.less (PartsAt.kept (hp46) hgr52 (Or.inr rfl)) (fun b e => Or.inl e), hn45, hc47, hS49.1, hl53⟩
              · skip
                obtain ⟨g55, W54, hr58, hk59, hb57, hg60⟩ := op_allocC W4
                refine step_op_run (hr58 _ _ rfl) rfl ?_
                refine hK.out _ _ ⟨hS5.1.trans (hb57.mono hS5.1.size), Blk.below hS5.2 hb57 hS5.2.lt⟩ (fun hS56 => ?_)
                clear hK K
                change wpAnyH _ _ _ _ _ _ _ (Act.put _ (some 8) (.pointer (some ⟨g55, 0, none⟩))) _
                simp only [Act.put, List.setIfInBounds_toArray, List.set_cons_zero, List.set_cons_succ]
                refine wpAnyH_ready (rs := [18]) (by kernel_rfl) (by simp) (AllReadyH.cons rfl (fun K hK => ?_) (AllReadyH.nil))
                · skip
                  go_simp
                  refine (text_any y2 _ HY2.out).mono ?_
                  rintro e W61 ⟨rfl, hb63⟩
                  refine hK.out _ _ ⟨hS56.1.trans (hb63.mono hS56.1.size), Blk.below hS56.2 hb63 hS56.2.lt⟩ (fun hS62 => ?_)
                  clear hK K
                  simp only [List.setIfInBounds_toArray, List.set_cons_zero, List.set_cons_succ]
                  refine wpAnyH_ready (rs := [19]) (by kernel_rfl) (by simp) (AllReadyH.cons rfl (fun K hK => ?_) (AllReadyH.nil))
                  · skip
                    go_simp
                    refine (rputC_any ck A5 n5 cap5 (textOf y0) (textOf y1) (textOf y2) _ d 0 HD.out (fun b => (b = h ∨ b = g5) ∨ b = g55) (fun b e => e.elim (fun e => e.elim (fun e => by rw [e]; exact Nat.lt_of_lt_of_le HH1.out.lt (hS62.1).size) (fun e => by rw [e]; exact (hS62.2).lt)) (fun e => by rw [e]; exact ((Blk.below hk59 hb63 hk59.lt)).lt)) ((PartsAt.up ((((PartsAt.drew HPA.out).up hb3).up hb6).add hg60) hb57).up hb63) hn5 hc5 HFK.out (text_le y0) (text_le y1)).mono ?_
                    rintro e W64 ⟨A67, n68, cp69, rfl, hn70, hp71, hb66, hc72⟩
                    refine hK.out _ _ ⟨hS62.1.trans (hb66.mono hS62.1.size), Blk.below hS62.2 hb66 hS62.2.lt⟩ (fun hS65 => ?_)
                    clear hK K
                    simp only [List.setIfInBounds_toArray, List.set_cons_zero, List.set_cons_succ]
                    refine wpAnyH_take (i := 20) (v := .tuple #[.agg #[.int .i64 d.width, .int .i64 d.room, .slice A67 n68 cp69, .int .i64 d.hits, .int .i64 d.misses, .int .i64 d.clashes, .int .i64 d.evicted], .int .i64 0]) rfl (by kernel_rfl) (by kernel_rfl) (by kernel_rfl) (fun _ _ _ h => h) (Or.inl ⟨by rfl, fun w' hS' => by exact op_move rfl rfl⟩) hS65 ?_
                    change wpAnyH _ _ _ _ _ _ _ (Act.put _ (some 39) (.tuple #[.agg #[.int .i64 d.width, .int .i64 d.room, .slice A67 n68 cp69, .int .i64 d.hits, .int .i64 d.misses, .int .i64 d.clashes, .int .i64 d.evicted], .int .i64 0])) _
                    simp only [Act.put, List.setIfInBounds_toArray, List.set_cons_zero, List.set_cons_succ]
                    refine wpAnyH_take (i := 21) (v := .agg #[.int .i64 d.width, .int .i64 d.room, .slice A67 n68 cp69, .int .i64 d.hits, .int .i64 d.misses, .int .i64 d.clashes, .int .i64 d.evicted]) rfl (by kernel_rfl) (by kernel_rfl) (by kernel_rfl) (fun _ _ _ h => h) (Or.inl ⟨by rfl, fun w' hS' => by go_simp⟩) hS65 ?_
                    change wpAnyH _ _ _ _ _ _ _ (Act.put _ (some 60) (.agg #[.int .i64 d.width, .int .i64 d.room, .slice A67 n68 cp69, .int .i64 d.hits, .int .i64 d.misses, .int .i64 d.clashes, .int .i64 d.evicted])) _
                    simp only [Act.put, List.setIfInBounds_toArray, List.set_cons_zero, List.set_cons_succ]
                    refine wpAnyH_take (i := 22) (v := .int .i64 0) rfl (by kernel_rfl) (by kernel_rfl) (by kernel_rfl) (fun _ _ _ h => h) (Or.inl ⟨by rfl, fun w' hS' => by go_simp⟩) hS65 ?_
                    change wpAnyH _ _ _ _ _ _ _ (Act.put _ (some 61) (.int .i64 0)) _
                    simp only [Act.put, List.setIfInBounds_toArray, List.set_cons_zero, List.set_cons_succ]
                    refine wpAnyH_ready (rs := [24]) (by kernel_rfl) (by simp) (AllReadyH.cons rfl (fun K hK => ?_) (AllReadyH.nil))
                    · skip
                      have hl78 : g5 < g55 := Nat.lt_of_lt_of_le (hS5.2).lt hg60
                      obtain ⟨W73, hr75, hk76, hgr77⟩ := op_store7 (Blk.below (Blk.below hk59 hb63 hk59.lt) hb66 (Blk.below hk59 hb63 hk59.lt).lt) d.width d.room A67 n68 cp69 d.hits d.misses d.clashes d.evicted
                      refine step_op_skip (hr75 _ _ _ _ rfl rfl rfl) rfl ?_
                      refine hK.out _ _ ⟨hS65.1.grown hgr77 hS65.1.size (fun b e => by injection e with e; have h1 := hS5.1.size; have h2 := hg60; omega), Blk.grown hS65.2 hgr77 (fun e => by injection e with e; omega)⟩ (fun hS74 => ?_)
                      clear hK K
                      change wpAnyH _ _ _ _ _ _ _ (Act.put _ none (undef)) _
                      simp only [Act.put]
                      refine wpAnyH_take (i := 25) (v := .int .i64 0) rfl (by kernel_rfl) (by kernel_rfl) (by kernel_rfl) (fun _ _ _ h => h) (Or.inl ⟨by rfl, fun w' hS' => by exact op_assign rfl rfl⟩) hS74 ?_
                      change wpAnyH _ _ _ _ _ _ _ (Act.put _ (some 9) (.int .i64 0)) _
                      simp only [Act.put, List.setIfInBounds_toArray, List.set_cons_zero, List.set_cons_succ]
                      refine wpAnyH_done (by kernel_rfl) ?_ _
                      refine NoPanic.normal ?_
                      go_wp2_with fail
                      go_meet
                      exact ⟨g55, A67, n68, cp69, rfl, rfl, hk76, hS74.2, PartsAt.less (PartsAt.kept (hp71) hgr77 (Or.inr rfl)) (fun b e => Or.inl e), hn70, hc72, hS74.1, hl78⟩
            · skip
              obtain ⟨g80, W79, hr83, hk84, hb82, hg85⟩ := op_allocC W1
              refine step_op_run (hr83 _ _ rfl) rfl ?_
              refine hK.out _ _ ⟨hS2.1.trans (hb82.mono hS2.1.size), Blk.below hS2.2 hb82 hS2.2.lt⟩ (fun hS81 => ?_)
              clear hK K
              change wpAnyH _ _ _ _ _ _ _ (Act.put _ (some 8) (.pointer (some ⟨g80, 0, none⟩))) _
              simp only [Act.put, List.setIfInBounds_toArray, List.set_cons_zero, List.set_cons_succ]
              refine wpAnyH_ready (rs := [12]) (by kernel_rfl) (by simp) (AllReadyH.cons rfl (fun K hK => ?_) (AllReadyH.nil))
              · skip
                go_simp
                refine (text_any y1 _ HY1.out).mono ?_
                rintro e W86 ⟨rfl, hb88⟩
                refine hK.out _ _ ⟨hS81.1.trans (hb88.mono hS81.1.size), Blk.below hS81.2 hb88 hS81.2.lt⟩ (fun hS87 => ?_)
                clear hK K
                simp only [List.setIfInBounds_toArray, List.set_cons_zero, List.set_cons_succ]
                refine wpAnyH_ready (rs := [18]) (by kernel_rfl) (by simp) (AllReadyH.cons rfl (fun K hK => ?_) (AllReadyH.nil))
                · skip
                  go_simp
                  refine (text_any y2 _ HY2.out).mono ?_
                  rintro e W89 ⟨rfl, hb91⟩
                  refine hK.out _ _ ⟨hS87.1.trans (hb91.mono hS87.1.size), Blk.below hS87.2 hb91 hS87.2.lt⟩ (fun hS90 => ?_)
                  clear hK K
                  simp only [List.setIfInBounds_toArray, List.set_cons_zero, List.set_cons_succ]
                  refine wpAnyH_ready (rs := [19]) (by kernel_rfl) (by simp) (AllReadyH.cons rfl (fun K hK => ?_) (AllReadyH.nil))
                  · skip
                    go_simp
                    refine (rputC_any ck A5 n5 cap5 (textOf y0) (textOf y1) (textOf y2) _ d 0 HD.out (fun b => (b = h ∨ b = g5) ∨ b = g80) (fun b e => e.elim (fun e => e.elim (fun e => by rw [e]; exact Nat.lt_of_lt_of_le HH1.out.lt (hS90.1).size) (fun e => by rw [e]; exact (hS90.2).lt)) (fun e => by rw [e]; exact ((Blk.below (Blk.below hk84 hb88 hk84.lt) hb91 (Blk.below hk84 hb88 hk84.lt).lt)).lt)) (((PartsAt.up (((PartsAt.drew HPA.out).up hb3).add hg85) hb82).up hb88).up hb91) hn5 hc5 HFK.out (text_le y0) (text_le y1)).mono ?_
                    rintro e W92 ⟨A95, n96, cp97, rfl, hn98, hp99, hb94, hc100⟩
                    refine hK.out _ _ ⟨hS90.1.trans (hb94.mono hS90.1.size), Blk.below hS90.2 hb94 hS90.2.lt⟩ (fun hS93 => ?_)
                    clear hK K
                    simp only [List.setIfInBounds_toArray, List.set_cons_zero, List.set_cons_succ]
                    refine wpAnyH_take (i := 20) (v := .tuple #[.agg #[.int .i64 d.width, .int .i64 d.room, .slice A95 n96 cp97, .int .i64 d.hits, .int .i64 d.misses, .int .i64 d.clashes, .int .i64 d.evicted], .int .i64 0]) rfl (by kernel_rfl) (by kernel_rfl) (by kernel_rfl) (fun _ _ _ h => h) (Or.inl ⟨by rfl, fun w' hS' => by exact op_move rfl rfl⟩) hS93 ?_
                    change wpAnyH _ _ _ _ _ _ _ (Act.put _ (some 39) (.tuple #[.agg #[.int .i64 d.width, .int .i64 d.room, .slice A95 n96 cp97, .int .i64 d.hits, .int .i64 d.misses, .int .i64 d.clashes, .int .i64 d.evicted], .int .i64 0])) _
                    simp only [Act.put, List.setIfInBounds_toArray, List.set_cons_zero, List.set_cons_succ]
                    refine wpAnyH_take (i := 21) (v := .agg #[.int .i64 d.width, .int .i64 d.room, .slice A95 n96 cp97, .int .i64 d.hits, .int .i64 d.misses, .int .i64 d.clashes, .int .i64 d.evicted]) rfl (by kernel_rfl) (by kernel_rfl) (by kernel_rfl) (fun _ _ _ h => h) (Or.inl ⟨by rfl, fun w' hS' => by go_simp⟩) hS93 ?_
                    change wpAnyH _ _ _ _ _ _ _ (Act.put _ (some 60) (.agg #[.int .i64 d.width, .int .i64 d.room, .slice A95 n96 cp97, .int .i64 d.hits, .int .i64 d.misses, .int .i64 d.clashes, .int .i64 d.evicted])) _
                    simp only [Act.put, List.setIfInBounds_toArray, List.set_cons_zero, List.set_cons_succ]
                    refine wpAnyH_take (i := 22) (v := .int .i64 0) rfl (by kernel_rfl) (by kernel_rfl) (by kernel_rfl) (fun _ _ _ h => h) (Or.inl ⟨by rfl, fun w' hS' => by go_simp⟩) hS93 ?_
                    change wpAnyH _ _ _ _ _ _ _ (Act.put _ (some 61) (.int .i64 0)) _
                    simp only [Act.put, List.setIfInBounds_toArray, List.set_cons_zero, List.set_cons_succ]
                    refine wpAnyH_ready (rs := [24]) (by kernel_rfl) (by simp) (AllReadyH.cons rfl (fun K hK => ?_) (AllReadyH.nil))
                    · skip
                      have hl106 : g5 < g80 := Nat.lt_of_lt_of_le (hS2.2).lt hg85
                      obtain ⟨W101, hr103, hk104, hgr105⟩ := op_store7 (Blk.below (Blk.below (Blk.below hk84 hb88 hk84.lt) hb91 (Blk.below hk84 hb88 hk84.lt).lt) hb94 (Blk.below (Blk.below hk84 hb88 hk84.lt) hb91 (Blk.below hk84 hb88 hk84.lt).lt).lt) d.width d.room A95 n96 cp97 d.hits d.misses d.clashes d.evicted
                      refine step_op_skip (hr103 _ _ _ _ rfl rfl rfl) rfl ?_
                      refine hK.out _ _ ⟨hS93.1.grown hgr105 hS93.1.size (fun b e => by injection e with e; have h1 := hS2.1.size; have h2 := hg85; omega), Blk.grown hS93.2 hgr105 (fun e => by injection e with e; omega)⟩ (fun hS102 => ?_)
                      clear hK K
                      change wpAnyH _ _ _ _ _ _ _ (Act.put _ none (undef)) _
                      simp only [Act.put]
                      refine wpAnyH_take (i := 25) (v := .int .i64 0) rfl (by kernel_rfl) (by kernel_rfl) (by kernel_rfl) (fun _ _ _ h => h) (Or.inl ⟨by rfl, fun w' hS' => by exact op_assign rfl rfl⟩) hS102 ?_
                      change wpAnyH _ _ _ _ _ _ _ (Act.put _ (some 9) (.int .i64 0)) _
                      simp only [Act.put, List.setIfInBounds_toArray, List.set_cons_zero, List.set_cons_succ]
                      refine wpAnyH_done (by kernel_rfl) ?_ _
                      refine NoPanic.normal ?_
                      go_wp2_with fail
                      go_meet
                      exact ⟨g80, A95, n96, cp97, rfl, rfl, hk104, hS102.2, PartsAt.less (PartsAt.kept (hp99) hgr105 (Or.inr rfl)) (fun b e => Or.inl e), hn98, hc100, hS102.1, hl106⟩
          · skip
            obtain ⟨g108, W107, hr111, hk112, hb110, hg113⟩ := op_allocC w3.drew
            refine step_op_run (hr111 _ _ rfl) rfl ?_
            refine hK.out _ _ ⟨hS0.1.trans (hb110.mono hS0.1.size), Blk.below hS0.2 hb110 hS0.2.lt⟩ (fun hS109 => ?_)
            clear hK K
            change wpAnyH _ _ _ _ _ _ _ (Act.put _ (some 8) (.pointer (some ⟨g108, 0, none⟩))) _
            simp only [Act.put, List.setIfInBounds_toArray, List.set_cons_zero, List.set_cons_succ]
            refine wpAnyH_ready (rs := [6]) (by kernel_rfl) (by simp) (AllReadyH.cons rfl (fun K hK => ?_) (AllReadyH.nil))
            · skip
              go_simp
              refine (text_any y0 _ HY0.out).mono ?_
              rintro e W114 ⟨rfl, hb116⟩
              refine hK.out _ _ ⟨hS109.1.trans (hb116.mono hS109.1.size), Blk.below hS109.2 hb116 hS109.2.lt⟩ (fun hS115 => ?_)
              clear hK K
              simp only [List.setIfInBounds_toArray, List.set_cons_zero, List.set_cons_succ]
              refine wpAnyH_ready (rs := [12]) (by kernel_rfl) (by simp) (AllReadyH.cons rfl (fun K hK => ?_) (AllReadyH.nil))
              · skip
                go_simp
                refine (text_any y1 _ HY1.out).mono ?_
                rintro e W117 ⟨rfl, hb119⟩
                refine hK.out _ _ ⟨hS115.1.trans (hb119.mono hS115.1.size), Blk.below hS115.2 hb119 hS115.2.lt⟩ (fun hS118 => ?_)
                clear hK K
                simp only [List.setIfInBounds_toArray, List.set_cons_zero, List.set_cons_succ]
                refine wpAnyH_ready (rs := [18]) (by kernel_rfl) (by simp) (AllReadyH.cons rfl (fun K hK => ?_) (AllReadyH.nil))
                · skip
                  go_simp
                  refine (text_any y2 _ HY2.out).mono ?_
                  rintro e W120 ⟨rfl, hb122⟩
                  refine hK.out _ _ ⟨hS118.1.trans (hb122.mono hS118.1.size), Blk.below hS118.2 hb122 hS118.2.lt⟩ (fun hS121 => ?_)
                  clear hK K
                  simp only [List.setIfInBounds_toArray, List.set_cons_zero, List.set_cons_succ]
                  refine wpAnyH_ready (rs := [19]) (by kernel_rfl) (by simp) (AllReadyH.cons rfl (fun K hK => ?_) (AllReadyH.nil))
                  · skip
                    go_simp
                    refine (rputC_any ck A5 n5 cap5 (textOf y0) (textOf y1) (textOf y2) _ d 0 HD.out (fun b => (b = h ∨ b = g5) ∨ b = g108) (fun b e => e.elim (fun e => e.elim (fun e => by rw [e]; exact Nat.lt_of_lt_of_le HH1.out.lt (hS121.1).size) (fun e => by rw [e]; exact (hS121.2).lt)) (fun e => by rw [e]; exact ((Blk.below (Blk.below (Blk.below hk112 hb116 hk112.lt) hb119 (Blk.below hk112 hb116 hk112.lt).lt) hb122 (Blk.below (Blk.below hk112 hb116 hk112.lt) hb119 (Blk.below hk112 hb116 hk112.lt).lt).lt)).lt)) ((((PartsAt.up ((PartsAt.drew HPA.out).add hg113) hb110).up hb116).up hb119).up hb122) hn5 hc5 HFK.out (text_le y0) (text_le y1)).mono ?_
                    rintro e W123 ⟨A126, n127, cp128, rfl, hn129, hp130, hb125, hc131⟩
                    refine hK.out _ _ ⟨hS121.1.trans (hb125.mono hS121.1.size), Blk.below hS121.2 hb125 hS121.2.lt⟩ (fun hS124 => ?_)
                    clear hK K
                    simp only [List.setIfInBounds_toArray, List.set_cons_zero, List.set_cons_succ]
                    refine wpAnyH_take (i := 20) (v := .tuple #[.agg #[.int .i64 d.width, .int .i64 d.room, .slice A126 n127 cp128, .int .i64 d.hits, .int .i64 d.misses, .int .i64 d.clashes, .int .i64 d.evicted], .int .i64 0]) rfl (by kernel_rfl) (by kernel_rfl) (by kernel_rfl) (fun _ _ _ h => h) (Or.inl ⟨by rfl, fun w' hS' => by exact op_move rfl rfl⟩) hS124 ?_
                    change wpAnyH _ _ _ _ _ _ _ (Act.put _ (some 39) (.tuple #[.agg #[.int .i64 d.width, .int .i64 d.room, .slice A126 n127 cp128, .int .i64 d.hits, .int .i64 d.misses, .int .i64 d.clashes, .int .i64 d.evicted], .int .i64 0])) _
                    simp only [Act.put, List.setIfInBounds_toArray, List.set_cons_zero, List.set_cons_succ]
                    refine wpAnyH_take (i := 21) (v := .agg #[.int .i64 d.width, .int .i64 d.room, .slice A126 n127 cp128, .int .i64 d.hits, .int .i64 d.misses, .int .i64 d.clashes, .int .i64 d.evicted]) rfl (by kernel_rfl) (by kernel_rfl) (by kernel_rfl) (fun _ _ _ h => h) (Or.inl ⟨by rfl, fun w' hS' => by go_simp⟩) hS124 ?_
                    change wpAnyH _ _ _ _ _ _ _ (Act.put _ (some 60) (.agg #[.int .i64 d.width, .int .i64 d.room, .slice A126 n127 cp128, .int .i64 d.hits, .int .i64 d.misses, .int .i64 d.clashes, .int .i64 d.evicted])) _
                    simp only [Act.put, List.setIfInBounds_toArray, List.set_cons_zero, List.set_cons_succ]
                    refine wpAnyH_take (i := 22) (v := .int .i64 0) rfl (by kernel_rfl) (by kernel_rfl) (by kernel_rfl) (fun _ _ _ h => h) (Or.inl ⟨by rfl, fun w' hS' => by go_simp⟩) hS124 ?_
                    change wpAnyH _ _ _ _ _ _ _ (Act.put _ (some 61) (.int .i64 0)) _
                    simp only [Act.put, List.setIfInBounds_toArray, List.set_cons_zero, List.set_cons_succ]
                    refine wpAnyH_ready (rs := [24]) (by kernel_rfl) (by simp) (AllReadyH.cons rfl (fun K hK => ?_) (AllReadyH.nil))
                    · skip
                      have hl137 : g5 < g108 := Nat.lt_of_lt_of_le (hS0.2).lt hg113
                      obtain ⟨W132, hr134, hk135, hgr136⟩ := op_store7 (Blk.below (Blk.below (Blk.below (Blk.below hk112 hb116 hk112.lt) hb119 (Blk.below hk112 hb116 hk112.lt).lt) hb122 (Blk.below (Blk.below hk112 hb116 hk112.lt) hb119 (Blk.below hk112 hb116 hk112.lt).lt).lt) hb125 (Blk.below (Blk.below (Blk.below hk112 hb116 hk112.lt) hb119 (Blk.below hk112 hb116 hk112.lt).lt) hb122 (Blk.below (Blk.below hk112 hb116 hk112.lt) hb119 (Blk.below hk112 hb116 hk112.lt).lt).lt).lt) d.width d.room A126 n127 cp128 d.hits d.misses d.clashes d.evicted
                      refine step_op_skip (hr134 _ _ _ _ rfl rfl rfl) rfl ?_
                      refine hK.out _ _ ⟨hS124.1.grown hgr136 hS124.1.size (fun b e => by injection e with e; have h1 := hS0.1.size; have h2 := hg113; omega), Blk.grown hS124.2 hgr136 (fun e => by injection e with e; omega)⟩ (fun hS133 => ?_)
                      clear hK K
                      change wpAnyH _ _ _ _ _ _ _ (Act.put _ none (undef)) _
                      simp only [Act.put]
                      refine wpAnyH_take (i := 25) (v := .int .i64 0) rfl (by kernel_rfl) (by kernel_rfl) (by kernel_rfl) (fun _ _ _ h => h) (Or.inl ⟨by rfl, fun w' hS' => by exact op_assign rfl rfl⟩) hS133 ?_
                      change wpAnyH _ _ _ _ _ _ _ (Act.put _ (some 9) (.int .i64 0)) _
                      simp only [Act.put, List.setIfInBounds_toArray, List.set_cons_zero, List.set_cons_succ]
                      refine wpAnyH_done (by kernel_rfl) ?_ _
                      refine NoPanic.normal ?_
                      go_wp2_with fail
                      go_meet
                      exact ⟨g108, A126, n127, cp128, rfl, rfl, hk135, hS133.2, PartsAt.less (PartsAt.kept (hp130) hgr136 (Or.inr rfl)) (fun b e => Or.inl e), hn129, hc131, hS133.1, hl137⟩
        case rest =>
          obtain ⟨g8, A8, n8, cap8, rfl, rfl, hb8, hb5, hp8, hn8, hc8, hw8, hlt⟩ := hcut
          obtain ⟨y0, y1, y2, y3, y4, y5, y6⟩ := box7 hb8 (Below.refl _ _)
          obtain ⟨x0, x1, x2, x3, x4, x5, x6⟩ := box7 hb5 (Below.refl _ _)
          have HB5 := Lib.hid hb5
          have HP8 := Lib.hid hp8
          have HW8 := Lib.hid hw8
          have HN8 := Lib.hid hn8
          have q0' := Blk.frozen hb5 0
          have q1' := Blk.frozen hb5 1
          have q2' := Blk.frozen hb5 2
          have q3' := Blk.frozen hb5 3
          have q4' := Blk.frozen hb5 4
          have q5' := Blk.frozen hb5 5
          have q6' := Blk.frozen hb5 6
          clear hb8 hb5 hp8 hw8 hn8
          go_wp2_with fail
          go_roundw
          case rel =>
            obtain ⟨hbn, hgn⟩ := set7 HB5.out d.width d.room A8 n8 cap8 d.hits d.misses d.clashes d.evicted
            exact ⟨k + 1, by omega, by omega, by go_num, Lib.hid (by rw [HNX.out]; exact ⟨A8, n8, cap8, hbn, PartsAt.kept HP8.out hgn (Or.inr rfl), HN8.out, hc8, HW8.out.grown hgn HW8.out.size (fun b e => by injection e with e; rw [← e]; exact HG5.out)⟩)⟩
          case measure => simp [intOf]; omega

end Go.Proofs.Ytjifmfgfmciaeaa
