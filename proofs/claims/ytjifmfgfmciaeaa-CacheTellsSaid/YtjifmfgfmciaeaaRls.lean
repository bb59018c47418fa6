/-
  collatorref14.New, Size, with, Same: what each returns; nothing that was there is changed.
-/
import Derived.Test.YtjifmfgfmciaeaaRri
import Derived.Laws.Rows
namespace Go.Proofs.Ytjifmfgfmciaeaa
open Go.RowKit

/-! ### rows of lists -/
abbrev RS : Type := Option Addr × Nat × Nat
def rsv (r : RS) : List Value := [.slice r.1 r.2.1 r.2.2]
theorem rs_len : ∀ r : RS, (rsv r).length = 1 := fun _ => rfl
theorem rs_one : ∀ r : RS, ∀ v ∈ rsv r, v.oneCell' = true := fun r v hv => by simp [rsv] at hv; subst hv; rfl
theorem below_step {w w1 w2 : World} (h : Below w.heap.size w w1) (h2 : Below w1.heap.size w1 w2) : Below w.heap.size w w2 := h.trans (h2.mono h.size)
theorem infoL : (Try.prog.info? 58).map (fun i => (i.zero, i.size, i.bytes)) = some (some (.slice none 0 0), 1, 24) := by kernel_rfl
/-- what lies in a row of lists -/
def RowsOk (X : Nat → Prop) (w : World) (R : List RS) (P : List (List Sl)) : Prop := R.length = P.length ∧ ∀ (i : Nat) (L : List Sl), P[i]? = some L → ∃ (B : Option Addr) (c : Nat), R[i]? = some (B, L.length, c) ∧ SlotsAt w B L ∧ L.length ≤ c ∧ ∀ b, L ≠ [] → B = some b → ¬ X b.block
theorem PartsAt.rows {X : Nat → Prop} {w : World} {A : Option Addr} {P : List (List Sl)} (h : PartsAt X w A P) : ∃ R, RowAt rsv 1 w A R ∧ RowsOk X w R P := by
  by_cases hn : P = []
  · subst hn
    exact ⟨[], RowAt.nil, rfl, fun i L hi => by simp at hi⟩
  · obtain ⟨a, rfl, hl, _, hc⟩ := h hn
    have hex : ∀ i, ∃ r : RS, ∀ L, P[i]? = some L → w.cell? (a.add i) = some (.slice r.1 r.2.1 r.2.2) ∧ r.2.1 = L.length ∧ SlotsAt w r.1 L ∧ L.length ≤ r.2.2 ∧ ∀ b, L ≠ [] → r.1 = some b → ¬ X b.block := fun i => by
      cases hi : P[i]? with
      | none => exact ⟨(none, 0, 0), fun L h => by cases h⟩
      | some L =>
        obtain ⟨B, c, h1, h2, h3, h4⟩ := hc i L hi
        exact ⟨(B, L.length, c), fun L' h => by injection h with h; subst h; exact ⟨h1, rfl, h2, h3, h4⟩⟩
    obtain ⟨f, hf⟩ := Classical.skolem.1 hex
    refine ⟨(List.range P.length).map f, fun _ => ⟨a, rfl, hl, fun k r hk j u hu => ?_⟩, by simp, fun i L hi => ?_⟩
    · obtain ⟨hk1, hk2⟩ := List.getElem?_eq_some_iff.1 hk
      simp at hk1 hk2
      subst hk2
      obtain ⟨L, hL⟩ : ∃ L, P[k]? = some L := ⟨_, List.getElem?_eq_getElem hk1⟩
      have h1 := (hf k L hL).1
      cases j with
      | zero =>
        have : u = .slice (f k).1 (f k).2.1 (f k).2.2 := by simpa [rsv] using hu.symm
        rw [this, Nat.mul_one, Nat.add_zero]
        exact h1
      | succ j => simp [rsv] at hu
    · have hil := (List.getElem?_eq_some_iff.1 hi).1
      obtain ⟨h1, h2, h3, h4, h5⟩ := hf i L hi
      refine ⟨(f i).1, (f i).2.2, ?_, h3, h4, h5⟩
      rw [List.getElem?_map, List.getElem?_range hil, ← h2]
      rfl
theorem RowsOk.up {X : Nat → Prop} {w w' : World} {R : List RS} {P : List (List Sl)} (h : RowsOk X w R P) (hb : Below w.heap.size w w') : RowsOk X w' R P := ⟨h.1, fun i L hi => by
  obtain ⟨B, c, h1, h2, h3, h4⟩ := h.2 i L hi
  exact ⟨B, c, h1, h2.up hb, h3, h4⟩⟩

/-- what is told: a cache, and an error -/
def CaTold (X : Nat → Prop) (c : Ca) (b : Int) (w : World) (e : Ending) (w' : World) : Prop :=
  ∃ (A : Option Addr) (n cap : Nat), e = .returned (.tuple #[.agg #[.int .i64 c.width, .int .i64 c.room, .slice A n cap, .int .i64 c.hits, .int .i64 c.misses, .int .i64 c.clashes, .int .i64 c.evicted], .int .i64 b]) ∧ c.parts.length = n ∧ PartsAt X w' A c.parts ∧ Below w.heap.size w w' ∧ n ≤ cap
theorem make_parts (n : Nat) (hn : n ≤ 1000) (W : World) : (Instr.makeSlice 26 (.int .i64 (n : Int)) (.int .i64 (n : Int))).run Try.prog W = .ok (.slice (some ⟨W.heap.size, 0, none⟩) n n) (W.alloc (.cells (madeCells #[.slice none 0 0] n) 58)) :=
  run_make_row' (P := Try.prog) 26 58 (.slice none 0 0) 24 Try.underlying26 infoL rfl .i64 .i64 n (by omega) (by omega) W
theorem parts_made {X : Nat → Prop} {w : World} {g n : Nat} (h : Blk w g 58 (madeCells #[.slice none 0 0] n)) (hx : ¬ X g) : PartsAt X w (some ⟨g, 0, none⟩) (List.replicate n []) := fun _ => by
  refine ⟨_, rfl, h.lt, hx, fun i L hi => ?_⟩
  rw [List.getElem?_replicate] at hi
  split at hi
  · rename_i hlt
    injection hi with hi
    subst hi
    refine ⟨none, 0, ?_, RowAt.nil, Nat.le_refl _, fun b h => absurd rfl h⟩
    rw [add_zero_block, h.cell]
    rw [← Array.getElem?_toList, toList_madeCells_one, List.getElem?_replicate, if_pos hlt]
    rfl
  · cases hi

set_option maxHeartbeats 2000000 in
theorem rnewC_any (p r w : Int) (W : World) (c : Ca) (b : Int) (hm : newC p r w = (c, b)) (X : Nat → Prop) (hX : ∀ b, X b → b < W.heap.size) : Calls Try.prog 12 #[.int .i64 p, .int .i64 r, .int .i64 w] W (CaTold X c b W) := by
  obtain ⟨fb, hfb⟩ : ∃ fb, fitsB p r w = fb := ⟨_, rfl⟩
  unfold newC at hm
  rw [hfb] at hm
  have HFB := Lib.hid hfb
  cases fb with
  | false =>
    simp only [Bool.false_eq_true, if_false, Prod.mk.injEq] at hm
    obtain ⟨rfl, rfl⟩ := hm
    clear hfb
    go_enter Try.func12, Try.ntmps12
    go_wp2_with fail
    refine (rfits_v _ _ _ _ false HFB.out).mono ?_
    rintro e w' ⟨rfl, rfl⟩
    go_wp2_with fail
    refine bodyPost_ret (v := .tuple #[.agg #[.int .i64 0, .int .i64 0, .slice none 0 0, .int .i64 0, .int .i64 0, .int .i64 0, .int .i64 0], .int .i64 1]) (by simp [results, Try.results12, go_sem]) rfl ?_
    exact ⟨none, 0, 0, rfl, rfl, PartsAt.nil, (Below.refl _ _).alloc (Nat.le_refl _) _, Nat.le_refl _⟩
  | true =>
    simp only [if_true, Prod.mk.injEq] at hm
    obtain ⟨rfl, rfl⟩ := hm
    unfold fitsB at hfb
    rw [decide_eq_true_eq] at hfb
    obtain ⟨n, rfl⟩ := Int.eq_ofNat_of_zero_le (show 0 ≤ p by omega)
    have n1 : 1 ≤ n := by omega
    have n2 : n ≤ 16 := by omega
    have hmk := make_parts n (by omega)
    clear hfb
    go_enter Try.func12, Try.ntmps12
    go_wp2_with fail
    refine (rfits_v _ _ _ _ true HFB.out).mono ?_
    rintro e w' ⟨rfl, rfl⟩
    go_wp2_with fail
    refine bodyPost_ret (v := .tuple #[.agg #[.int .i64 w, .int .i64 r, .slice (some ⟨W.heap.size + 1, 0, none⟩) n n, .int .i64 0, .int .i64 0, .int .i64 0, .int .i64 0], .int .i64 0]) (by simp [results, Try.results12, go_sem]) rfl ?_
    refine ⟨some ⟨W.heap.size + 1, 0, none⟩, n, n, rfl, by simp, ?_, ?_⟩
    · rw [Int.toNat_natCast]
      refine parts_made ?_ (fun hx => by have := hX _ hx; omega)
      have := Blk.new (W.alloc (.cells #[.int .i64 w, .int .i64 r, .slice (some ⟨W.heap.size + 1, 0, none⟩) n n, .int .i64 0, .int .i64 0, .int .i64 0, .int .i64 0] 28)) 58 (madeCells #[.slice none 0 0] n)
      simpa using this
    · exact ⟨((Below.refl _ _).alloc (Nat.le_refl _) _).alloc (by simp) _, Nat.le_refl _⟩

/-! ### how many there are -/
theorem size_take {P : List (List Sl)} {i : Nat} {L : List Sl} (h : P[i]? = some L) : ((P.take (i + 1)).map List.length).sum = ((P.take i).map List.length).sum + L.length := by
  obtain ⟨hi, rfl⟩ := List.getElem?_eq_some_iff.1 h
  rw [List.take_succ_eq_append_getElem hi, List.map_append, List.sum_append]
  simp only [List.map_cons, List.map_nil, List.sum_cons, List.sum_nil, Nat.add_zero]
set_option maxRecDepth 10000 in
theorem size_bound {c : Ca} (hf : CaFit c) (i : Nat) : ((c.parts.take i).map List.length).sum ≤ i * 1000 := by
  induction i with
  | zero => simp
  | succ i ih =>
    cases h : c.parts[i]? with
    | none =>
      have h0 := List.getElem?_eq_none_iff.1 h
      rw [List.take_of_length_le (by omega)] at ih ⊢
      omega
    | some L =>
      have := (hf.each L (List.mem_of_getElem? h)).1
      rw [size_take h]
      omega

set_option maxHeartbeats 2000000 in
theorem rsizeC_any (c : Ca) (A : Option Addr) (n cap : Nat) (w : World) {X : Nat → Prop} (ha : PartsAt X w A c.parts) (hn : c.parts.length = n) (hf : CaFit c) :
    Calls Try.prog 19 #[.agg #[.int .i64 c.width, .int .i64 c.room, .slice A n cap, .int .i64 c.hits, .int .i64 c.misses, .int .i64 c.clashes, .int .i64 c.evicted]] w fun e w' => e = .returned (.int .i64 (sizeC c : Nat)) ∧ Below w.heap.size w w' := by
  subst hn
  have HA := Lib.hid ha
  have HF := Lib.hid hf
  have hlen := hf.len
  clear ha hf
  go_enter Try.func19, Try.ntmps19
  go_wp2_with fail
  have hbx := Blk.new w 28 #[.int .i64 c.width, .int .i64 c.room, .slice A c.parts.length cap, .int .i64 c.hits, .int .i64 c.misses, .int .i64 c.clashes, .int .i64 c.evicted]
  have hal : Below w.heap.size w (w.alloc (.cells #[.int .i64 c.width, .int .i64 c.room, .slice A c.parts.length cap, .int .i64 c.hits, .int .i64 c.misses, .int .i64 c.clashes, .int .i64 c.evicted] 28)) := (Below.refl _ _).alloc (Nat.le_refl _) _
  obtain ⟨w1, hw1⟩ : ∃ w1, w1 = w.alloc (.cells #[.int .i64 c.width, .int .i64 c.room, .slice A c.parts.length cap, .int .i64 c.hits, .int .i64 c.misses, .int .i64 c.clashes, .int .i64 c.evicted] 28) := ⟨_, rfl⟩
  obtain ⟨g, hg⟩ : ∃ g, g = w.heap.size := ⟨_, rfl⟩
  rw [← hw1] at hbx hal ⊢
  rw [← hg] at hbx ⊢
  have HBX := Lib.hid hbx
  have HW1 := Lib.hid hal
  clear hbx hal hw1 hg
  go_loopw [3, 4] (fun m i wr => ∃ k : Nat, k ≤ c.parts.length ∧ i = .int .i64 k ∧ (∃ z : Nat, Hid (((c.parts.take k).map List.length).sum = z) ∧ z ≤ k * 1000 ∧ m = .int .i64 z) ∧ Hid (Below w1.heap.size w1 wr)) (fun _ i _ => c.parts.length - (intOf i).toNat)
  case atStart => exact ⟨0, Nat.zero_le _, rfl, ⟨0, Lib.hid (by simp), Nat.zero_le _, rfl⟩, Lib.hid (Below.refl _ _)⟩
  case round =>
    obtain ⟨k, hk, rfl, ⟨z, HZ, hz, rfl⟩, HB⟩ := hrel
    obtain ⟨y0, y1, y2, y3, y4, y5, y6⟩ := box7 HBX.out HB.out
    by_cases g1 : k < c.parts.length
    · obtain ⟨L, hL⟩ : ∃ L, c.parts[k]? = some L := ⟨_, List.getElem?_eq_getElem g1⟩
      obtain ⟨a, B, cl, rfl, hal, hcell, hSB, hcl⟩ := ((HA.out.up HW1.out).up HB.out).at_ hL
      have hl := (HF.out.each L (List.mem_of_getElem? hL)).1
      have HT : Hid (((c.parts.take (k + 1)).map List.length).sum = z + L.length) := Lib.hid (by rw [size_take hL, HZ.out])
      clear hL hSB hcl
      go_wp2_with fail
      go_roundw
      case rel => exact ⟨k + 1, by omega, by go_num, ⟨z + L.length, HT, by omega, by go_num⟩, HB⟩
      case measure => simp [intOf]; omega
    · have HT : Hid (sizeC c = z) := Lib.hid (by have := HZ.out; rw [List.take_of_length_le (by omega)] at this; exact this)
      go_wp2_with fail
      go_ret
      exact ⟨ret_int (by rw [HT.out]), HW1.out.trans (HB.out.mono HW1.out.size)⟩

/-! ### two caches that are the same -/
set_option maxHeartbeats 4000000 in
set_option maxRecDepth 100000 in
theorem sameC_true (c : Ca) (A B : Option Addr) (n m cap cbp : Nat) (w : World) {X : Nat → Prop} (ha : PartsAt X w A c.parts) (hb : PartsAt X w B c.parts) (hn : c.parts.length = n) (hm : c.parts.length = m) (hf : CaFit c) :
    Calls Try.prog 13 #[.agg #[.int .i64 c.width, .int .i64 c.room, .slice A n cap, .int .i64 c.hits, .int .i64 c.misses, .int .i64 c.clashes, .int .i64 c.evicted], .agg #[.int .i64 c.width, .int .i64 c.room, .slice B m cbp, .int .i64 c.hits, .int .i64 c.misses, .int .i64 c.clashes, .int .i64 c.evicted]] w fun e w' => e = .returned (.bool true) ∧ Below w.heap.size w w' := by
  subst hn hm
  have HA := Lib.hid ha
  have HB0 := Lib.hid hb
  have HF := Lib.hid hf
  have hlen := hf.len
  clear ha hb hf
  go_enter Try.func13, Try.ntmps13
  go_wp2_with fail

  have hb0 : Blk ((w.alloc (.cells #[.int .i64 c.width, .int .i64 c.room, .slice A c.parts.length cap, .int .i64 c.hits, .int .i64 c.misses, .int .i64 c.clashes, .int .i64 c.evicted] 28)).alloc (.cells #[.int .i64 c.width, .int .i64 c.room, .slice B c.parts.length cbp, .int .i64 c.hits, .int .i64 c.misses, .int .i64 c.clashes, .int .i64 c.evicted] 28)) w.heap.size 28 #[.int .i64 c.width, .int .i64 c.room, .slice A c.parts.length cap, .int .i64 c.hits, .int .i64 c.misses, .int .i64 c.clashes, .int .i64 c.evicted] := (Blk.new w _ _).alloc _
  have hb2 : Blk ((w.alloc (.cells #[.int .i64 c.width, .int .i64 c.room, .slice A c.parts.length cap, .int .i64 c.hits, .int .i64 c.misses, .int .i64 c.clashes, .int .i64 c.evicted] 28)).alloc (.cells #[.int .i64 c.width, .int .i64 c.room, .slice B c.parts.length cbp, .int .i64 c.hits, .int .i64 c.misses, .int .i64 c.clashes, .int .i64 c.evicted] 28)) (w.heap.size + 1) 28 #[.int .i64 c.width, .int .i64 c.room, .slice B c.parts.length cbp, .int .i64 c.hits, .int .i64 c.misses, .int .i64 c.clashes, .int .i64 c.evicted] := by
    have := Blk.new (w.alloc (.cells #[.int .i64 c.width, .int .i64 c.room, .slice A c.parts.length cap, .int .i64 c.hits, .int .i64 c.misses, .int .i64 c.clashes, .int .i64 c.evicted] 28)) 28 #[.int .i64 c.width, .int .i64 c.room, .slice B c.parts.length cbp, .int .i64 c.hits, .int .i64 c.misses, .int .i64 c.clashes, .int .i64 c.evicted]
    simpa using this
  have hw0 : Below w.heap.size w ((w.alloc (.cells #[.int .i64 c.width, .int .i64 c.room, .slice A c.parts.length cap, .int .i64 c.hits, .int .i64 c.misses, .int .i64 c.clashes, .int .i64 c.evicted] 28)).alloc (.cells #[.int .i64 c.width, .int .i64 c.room, .slice B c.parts.length cbp, .int .i64 c.hits, .int .i64 c.misses, .int .i64 c.clashes, .int .i64 c.evicted] 28)) := ((Below.refl _ _).alloc (Nat.le_refl _) _).alloc (by simp) _
  obtain ⟨w1, hw1⟩ : ∃ w1, w1 = ((w.alloc (.cells #[.int .i64 c.width, .int .i64 c.room, .slice A c.parts.length cap, .int .i64 c.hits, .int .i64 c.misses, .int .i64 c.clashes, .int .i64 c.evicted] 28)).alloc (.cells #[.int .i64 c.width, .int .i64 c.room, .slice B c.parts.length cbp, .int .i64 c.hits, .int .i64 c.misses, .int .i64 c.clashes, .int .i64 c.evicted] 28)) := ⟨_, rfl⟩
  obtain ⟨g, hg⟩ : ∃ g, g = w.heap.size := ⟨_, rfl⟩
  obtain ⟨h, hh⟩ : ∃ h, h = w.heap.size + 1 := ⟨_, rfl⟩
  rw [← hw1] at hb0 hb2 hw0 ⊢
  rw [← hh] at hb2 ⊢
  rw [← hg] at hb0 ⊢
  have HX1 := Lib.hid hb0
  have HX2 := Lib.hid hb2
  have HW1 := Lib.hid hw0
  clear hb0 hb2 hw0 hw1 hg hh
  go_loopw [5] (fun i wr => ∃ k : Nat, k ≤ c.parts.length ∧ i = .int .i64 k ∧ Hid (Below w1.heap.size w1 wr)) (fun i _ => c.parts.length - (intOf i).toNat)
  case atStart => exact ⟨0, Nat.zero_le _, rfl, Lib.hid (Below.refl _ _)⟩
  case round =>
    obtain ⟨k, hk, rfl, HB⟩ := hrel
    obtain ⟨w5, rfl⟩ : ∃ w5, w5 = wr := ⟨_, rfl⟩
    obtain ⟨y0, y1, y2, y3, y4, y5, y6⟩ := box7 HX1.out HB.out
    by_cases g1 : k < c.parts.length
    · obtain ⟨L, hL⟩ : ∃ L, c.parts[k]? = some L := ⟨_, List.getElem?_eq_getElem g1⟩
      have hl := (HF.out.each L (List.mem_of_getElem? hL)).1
      obtain ⟨a, B1, c1, rfl, hal, hc1, hS1, -⟩ := ((HA.out.up HW1.out).up HB.out).at_ hL
      obtain ⟨b, B2, c2, rfl, hbl, hc2, hS2, -⟩ := ((HB0.out.up HW1.out).up HB.out).at_ hL
      have HS1 := Lib.hid hS1
      have HS2 := Lib.hid hS2
      have HCE : Hid (∀ W, Below w5.heap.size w5 W → W.cell? (a.add k) = some (.slice B1 L.length c1) ∧ W.cell? (b.add k) = some (.slice B2 L.length c2)) := Lib.hid fun W hW => ⟨(hW.cell (by rw [add_block]; exact hal)).trans hc1, (hW.cell (by rw [add_block]; exact hbl)).trans hc2⟩
      clear hL hS1 hS2 hc1 hc2 hal hbl
      go_upto_region 6 with (fail)
      clear y0 y1 y2 y3 y4 y5 y6
      refine wp_region_noPanic ?_
      refine wp_region_held_drew (S := fun W => Below w5.heap.size w5 W) (by kernel_rfl) ((Below.refl w5.heap.size w5).drew) (fun hS0 => ?_)
      change wpAnyH _ _ _ _ _ 12 #[false, false, false, false, false, false, false, false, false, false, false, false] _ (World.drew _)
      refine wpAnyH_take (i := 0) (v := .pointer (some ⟨g, 2, none⟩)) rfl (by kernel_rfl) (by kernel_rfl) (by kernel_rfl) (fun _ _ _ h => h) (Or.inl ⟨by rfl, fun w' hS' => by go_simp⟩) hS0 ?_
      change wpAnyH _ _ _ _ _ _ _ (Act.put _ (some 63) (.pointer (some ⟨g, 2, none⟩))) _
      simp only [Act.put, List.setIfInBounds_toArray, List.set_cons_zero, List.set_cons_succ]
      refine wpAnyH_take (i := 1) (v := .slice (some a) c.parts.length cap) rfl (by kernel_rfl) (by kernel_rfl) (by kernel_rfl) (fun _ _ _ h => h) (Or.inl ⟨by rfl, fun w' hS' => by obtain ⟨y0, y1, y2, y3, y4, y5, y6⟩ := box7 HX1.out (below_step HB.out hS'); obtain ⟨z0, z1, z2, z3, z4, z5, z6⟩ := box7 HX2.out (below_step HB.out hS'); go_simp⟩) hS0 ?_
      change wpAnyH _ _ _ _ _ _ _ (Act.put _ (some 64) (.slice (some a) c.parts.length cap)) _
      simp only [Act.put, List.setIfInBounds_toArray, List.set_cons_zero, List.set_cons_succ]
      refine wpAnyH_take (i := 2) (v := .int .i64 (k : Int)) rfl (by kernel_rfl) (by kernel_rfl) (by kernel_rfl) (fun _ _ _ h => h) (Or.inl ⟨by rfl, fun w' hS' => by exact op_move rfl rfl⟩) hS0 ?_
      change wpAnyH _ _ _ _ _ _ _ (Act.put _ (some 65) (.int .i64 (k : Int))) _
      simp only [Act.put, List.setIfInBounds_toArray, List.set_cons_zero, List.set_cons_succ]
      refine wpAnyH_take (i := 3) (v := .pointer (some (a.add k))) rfl (by kernel_rfl) (by kernel_rfl) (by kernel_rfl) (fun _ _ _ h => h) (Or.inl ⟨by rfl, fun w' hS' => by go_simp⟩) hS0 ?_
      change wpAnyH _ _ _ _ _ _ _ (Act.put _ (some 66) (.pointer (some (a.add k)))) _
      simp only [Act.put, List.setIfInBounds_toArray, List.set_cons_zero, List.set_cons_succ]
      refine wpAnyH_take (i := 4) (v := .slice B1 L.length c1) rfl (by kernel_rfl) (by kernel_rfl) (by kernel_rfl) (fun _ _ _ h => h) (Or.inl ⟨by rfl, fun w' hS' => by obtain ⟨k1, k2⟩ := HCE.out _ hS'; go_simp⟩) hS0 ?_
      change wpAnyH _ _ _ _ _ _ _ (Act.put _ (some 67) (.slice B1 L.length c1)) _
      simp only [Act.put, List.setIfInBounds_toArray, List.set_cons_zero, List.set_cons_succ]
      refine wpAnyH_take (i := 5) (v := .pointer (some ⟨h, 2, none⟩)) rfl (by kernel_rfl) (by kernel_rfl) (by kernel_rfl) (fun _ _ _ h => h) (Or.inl ⟨by rfl, fun w' hS' => by go_simp⟩) hS0 ?_
      change wpAnyH _ _ _ _ _ _ _ (Act.put _ (some 68) (.pointer (some ⟨h, 2, none⟩))) _
      simp only [Act.put, List.setIfInBounds_toArray, List.set_cons_zero, List.set_cons_succ]
      refine wpAnyH_take (i := 6) (v := .slice (some b) c.parts.length cbp) rfl (by kernel_rfl) (by kernel_rfl) (by kernel_rfl) (fun _ _ _ h => h) (Or.inl ⟨by rfl, fun w' hS' => by obtain ⟨y0, y1, y2, y3, y4, y5, y6⟩ := box7 HX1.out (below_step HB.out hS'); obtain ⟨z0, z1, z2, z3, z4, z5, z6⟩ := box7 HX2.out (below_step HB.out hS'); go_simp⟩) hS0 ?_
      change wpAnyH _ _ _ _ _ _ _ (Act.put _ (some 69) (.slice (some b) c.parts.length cbp)) _
      simp only [Act.put, List.setIfInBounds_toArray, List.set_cons_zero, List.set_cons_succ]
      refine wpAnyH_take (i := 7) (v := .int .i64 (k : Int)) rfl (by kernel_rfl) (by kernel_rfl) (by kernel_rfl) (fun _ _ _ h => h) (Or.inl ⟨by rfl, fun w' hS' => by exact op_move rfl rfl⟩) hS0 ?_
      change wpAnyH _ _ _ _ _ _ _ (Act.put _ (some 70) (.int .i64 (k : Int))) _
      simp only [Act.put, List.setIfInBounds_toArray, List.set_cons_zero, List.set_cons_succ]
      refine wpAnyH_take (i := 8) (v := .pointer (some (b.add k))) rfl (by kernel_rfl) (by kernel_rfl) (by kernel_rfl) (fun _ _ _ h => h) (Or.inl ⟨by rfl, fun w' hS' => by go_simp⟩) hS0 ?_
      change wpAnyH _ _ _ _ _ _ _ (Act.put _ (some 71) (.pointer (some (b.add k)))) _
      simp only [Act.put, List.setIfInBounds_toArray, List.set_cons_zero, List.set_cons_succ]
      refine wpAnyH_take (i := 9) (v := .slice B2 L.length c2) rfl (by kernel_rfl) (by kernel_rfl) (by kernel_rfl) (fun _ _ _ h => h) (Or.inl ⟨by rfl, fun w' hS' => by obtain ⟨k1, k2⟩ := HCE.out _ hS'; go_simp⟩) hS0 ?_
      change wpAnyH _ _ _ _ _ _ _ (Act.put _ (some 72) (.slice B2 L.length c2)) _
      simp only [Act.put, List.setIfInBounds_toArray, List.set_cons_zero, List.set_cons_succ]
      refine wpAnyH_ready (rs := [10]) (by kernel_rfl) (by simp) (AllReadyH.cons rfl (fun K hK => ?_) (AllReadyH.nil))
      · skip
        go_simp
        refine (same_true B1 B2 L L.length L.length c1 c2 _ (HS1.out.up hS0) (HS2.out.up hS0) rfl rfl (by omega)).mono ?_
        rintro e W1 ⟨rfl, q9, hq9⟩
        have hb9 : Below w5.heap.size w5 W1 := by rw [hq9]; exact below_drewN hS0 q9
        refine hK.out _ _ hb9 (fun hS2 => ?_)
        clear hq9 hb9
        clear hK K
        simp only [List.setIfInBounds_toArray, List.set_cons_zero, List.set_cons_succ]
        refine wpAnyH_take (i := 11) (v := .bool true) rfl (by kernel_rfl) (by kernel_rfl) (by kernel_rfl) (fun _ _ _ h => h) (Or.inl ⟨by rfl, fun w' hS' => by exact op_assign rfl rfl⟩) hS2 ?_
        change wpAnyH _ _ _ _ _ _ _ (Act.put _ (some 6) (.bool true)) _
        simp only [Act.put, List.setIfInBounds_toArray, List.set_cons_zero, List.set_cons_succ]
        refine wpAnyH_done (by kernel_rfl) ?_ _
        refine NoPanic.normal ?_
        have HS := Lib.hid hS2
        go_wp2_with fail
        go_roundw
        case rel => exact ⟨k + 1, by omega, by go_num, Lib.hid (below_step HB.out HS.out)⟩
        case measure => simp [intOf]; omega
    · go_wp2_with fail
      go_ret
      exact ⟨rfl, HW1.out.trans (HB.out.mono HW1.out.size)⟩

end Go.Proofs.Ytjifmfgfmciaeaa
