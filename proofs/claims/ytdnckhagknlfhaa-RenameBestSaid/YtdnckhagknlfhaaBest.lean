/-
  collatorlaw08.RenameBest: it returns true. Nothing that was there is changed.
-/
import Derived.Test.YtdnckhagknlfhaaBetter
namespace Go.Proofs.Ytdnckhagknlfhaa
open Go.RowKit

/-- what lies in two items -/
abbrev QBox (w : World) (a1 a2 a3 a4 : Addr) (v1 v2 v3 v4 : Value) (W : World) : Prop :=
  W.cell? a1 = some v1 ∧ W.cell? a2 = some v2 ∧ W.cell? a3 = some v3 ∧ W.cell? a4 = some v4 ∧ Below w.heap.size w W
section
variable {w W W' : World} {a1 a2 a3 a4 : Addr} {v1 v2 v3 v4 : Value}
theorem QBox.below (h : QBox w a1 a2 a3 a4 v1 v2 v3 v4 W) (hb : Below W.heap.size W W') : QBox w a1 a2 a3 a4 v1 v2 v3 v4 W' := by
  obtain ⟨h1, h2, h3, h4, h5⟩ := h
  exact ⟨(hb.cell (lt_of_cell h1)).trans h1, (hb.cell (lt_of_cell h2)).trans h2, (hb.cell (lt_of_cell h3)).trans h3, (hb.cell (lt_of_cell h4)).trans h4, below_step h5 hb⟩
theorem QBox.drew (h : QBox w a1 a2 a3 a4 v1 v2 v3 v4 W) : QBox w a1 a2 a3 a4 v1 v2 v3 v4 W.drew := ⟨h.1, h.2.1, h.2.2.1, h.2.2.2.1, below_drewN h.2.2.2.2 1⟩
theorem QBox.alloc (h : QBox w a1 a2 a3 a4 v1 v2 v3 v4 W) (o : Obj) : QBox w a1 a2 a3 a4 v1 v2 v3 v4 (W.alloc o) := h.below ((Below.refl _ _).alloc (Nat.le_refl _) _)
theorem QBox.allocDrew (h : QBox w a1 a2 a3 a4 v1 v2 v3 v4 W.drew) (o : Obj) : QBox w a1 a2 a3 a4 v1 v2 v3 v4 (W.alloc o).drew :=
  QBox.drew (QBox.alloc (w := w) (W := W) ⟨h.1, h.2.1, h.2.2.1, h.2.2.2.1, ⟨h.2.2.2.2.os, h.2.2.2.2.tape, h.2.2.2.2.output, h.2.2.2.2.size, h.2.2.2.2.block⟩⟩ o)
theorem QBox.set (h : QBox w a1 a2 a3 a4 v1 v2 v3 v4 W) (hl : a1.block < w.heap.size ∧ a2.block < w.heap.size ∧ a3.block < w.heap.size ∧ a4.block < w.heap.size) (q : Nat) (hw : w.heap.size ≤ q) (i : Nat) (u : Value) : QBox w a1 a2 a3 a4 v1 v2 v3 v4 (W.setCell ⟨q, i, none⟩ u) := by
  obtain ⟨h1, h2, h3, h4, h5⟩ := h
  have hne : ∀ a : Addr, a.block < w.heap.size → (W.setCell ⟨q, i, none⟩ u).cell? a = W.cell? a := fun a ha => World.cell?_setCell_other W _ _ u (by intro e; rw [← e] at ha; simp at ha; omega)
  exact ⟨(hne _ hl.1).trans h1, (hne _ hl.2.1).trans h2, (hne _ hl.2.2.1).trans h3, (hne _ hl.2.2.2).trans h4, h5.setCell hw _⟩
end
/-- the candidate is made -/
def Made (w : World) (c : Pr) (s : Value) (wx : World) : Prop := ∃ g, s = .pointer (some ⟨g, 0, none⟩) ∧ w.heap.size ≤ g ∧ Blk wx g 37 #[.string c.fr, .string c.tt, .int .i64 c.sc] ∧ Below w.heap.size w wx
/-- is a candidate taken, or touched by a better one, among the first ones? -/
def doneM (L : List Pr) (c : Pr) (k : Nat) : Bool := (L.take k).any fun p => decide (p = c) || ((decide (p.fr = c.fr) || decide (p.tt = c.tt)) && decide (btr p c))
theorem doneM_step {L : List Pr} {c p : Pr} {k : Nat} (h : L[k]? = some p) : doneM L c (k + 1) = (doneM L c k || (decide (p = c) || ((decide (p.fr = c.fr) || decide (p.tt = c.tt)) && decide (btr p c)))) := by
  obtain ⟨hk, rfl⟩ := List.getElem?_eq_some_iff.1 h
  unfold doneM
  rw [List.take_succ_eq_append_getElem hk, List.any_append]
  simp
theorem doneM_all {C : Pr → Prop} {L : List Pr} (h : IsP C L) {c : Pr} (hc : C c) : doneM L c L.length = true := by
  unfold doneM
  rw [List.take_of_length_le (Nat.le_refl _), List.any_eq_true]
  rcases h.whole c hc with h1 | ⟨b, hb, ht, hbt⟩
  · exact ⟨c, h1, by simp⟩
  · refine ⟨b, hb, ?_⟩
    have : (decide (b.fr = c.fr) || decide (b.tt = c.tt)) = true := by
      rcases ht with e | e
      · simp [e]
      · simp [e]
    rw [this, decide_eq_true hbt]
    simp

/-- what lies in a pair, and in the candidate -/
abbrev SBox (w : World) (a1 a2 a3 a4 a5 a6 : Addr) (v1 v2 v3 v4 v5 v6 : Value) (W : World) : Prop :=
  W.cell? a1 = some v1 ∧ W.cell? a2 = some v2 ∧ W.cell? a3 = some v3 ∧ W.cell? a4 = some v4 ∧ W.cell? a5 = some v5 ∧ W.cell? a6 = some v6 ∧ Below w.heap.size w W
theorem SBox.below {w W W' : World} {a1 a2 a3 a4 a5 a6 : Addr} {v1 v2 v3 v4 v5 v6 : Value} (h : SBox w a1 a2 a3 a4 a5 a6 v1 v2 v3 v4 v5 v6 W) (hb : Below W.heap.size W W') : SBox w a1 a2 a3 a4 a5 a6 v1 v2 v3 v4 v5 v6 W' := by
  obtain ⟨h1, h2, h3, h4, h5, h6, h7⟩ := h
  exact ⟨(hb.cell (lt_of_cell h1)).trans h1, (hb.cell (lt_of_cell h2)).trans h2, (hb.cell (lt_of_cell h3)).trans h3, (hb.cell (lt_of_cell h4)).trans h4, (hb.cell (lt_of_cell h5)).trans h5, (hb.cell (lt_of_cell h6)).trans h6, below_step h7 hb⟩
theorem SBox.drew {w W : World} {a1 a2 a3 a4 a5 a6 : Addr} {v1 v2 v3 v4 v5 v6 : Value} (h : SBox w a1 a2 a3 a4 a5 a6 v1 v2 v3 v4 v5 v6 W) : SBox w a1 a2 a3 a4 a5 a6 v1 v2 v3 v4 v5 v6 W.drew :=
  ⟨h.1, h.2.1, h.2.2.1, h.2.2.2.1, h.2.2.2.2.1, h.2.2.2.2.2.1, below_drewN h.2.2.2.2.2.2 1⟩
theorem better_at (f1 t1 f2 t2 : ByteArray) (s1 s2 : Int) (w : World) (h1 : f1.size ≤ 60000) (h2 : f2.size ≤ 60000) (h3 : t1.size ≤ 60000) (h4 : t2.size ≤ 60000) (v : Bool) (hv : decide (btr ⟨f1, t1, s1⟩ ⟨f2, t2, s2⟩) = v) :
    Calls Try.prog 20 #[.agg #[.string f1, .string t1, .int .i64 s1], .agg #[.string f2, .string t2, .int .i64 s2]] w fun e w' => e = .returned (.bool v) ∧ Below w.heap.size w w' := by
  subst hv
  exact better20_any ⟨f1, t1, s1⟩ ⟨f2, t2, s2⟩ w h1 h2 h3 h4
theorem text_dec (x y : ByteArray) : (x.toList == y.toList) = decide (x = y) := by
  rw [Lib.toList_data, Lib.toList_data, Bool.eq_iff_iff]
  simp only [beq_iff_eq, decide_eq_true_eq]
  exact ⟨data_inj, fun e => by rw [e]⟩
theorem fl_mem {its : List It} (hok : TreeOk its) {i : Nat} {it : It} (h : its[i]? = some it) (hk : it.kind = 2) : (it.path, linesOf it.data) ∈ fl its := by
  rw [fl_once (once_nodup hok.once)]
  exact List.mem_map.2 ⟨it, List.mem_filter.2 ⟨List.mem_of_getElem? h, by simpa using hk⟩, rfl⟩

set_option maxHeartbeats 8000000 in
set_option maxRecDepth 100000 in
theorem best_any (A B : Option Addr) (n m c d : Nat) (th : Int) (w : World) (t1 : -9223372036854775808 ≤ th) (t2 : th ≤ 9223372036854775807)
    (ha : ∀ W, Below w.heap.size w W → Calls Try.prog 15 #[.slice A n c] W (TreeCap W)) (hb : ∀ W, Below w.heap.size w W → Calls Try.prog 15 #[.slice B m d] W (TreeCap W)) :
    Calls Try.prog 5 #[.slice A n c, .slice B m d, .int .i64 th] w fun e w' => e = .returned (.bool true) ∧ Below w.heap.size w w' := by
  have HA := Lib.hid ha
  have HB := Lib.hid hb
  clear ha hb
  go_enter Try.func5, Try.ntmps5
  go_wp2_with fail
  refine (awake_any _).mono ?_
  rintro e w1 ⟨rfl, hB1⟩
  have HB1 := Lib.hid hB1
  clear hB1
  go_wp2_with fail
  refine (HA.out _ HB1.out).mono ?_
  rintro e w2 ⟨A1, c1, a, rfl, hI1, hO1, hB2, _⟩
  have HI1 := Lib.hid hI1
  have HO1 := Lib.hid hO1
  have HB2 := Lib.hid (HB1.out.trans (hB2.mono HB1.out.size))
  clear hI1 hO1 hB2
  go_wp2_with fail
  refine (HB.out _ HB2.out).mono ?_
  rintro e w3 ⟨A2, c2, b, rfl, hI2, hO2, hB3, _⟩
  have HI1' := Lib.hid (HI1.out.up hB3)
  have HI2 := Lib.hid hI2
  have HO2 := Lib.hid hO2
  have HB3 := Lib.hid (HB2.out.trans (hB3.mono HB2.out.size))
  clear hI2 hO2 hB3 HI1 HA HB HB1 HB2
  have la : a.length ≤ 200 := HO1.out.few
  have lb : b.length ≤ 200 := HO2.out.few
  go_wp2_with fail
  refine (pick11_any th 101 _ t1 t2 (by omega) (by omega)).mono ?_
  rintro e w4 ⟨rfl, rfl⟩
  obtain ⟨t, ht⟩ : ∃ t : Int, pickI th 101 = t := ⟨_, rfl⟩
  have rt := pickI_range th 101 (by omega)
  rw [ht] at rt ⊢
  obtain ⟨t3, t4⟩ := rt
  clear ht
  go_wp2_with fail
  refine (pairs_told A1 A2 a b a.length b.length c1 c2 t _ HI1'.out HI2.out rfl rfl HO1.out.fit HO2.out.fit).mono ?_
  rintro e w9 ⟨A9, c9, L, rfl, hP, hL, hB9, hll⟩
  have HP := Lib.hid hP
  have HL := Lib.hid hL
  have U1 := Lib.hid (HI1'.out.up hB9)
  have U2 := Lib.hid (HI2.out.up hB9)
  have UB := Lib.hid (HB3.out.trans (hB9.mono HB3.out.size))
  have hl2 : L.length ≤ 200 := by omega
  clear hP hL hB9 hll HI1' HI2 HB3
  go_wp2_with fail
  go_loopw [12] (fun x wr => ∃ i : Nat, i ≤ a.length ∧ x = .int .i64 i ∧ Below w9.heap.size w9 wr) (fun x _ => a.length - (intOf x).toNat)
  case atStart => exact ⟨0, Nat.zero_le _, rfl, Below.refl _ _⟩
  case round =>
    obtain ⟨i, hi, rfl, hBr⟩ := hrel
    by_cases g1 : i < a.length
    case neg =>
      go_wp2_with fail
      go_ret
      exact ⟨rfl, UB.out.trans (hBr.mono UB.out.size)⟩
    obtain ⟨⟨p1, k1, d1, b1⟩, hit⟩ : ∃ it, a[i]? = some it := ⟨_, List.getElem?_eq_getElem g1⟩
    obtain ⟨al, rfl, hal, x0, x1, x2, _⟩ := U1.out.at_ hit
    have halt : (al.add (i * 4)).block < w9.heap.size := by rw [add_block]; exact hal
    have HQA : Hid (∀ W, Below w9.heap.size w9 W → W.cell? (al.add (i * 4)) = some (.string p1) ∧ W.cell? ⟨(al.add (i * 4)).block, (al.add (i * 4)).off + 1, none⟩ = some (.int .i64 k1) ∧ W.cell? ⟨(al.add (i * 4)).block, (al.add (i * 4)).off + 2, none⟩ = some (.string d1)) := Lib.hid fun W hB =>
      ⟨(hB.cell halt).trans x0, (hB.cell (p := ⟨_, _, none⟩) halt).trans x1, (hB.cell (p := ⟨_, _, none⟩) halt).trans x2⟩
    have HIT := Lib.hid hit
    have HBR := Lib.hid hBr
    have HAL := Lib.hid halt
    have hz1 : d1.size ≤ 60 := HO1.out.data _ (List.mem_of_getElem? hit)
    have hps1 : p1.size ≤ 200 := HO1.out.path _ (List.mem_of_getElem? hit)
    clear hit x0 x1 x2 hal halt hBr
    go_wp2_with fail
    go_loopw [13] (fun x wr => ∃ k : Nat, k ≤ b.length ∧ x = .int .i64 k ∧ Below w9.heap.size w9 wr) (fun x _ => b.length - (intOf x).toNat)
    case atStart => exact ⟨0, Nat.zero_le _, rfl, HBR.out⟩
    case round =>
      clear HBR
      obtain ⟨k, hk, rfl, hBr⟩ := hrel
      by_cases g2 : k < b.length
      case neg =>
        go_wp2_with fail
        go_roundw
        case rel => exact ⟨i + 1, by omega, by go_num, hBr⟩
        case measure => simp [intOf]; omega
      obtain ⟨⟨p2, k2, d2, b2⟩, hit⟩ : ∃ it, b[k]? = some it := ⟨_, List.getElem?_eq_getElem g2⟩
      obtain ⟨bl, rfl, hbl, x0, x1, x2, _⟩ := U2.out.at_ hit
      have hblt : (bl.add (k * 4)).block < w9.heap.size := by rw [add_block]; exact hbl
      have HQB : Hid (∀ W, Below w9.heap.size w9 W → W.cell? (bl.add (k * 4)) = some (.string p2) ∧ W.cell? ⟨(bl.add (k * 4)).block, (bl.add (k * 4)).off + 1, none⟩ = some (.int .i64 k2) ∧ W.cell? ⟨(bl.add (k * 4)).block, (bl.add (k * 4)).off + 2, none⟩ = some (.string d2)) := Lib.hid fun W hB =>
        ⟨(hB.cell hblt).trans x0, (hB.cell (p := ⟨_, _, none⟩) hblt).trans x1, (hB.cell (p := ⟨_, _, none⟩) hblt).trans x2⟩
      have HIT2 := Lib.hid hit
      have HBR := Lib.hid hBr
      have hz2 : d2.size ≤ 60 := HO2.out.data _ (List.mem_of_getElem? hit)
      have hps2 : p2.size ≤ 200 := HO2.out.path _ (List.mem_of_getElem? hit)
      have HLL : Hid ((al.add (i * 4)).block < w9.heap.size ∧ (al.add (i * 4)).block < w9.heap.size ∧ (bl.add (k * 4)).block < w9.heap.size ∧ (bl.add (k * 4)).block < w9.heap.size) := Lib.hid ⟨HAL.out, HAL.out, hblt, hblt⟩
      clear hit x0 x1 x2 hbl hblt hBr
      obtain ⟨y0, y1, y2⟩ := HQA.out _ HBR.out
      obtain ⟨z0, z1, z2⟩ := HQB.out _ HBR.out
      by_cases e1 : k1 = 2
      case neg =>
        have f1 : ((k1 : Int) == 2) = false := by rw [beq_eq_false_iff_ne]; exact e1
        have f2 : ((k1 : Int) != 2) = true := by simpa using e1
        clear e1
        go_wp2_with fail
        go_roundw
        case rel => exact ⟨k + 1, by omega, by go_num, HBR.out⟩
        case measure => simp [intOf]; omega
      by_cases e2 : k2 = 2
      case neg =>
        have f1 : ((k2 : Int) == 2) = false := by rw [beq_eq_false_iff_ne]; exact e2
        have f2 : ((k2 : Int) != 2) = true := by simpa using e2
        subst e1
        clear e2
        go_wp2_with fail
        go_roundw
        case rel => exact ⟨k + 1, by omega, by go_num, HBR.out⟩
        case measure => simp [intOf]; omega
      subst e1 e2
      obtain ⟨sc, hsc⟩ : ∃ sc : Nat, Al.score (linesOf d1) (linesOf d2) = sc := ⟨_, rfl⟩
      have HSC := Lib.hid hsc
      have HF1 := Lib.hid (lines_fit hz1)
      have HF2 := Lib.hid (lines_fit hz2)
      have hsc2 : sc ≤ 100 := by rw [← hsc]; exact Al.score_le _ _
      clear hsc
      go_wp2_with fail
      have h0 : QBox w9 (al.add (i * 4)) ⟨(al.add (i * 4)).block, (al.add (i * 4)).off + 2, none⟩ (bl.add (k * 4)) ⟨(bl.add (k * 4)).block, (bl.add (k * 4)).off + 2, none⟩ (.string p1) (.string d1) (.string p2) (.string d2) wr := ⟨y0, y2, z0, z2, HBR.out⟩
      clear y0 y1 y2 z0 z1 z2
      go_cut [14] (fun s wx => Made w9 ⟨p1, p2, (sc : Int)⟩ s wx)
      case first =>
        refine wp_region_noPanic ?_
        refine wp_region_held_drew (S := QBox w9 (al.add (i * 4)) ⟨(al.add (i * 4)).block, (al.add (i * 4)).off + 2, none⟩ (bl.add (k * 4)) ⟨(bl.add (k * 4)).block, (bl.add (k * 4)).off + 2, none⟩ (.string p1) (.string d1) (.string p2) (.string d2)) (by kernel_rfl) (QBox.drew h0) (fun hS0 => ?_)
        change wpAnyH _ _ _ _ _ 26 #[false, false, false, false, false, false, false, false, false, false, false, false, false, false, false, false, false, false, false, false, false, false, false, false, false, false] _ (World.drew _)
        refine wpAnyH_take (i := 0) (v := .slice (some al) a.length c1) rfl (by kernel_rfl) (by kernel_rfl) (by kernel_rfl) (fun _ _ _ h => h) (Or.inl ⟨by rfl, fun w' hS' => by obtain ⟨y0, y1, y2, y3, _⟩ := hS'; go_simp⟩) hS0 ?_
        change wpAnyH _ _ _ _ _ _ _ (Act.put _ (some 54) (.slice (some al) a.length c1)) _
        simp only [Act.put, List.setIfInBounds_toArray, List.set_cons_zero, List.set_cons_succ]
        refine wpAnyH_take (i := 1) (v := .int .i64 (i : Int)) rfl (by kernel_rfl) (by kernel_rfl) (by kernel_rfl) (fun _ _ _ h => h) (Or.inl ⟨by rfl, fun w' hS' => by obtain ⟨y0, y1, y2, y3, _⟩ := hS'; go_simp⟩) hS0 ?_
        change wpAnyH _ _ _ _ _ _ _ (Act.put _ (some 55) (.int .i64 (i : Int))) _
        simp only [Act.put, List.setIfInBounds_toArray, List.set_cons_zero, List.set_cons_succ]
        refine wpAnyH_take (i := 2) (v := .pointer (some (al.add (i * 4)))) rfl (by kernel_rfl) (by kernel_rfl) (by kernel_rfl) (fun _ _ _ h => h) (Or.inl ⟨by rfl, fun w' hS' => by obtain ⟨y0, y1, y2, y3, _⟩ := hS'; go_simp⟩) hS0 ?_
        change wpAnyH _ _ _ _ _ _ _ (Act.put _ (some 56) (.pointer (some (al.add (i * 4))))) _
        simp only [Act.put, List.setIfInBounds_toArray, List.set_cons_zero, List.set_cons_succ]
        refine wpAnyH_take (i := 3) (v := .pointer (some (al.add (i * 4)))) rfl (by kernel_rfl) (by kernel_rfl) (by kernel_rfl) (fun _ _ _ h => h) (Or.inl ⟨by rfl, fun w' hS' => by obtain ⟨y0, y1, y2, y3, _⟩ := hS'; go_simp⟩) hS0 ?_
        change wpAnyH _ _ _ _ _ _ _ (Act.put _ (some 57) (.pointer (some (al.add (i * 4))))) _
        simp only [Act.put, List.setIfInBounds_toArray, List.set_cons_zero, List.set_cons_succ]
        refine wpAnyH_take (i := 4) (v := .string p1) rfl (by kernel_rfl) (by kernel_rfl) (by kernel_rfl) (fun _ _ _ h => h) (Or.inl ⟨by rfl, fun w' hS' => by obtain ⟨y0, y1, y2, y3, _⟩ := hS'; go_simp⟩) hS0 ?_
        change wpAnyH _ _ _ _ _ _ _ (Act.put _ (some 58) (.string p1)) _
        simp only [Act.put, List.setIfInBounds_toArray, List.set_cons_zero, List.set_cons_succ]
        refine wpAnyH_take (i := 5) (v := .slice (some bl) b.length c2) rfl (by kernel_rfl) (by kernel_rfl) (by kernel_rfl) (fun _ _ _ h => h) (Or.inl ⟨by rfl, fun w' hS' => by obtain ⟨y0, y1, y2, y3, _⟩ := hS'; go_simp⟩) hS0 ?_
        change wpAnyH _ _ _ _ _ _ _ (Act.put _ (some 59) (.slice (some bl) b.length c2)) _
        simp only [Act.put, List.setIfInBounds_toArray, List.set_cons_zero, List.set_cons_succ]
        refine wpAnyH_take (i := 6) (v := .int .i64 (k : Int)) rfl (by kernel_rfl) (by kernel_rfl) (by kernel_rfl) (fun _ _ _ h => h) (Or.inl ⟨by rfl, fun w' hS' => by obtain ⟨y0, y1, y2, y3, _⟩ := hS'; go_simp⟩) hS0 ?_
        change wpAnyH _ _ _ _ _ _ _ (Act.put _ (some 60) (.int .i64 (k : Int))) _
        simp only [Act.put, List.setIfInBounds_toArray, List.set_cons_zero, List.set_cons_succ]
        refine wpAnyH_take (i := 7) (v := .pointer (some (bl.add (k * 4)))) rfl (by kernel_rfl) (by kernel_rfl) (by kernel_rfl) (fun _ _ _ h => h) (Or.inl ⟨by rfl, fun w' hS' => by obtain ⟨y0, y1, y2, y3, _⟩ := hS'; go_simp⟩) hS0 ?_
        change wpAnyH _ _ _ _ _ _ _ (Act.put _ (some 61) (.pointer (some (bl.add (k * 4))))) _
        simp only [Act.put, List.setIfInBounds_toArray, List.set_cons_zero, List.set_cons_succ]
        refine wpAnyH_take (i := 8) (v := .pointer (some (bl.add (k * 4)))) rfl (by kernel_rfl) (by kernel_rfl) (by kernel_rfl) (fun _ _ _ h => h) (Or.inl ⟨by rfl, fun w' hS' => by obtain ⟨y0, y1, y2, y3, _⟩ := hS'; go_simp⟩) hS0 ?_
        change wpAnyH _ _ _ _ _ _ _ (Act.put _ (some 62) (.pointer (some (bl.add (k * 4))))) _
        simp only [Act.put, List.setIfInBounds_toArray, List.set_cons_zero, List.set_cons_succ]
        refine wpAnyH_take (i := 9) (v := .string p2) rfl (by kernel_rfl) (by kernel_rfl) (by kernel_rfl) (fun _ _ _ h => h) (Or.inl ⟨by rfl, fun w' hS' => by obtain ⟨y0, y1, y2, y3, _⟩ := hS'; go_simp⟩) hS0 ?_
        change wpAnyH _ _ _ _ _ _ _ (Act.put _ (some 63) (.string p2)) _
        simp only [Act.put, List.setIfInBounds_toArray, List.set_cons_zero, List.set_cons_succ]
        refine wpAnyH_take (i := 10) (v := .slice (some al) a.length c1) rfl (by kernel_rfl) (by kernel_rfl) (by kernel_rfl) (fun _ _ _ h => h) (Or.inl ⟨by rfl, fun w' hS' => by obtain ⟨y0, y1, y2, y3, _⟩ := hS'; go_simp⟩) hS0 ?_
        change wpAnyH _ _ _ _ _ _ _ (Act.put _ (some 64) (.slice (some al) a.length c1)) _
        simp only [Act.put, List.setIfInBounds_toArray, List.set_cons_zero, List.set_cons_succ]
        refine wpAnyH_take (i := 11) (v := .int .i64 (i : Int)) rfl (by kernel_rfl) (by kernel_rfl) (by kernel_rfl) (fun _ _ _ h => h) (Or.inl ⟨by rfl, fun w' hS' => by obtain ⟨y0, y1, y2, y3, _⟩ := hS'; go_simp⟩) hS0 ?_
        change wpAnyH _ _ _ _ _ _ _ (Act.put _ (some 65) (.int .i64 (i : Int))) _
        simp only [Act.put, List.setIfInBounds_toArray, List.set_cons_zero, List.set_cons_succ]
        refine wpAnyH_take (i := 12) (v := .pointer (some (al.add (i * 4)))) rfl (by kernel_rfl) (by kernel_rfl) (by kernel_rfl) (fun _ _ _ h => h) (Or.inl ⟨by rfl, fun w' hS' => by obtain ⟨y0, y1, y2, y3, _⟩ := hS'; go_simp⟩) hS0 ?_
        change wpAnyH _ _ _ _ _ _ _ (Act.put _ (some 66) (.pointer (some (al.add (i * 4))))) _
        simp only [Act.put, List.setIfInBounds_toArray, List.set_cons_zero, List.set_cons_succ]
        refine wpAnyH_take (i := 13) (v := .pointer (some ⟨(al.add (i * 4)).block, (al.add (i * 4)).off + 2, none⟩)) rfl (by kernel_rfl) (by kernel_rfl) (by kernel_rfl) (fun _ _ _ h => h) (Or.inl ⟨by rfl, fun w' hS' => by obtain ⟨y0, y1, y2, y3, _⟩ := hS'; go_simp⟩) hS0 ?_
        change wpAnyH _ _ _ _ _ _ _ (Act.put _ (some 67) (.pointer (some ⟨(al.add (i * 4)).block, (al.add (i * 4)).off + 2, none⟩))) _
        simp only [Act.put, List.setIfInBounds_toArray, List.set_cons_zero, List.set_cons_succ]
        refine wpAnyH_take (i := 14) (v := .string d1) rfl (by kernel_rfl) (by kernel_rfl) (by kernel_rfl) (fun _ _ _ h => h) (Or.inl ⟨by rfl, fun w' hS' => by obtain ⟨y0, y1, y2, y3, _⟩ := hS'; go_simp⟩) hS0 ?_
        change wpAnyH _ _ _ _ _ _ _ (Act.put _ (some 68) (.string d1)) _
        simp only [Act.put, List.setIfInBounds_toArray, List.set_cons_zero, List.set_cons_succ]
        refine wpAnyH_take (i := 16) (v := .slice (some bl) b.length c2) rfl (by kernel_rfl) (by kernel_rfl) (by kernel_rfl) (fun _ _ _ h => h) (Or.inl ⟨by rfl, fun w' hS' => by obtain ⟨y0, y1, y2, y3, _⟩ := hS'; go_simp⟩) hS0 ?_
        change wpAnyH _ _ _ _ _ _ _ (Act.put _ (some 70) (.slice (some bl) b.length c2)) _
        simp only [Act.put, List.setIfInBounds_toArray, List.set_cons_zero, List.set_cons_succ]
        refine wpAnyH_take (i := 17) (v := .int .i64 (k : Int)) rfl (by kernel_rfl) (by kernel_rfl) (by kernel_rfl) (fun _ _ _ h => h) (Or.inl ⟨by rfl, fun w' hS' => by obtain ⟨y0, y1, y2, y3, _⟩ := hS'; go_simp⟩) hS0 ?_
        change wpAnyH _ _ _ _ _ _ _ (Act.put _ (some 71) (.int .i64 (k : Int))) _
        simp only [Act.put, List.setIfInBounds_toArray, List.set_cons_zero, List.set_cons_succ]
        refine wpAnyH_take (i := 18) (v := .pointer (some (bl.add (k * 4)))) rfl (by kernel_rfl) (by kernel_rfl) (by kernel_rfl) (fun _ _ _ h => h) (Or.inl ⟨by rfl, fun w' hS' => by obtain ⟨y0, y1, y2, y3, _⟩ := hS'; go_simp⟩) hS0 ?_
        change wpAnyH _ _ _ _ _ _ _ (Act.put _ (some 72) (.pointer (some (bl.add (k * 4))))) _
        simp only [Act.put, List.setIfInBounds_toArray, List.set_cons_zero, List.set_cons_succ]
        refine wpAnyH_take (i := 19) (v := .pointer (some ⟨(bl.add (k * 4)).block, (bl.add (k * 4)).off + 2, none⟩)) rfl (by kernel_rfl) (by kernel_rfl) (by kernel_rfl) (fun _ _ _ h => h) (Or.inl ⟨by rfl, fun w' hS' => by obtain ⟨y0, y1, y2, y3, _⟩ := hS'; go_simp⟩) hS0 ?_
        change wpAnyH _ _ _ _ _ _ _ (Act.put _ (some 73) (.pointer (some ⟨(bl.add (k * 4)).block, (bl.add (k * 4)).off + 2, none⟩))) _
        simp only [Act.put, List.setIfInBounds_toArray, List.set_cons_zero, List.set_cons_succ]
        refine wpAnyH_take (i := 20) (v := .string d2) rfl (by kernel_rfl) (by kernel_rfl) (by kernel_rfl) (fun _ _ _ h => h) (Or.inl ⟨by rfl, fun w' hS' => by obtain ⟨y0, y1, y2, y3, _⟩ := hS'; go_simp⟩) hS0 ?_
        change wpAnyH _ _ _ _ _ _ _ (Act.put _ (some 74) (.string d2)) _
        simp only [Act.put, List.setIfInBounds_toArray, List.set_cons_zero, List.set_cons_succ]
        refine wpAnyH_ready (rs := [15, 24]) (by kernel_rfl) (by simp) (AllReadyH.cons rfl (fun K hK => ?_) (AllReadyH.cons rfl (fun K hK => ?_) (AllReadyH.nil)))
        · skip
          go_simp
          refine (split_lines d1 _ hz1).mono ?_
          rintro e ws15 ⟨As1, cs1, rfl, hS_1, hb⟩
          refine hK.out _ _ (QBox.below hS0 hb) (fun hS1 => ?_)
          clear hK K
          clear hb
          simp only [List.setIfInBounds_toArray, List.set_cons_zero, List.set_cons_succ]
          refine wpAnyH_ready (rs := [21, 24]) (by kernel_rfl) (by simp) (AllReadyH.cons rfl (fun K hK => ?_) (AllReadyH.cons rfl (fun K hK => ?_) (AllReadyH.nil)))
          · skip
            go_simp
            refine (split_lines d2 _ hz2).mono ?_
            rintro e ws21 ⟨As2, cs2, rfl, hS_2, hb⟩
            refine hK.out _ _ (QBox.below hS1 hb) (fun hS2 => ?_)
            clear hK K
            replace hS_1 := hS_1.up2 hb
            clear hb
            simp only [List.setIfInBounds_toArray, List.set_cons_zero, List.set_cons_succ]
            refine wpAnyH_ready (rs := [22, 24]) (by kernel_rfl) (by simp) (AllReadyH.cons rfl (fun K hK => ?_) (AllReadyH.cons rfl (fun K hK => ?_) (AllReadyH.nil)))
            · skip
              go_simp
              refine (score_at As1 As2 _ _ cs1 cs2 sc _ hS_1 hS_2 HF1.out.1 HF2.out.1 HF1.out.2 HF2.out.2 HSC.out).mono ?_
              rintro e ws22 ⟨rfl, hb⟩
              refine hK.out _ _ (QBox.below hS2 hb) (fun hS3 => ?_)
              clear hK K
              clear hb
              simp only [List.setIfInBounds_toArray, List.set_cons_zero, List.set_cons_succ]
              refine wpAnyH_take (i := 23) (v := .agg #[.string p1, .string p2, .int .i64 (sc : Int)]) rfl (by kernel_rfl) (by kernel_rfl) (by kernel_rfl) (fun _ _ _ h => h) (Or.inl ⟨by rfl, fun w' hS' => by obtain ⟨y0, y1, y2, y3, _⟩ := hS'; go_simp⟩) hS3 ?_
              change wpAnyH _ _ _ _ _ _ _ (Act.put _ (some 77) (.agg #[.string p1, .string p2, .int .i64 (sc : Int)])) _
              simp only [Act.put, List.setIfInBounds_toArray, List.set_cons_zero, List.set_cons_succ]
              refine wpAnyH_ready (rs := [24]) (by kernel_rfl) (by simp) (AllReadyH.cons rfl (fun K hK => ?_) (AllReadyH.nil))
              · skip
                go_simp
                refine hK.out _ _ (QBox.alloc hS3 _) (fun hS4 => ?_)
                clear hK K
                obtain ⟨q, hq⟩ : ∃ q, q = ws22.heap.size := ⟨_, rfl⟩
                obtain ⟨Wq, hWq⟩ : ∃ Wq, Wq = ws22.alloc (.cells #[.string ⟨#[]⟩, .string ⟨#[]⟩, .int .i64 0] 37) := ⟨_, rfl⟩
                have hbq : Blk Wq q 37 #[.string ⟨#[]⟩, .string ⟨#[]⟩, .int .i64 0] := by rw [hWq, hq]; exact Blk.new ws22 37 _
                have hwq : w9.heap.size ≤ q := by rw [hq]; exact hS3.2.2.2.2.size
                rw [← hWq] at hS4 ⊢
                rw [← hq]
                clear hWq hq
                simp only [List.setIfInBounds_toArray, List.set_cons_zero, List.set_cons_succ]
                refine wpAnyH_ready (rs := [25]) (by kernel_rfl) (by simp) (AllReadyH.cons rfl (fun K hK => ?_) (AllReadyH.nil))
                · skip
                  have y0 := Blk.cell hbq 0
                  have y1 := Blk.cell hbq 1
                  have y2 := Blk.cell hbq 2
                  have z0 := Blk.frozen hbq 0
                  have z1 := Blk.frozen hbq 1
                  have z2 := Blk.frozen hbq 2
                  simp only [List.getElem?_toArray, List.getElem?_cons_zero, List.getElem?_cons_succ] at y0 y1 y2
                  go_simp
                  refine hK.out _ _ (QBox.set (QBox.set (QBox.set hS4 HLL.out q hwq 0 _) HLL.out q hwq 1 _) HLL.out q hwq 2 _) (fun hS5 => ?_)
                  clear hK K
                  simp only [List.setIfInBounds_toArray, List.set_cons_zero, List.set_cons_succ]
                  have hbE := ((Blk.set_ hbq 0 (.string p1)).set_ 1 (.string p2)).set_ 2 (.int .i64 (sc : Int))
                  refine wpAnyH_done (by kernel_rfl) ?_ _
                  refine NoPanic.normal ?_
                  go_simp
                  go_wp2_with fail
                  go_meet
                  exact ⟨q, rfl, hwq, hbE, hS5.2.2.2.2⟩
            · skip
              go_simp
              refine hK.out _ _ (QBox.alloc hS2 _) (fun hS3 => ?_)
              clear hK K
              obtain ⟨q, hq⟩ : ∃ q, q = ws21.heap.size := ⟨_, rfl⟩
              obtain ⟨Wq, hWq⟩ : ∃ Wq, Wq = ws21.alloc (.cells #[.string ⟨#[]⟩, .string ⟨#[]⟩, .int .i64 0] 37) := ⟨_, rfl⟩
              have hbq : Blk Wq q 37 #[.string ⟨#[]⟩, .string ⟨#[]⟩, .int .i64 0] := by rw [hWq, hq]; exact Blk.new ws21 37 _
              have hwq : w9.heap.size ≤ q := by rw [hq]; exact hS2.2.2.2.2.size
              have hS_1q := hS_1.up2 ((Below.refl _ ws21).alloc (Nat.le_refl _) (.cells #[.string ⟨#[]⟩, .string ⟨#[]⟩, .int .i64 0] 37))
              have hS_2q := hS_2.up2 ((Below.refl _ ws21).alloc (Nat.le_refl _) (.cells #[.string ⟨#[]⟩, .string ⟨#[]⟩, .int .i64 0] 37))
              rw [← hWq] at hS_1q hS_2q
              rw [← hWq] at hS3 ⊢
              rw [← hq]
              clear hWq hq
              clear hS_1 hS_2
              have hS_1 := hS_1q
              have hS_2 := hS_2q
              simp only [List.setIfInBounds_toArray, List.set_cons_zero, List.set_cons_succ]
              refine wpAnyH_ready (rs := [22]) (by kernel_rfl) (by simp) (AllReadyH.cons rfl (fun K hK => ?_) (AllReadyH.nil))
              · skip
                go_simp
                refine (score_at As1 As2 _ _ cs1 cs2 sc _ hS_1 hS_2 HF1.out.1 HF2.out.1 HF1.out.2 HF2.out.2 HSC.out).mono ?_
                rintro e ws22 ⟨rfl, hb⟩
                refine hK.out _ _ (QBox.below hS3 hb) (fun hS4 => ?_)
                clear hK K
                have hbq4 := Blk.below hbq hb (by have := Blk.lt hbq; exact this)
                clear hb
                simp only [List.setIfInBounds_toArray, List.set_cons_zero, List.set_cons_succ]
                refine wpAnyH_take (i := 23) (v := .agg #[.string p1, .string p2, .int .i64 (sc : Int)]) rfl (by kernel_rfl) (by kernel_rfl) (by kernel_rfl) (fun _ _ _ h => h) (Or.inl ⟨by rfl, fun w' hS' => by obtain ⟨y0, y1, y2, y3, _⟩ := hS'; go_simp⟩) hS4 ?_
                change wpAnyH _ _ _ _ _ _ _ (Act.put _ (some 77) (.agg #[.string p1, .string p2, .int .i64 (sc : Int)])) _
                simp only [Act.put, List.setIfInBounds_toArray, List.set_cons_zero, List.set_cons_succ]
                refine wpAnyH_ready (rs := [25]) (by kernel_rfl) (by simp) (AllReadyH.cons rfl (fun K hK => ?_) (AllReadyH.nil))
                · skip
                  have y0 := Blk.cell hbq4 0
                  have y1 := Blk.cell hbq4 1
                  have y2 := Blk.cell hbq4 2
                  have z0 := Blk.frozen hbq4 0
                  have z1 := Blk.frozen hbq4 1
                  have z2 := Blk.frozen hbq4 2
                  simp only [List.getElem?_toArray, List.getElem?_cons_zero, List.getElem?_cons_succ] at y0 y1 y2
                  go_simp
                  refine hK.out _ _ (QBox.set (QBox.set (QBox.set hS4 HLL.out q hwq 0 _) HLL.out q hwq 1 _) HLL.out q hwq 2 _) (fun hS5 => ?_)
                  clear hK K
                  simp only [List.setIfInBounds_toArray, List.set_cons_zero, List.set_cons_succ]
                  have hbE := ((Blk.set_ hbq4 0 (.string p1)).set_ 1 (.string p2)).set_ 2 (.int .i64 (sc : Int))
                  refine wpAnyH_done (by kernel_rfl) ?_ _
                  refine NoPanic.normal ?_
                  go_simp
                  go_wp2_with fail
                  go_meet
                  exact ⟨q, rfl, hwq, hbE, hS5.2.2.2.2⟩
          · skip
            go_simp
            refine hK.out _ _ (QBox.alloc hS1 _) (fun hS2 => ?_)
            clear hK K
            obtain ⟨q, hq⟩ : ∃ q, q = ws15.heap.size := ⟨_, rfl⟩
            obtain ⟨Wq, hWq⟩ : ∃ Wq, Wq = ws15.alloc (.cells #[.string ⟨#[]⟩, .string ⟨#[]⟩, .int .i64 0] 37) := ⟨_, rfl⟩
            have hbq : Blk Wq q 37 #[.string ⟨#[]⟩, .string ⟨#[]⟩, .int .i64 0] := by rw [hWq, hq]; exact Blk.new ws15 37 _
            have hwq : w9.heap.size ≤ q := by rw [hq]; exact hS1.2.2.2.2.size
            have hS_1q := hS_1.up2 ((Below.refl _ ws15).alloc (Nat.le_refl _) (.cells #[.string ⟨#[]⟩, .string ⟨#[]⟩, .int .i64 0] 37))
            rw [← hWq] at hS_1q
            rw [← hWq] at hS2 ⊢
            rw [← hq]
            clear hWq hq
            clear hS_1
            have hS_1 := hS_1q
            simp only [List.setIfInBounds_toArray, List.set_cons_zero, List.set_cons_succ]
            refine wpAnyH_ready (rs := [21]) (by kernel_rfl) (by simp) (AllReadyH.cons rfl (fun K hK => ?_) (AllReadyH.nil))
            · skip
              go_simp
              refine (split_lines d2 _ hz2).mono ?_
              rintro e ws21 ⟨As2, cs2, rfl, hS_2, hb⟩
              refine hK.out _ _ (QBox.below hS2 hb) (fun hS3 => ?_)
              clear hK K
              replace hS_1 := hS_1.up2 hb
              have hbq3 := Blk.below hbq hb (by have := Blk.lt hbq; exact this)
              clear hb
              simp only [List.setIfInBounds_toArray, List.set_cons_zero, List.set_cons_succ]
              refine wpAnyH_ready (rs := [22]) (by kernel_rfl) (by simp) (AllReadyH.cons rfl (fun K hK => ?_) (AllReadyH.nil))
              · skip
                go_simp
                refine (score_at As1 As2 _ _ cs1 cs2 sc _ hS_1 hS_2 HF1.out.1 HF2.out.1 HF1.out.2 HF2.out.2 HSC.out).mono ?_
                rintro e ws22 ⟨rfl, hb⟩
                refine hK.out _ _ (QBox.below hS3 hb) (fun hS4 => ?_)
                clear hK K
                have hbq4 := Blk.below hbq3 hb (by have := Blk.lt hbq3; exact this)
                clear hb
                simp only [List.setIfInBounds_toArray, List.set_cons_zero, List.set_cons_succ]
                refine wpAnyH_take (i := 23) (v := .agg #[.string p1, .string p2, .int .i64 (sc : Int)]) rfl (by kernel_rfl) (by kernel_rfl) (by kernel_rfl) (fun _ _ _ h => h) (Or.inl ⟨by rfl, fun w' hS' => by obtain ⟨y0, y1, y2, y3, _⟩ := hS'; go_simp⟩) hS4 ?_
                change wpAnyH _ _ _ _ _ _ _ (Act.put _ (some 77) (.agg #[.string p1, .string p2, .int .i64 (sc : Int)])) _
                simp only [Act.put, List.setIfInBounds_toArray, List.set_cons_zero, List.set_cons_succ]
                refine wpAnyH_ready (rs := [25]) (by kernel_rfl) (by simp) (AllReadyH.cons rfl (fun K hK => ?_) (AllReadyH.nil))
                · skip
                  have y0 := Blk.cell hbq4 0
                  have y1 := Blk.cell hbq4 1
                  have y2 := Blk.cell hbq4 2
                  have z0 := Blk.frozen hbq4 0
                  have z1 := Blk.frozen hbq4 1
                  have z2 := Blk.frozen hbq4 2
                  simp only [List.getElem?_toArray, List.getElem?_cons_zero, List.getElem?_cons_succ] at y0 y1 y2
                  go_simp
                  refine hK.out _ _ (QBox.set (QBox.set (QBox.set hS4 HLL.out q hwq 0 _) HLL.out q hwq 1 _) HLL.out q hwq 2 _) (fun hS5 => ?_)
                  clear hK K
                  simp only [List.setIfInBounds_toArray, List.set_cons_zero, List.set_cons_succ]
                  have hbE := ((Blk.set_ hbq4 0 (.string p1)).set_ 1 (.string p2)).set_ 2 (.int .i64 (sc : Int))
                  refine wpAnyH_done (by kernel_rfl) ?_ _
                  refine NoPanic.normal ?_
                  go_simp
                  go_wp2_with fail
                  go_meet
                  exact ⟨q, rfl, hwq, hbE, hS5.2.2.2.2⟩
        · skip
          go_simp
          refine hK.out _ _ (QBox.allocDrew hS0 _) (fun hS1 => ?_)
          clear hK K
          obtain ⟨q, hq⟩ : ∃ q, q = wr.heap.size := ⟨_, rfl⟩
          obtain ⟨Wq, hWq⟩ : ∃ Wq, Wq = (wr.alloc (.cells #[.string ⟨#[]⟩, .string ⟨#[]⟩, .int .i64 0] 37)).drew := ⟨_, rfl⟩
          have hbq : Blk Wq q 37 #[.string ⟨#[]⟩, .string ⟨#[]⟩, .int .i64 0] := by rw [hWq, hq]; exact Blk.new wr 37 _
          have hwq : w9.heap.size ≤ q := by rw [hq]; exact h0.2.2.2.2.size
          rw [← hWq] at hS1 ⊢
          have hqd : wr.drew.heap.size = q := hq.symm
          first | rw [← hq] | rw [hqd]
          clear hWq hq hqd
          simp only [List.setIfInBounds_toArray, List.set_cons_zero, List.set_cons_succ]
          refine wpAnyH_ready (rs := [15]) (by kernel_rfl) (by simp) (AllReadyH.cons rfl (fun K hK => ?_) (AllReadyH.nil))
          · skip
            go_simp
            refine (split_lines d1 _ hz1).mono ?_
            rintro e ws15 ⟨As1, cs1, rfl, hS_1, hb⟩
            refine hK.out _ _ (QBox.below hS1 hb) (fun hS2 => ?_)
            clear hK K
            have hbq2 := Blk.below hbq hb (by have := Blk.lt hbq; exact this)
            clear hb
            simp only [List.setIfInBounds_toArray, List.set_cons_zero, List.set_cons_succ]
            refine wpAnyH_ready (rs := [21]) (by kernel_rfl) (by simp) (AllReadyH.cons rfl (fun K hK => ?_) (AllReadyH.nil))
            · skip
              go_simp
              refine (split_lines d2 _ hz2).mono ?_
              rintro e ws21 ⟨As2, cs2, rfl, hS_2, hb⟩
              refine hK.out _ _ (QBox.below hS2 hb) (fun hS3 => ?_)
              clear hK K
              replace hS_1 := hS_1.up2 hb
              have hbq3 := Blk.below hbq2 hb (by have := Blk.lt hbq2; exact this)
              clear hb
              simp only [List.setIfInBounds_toArray, List.set_cons_zero, List.set_cons_succ]
              refine wpAnyH_ready (rs := [22]) (by kernel_rfl) (by simp) (AllReadyH.cons rfl (fun K hK => ?_) (AllReadyH.nil))
              · skip
                go_simp
                refine (score_at As1 As2 _ _ cs1 cs2 sc _ hS_1 hS_2 HF1.out.1 HF2.out.1 HF1.out.2 HF2.out.2 HSC.out).mono ?_
                rintro e ws22 ⟨rfl, hb⟩
                refine hK.out _ _ (QBox.below hS3 hb) (fun hS4 => ?_)
                clear hK K
                have hbq4 := Blk.below hbq3 hb (by have := Blk.lt hbq3; exact this)
                clear hb
                simp only [List.setIfInBounds_toArray, List.set_cons_zero, List.set_cons_succ]
                refine wpAnyH_take (i := 23) (v := .agg #[.string p1, .string p2, .int .i64 (sc : Int)]) rfl (by kernel_rfl) (by kernel_rfl) (by kernel_rfl) (fun _ _ _ h => h) (Or.inl ⟨by rfl, fun w' hS' => by obtain ⟨y0, y1, y2, y3, _⟩ := hS'; go_simp⟩) hS4 ?_
                change wpAnyH _ _ _ _ _ _ _ (Act.put _ (some 77) (.agg #[.string p1, .string p2, .int .i64 (sc : Int)])) _
                simp only [Act.put, List.setIfInBounds_toArray, List.set_cons_zero, List.set_cons_succ]
                refine wpAnyH_ready (rs := [25]) (by kernel_rfl) (by simp) (AllReadyH.cons rfl (fun K hK => ?_) (AllReadyH.nil))
                · skip
                  have y0 := Blk.cell hbq4 0
                  have y1 := Blk.cell hbq4 1
                  have y2 := Blk.cell hbq4 2
                  have z0 := Blk.frozen hbq4 0
                  have z1 := Blk.frozen hbq4 1
                  have z2 := Blk.frozen hbq4 2
                  simp only [List.getElem?_toArray, List.getElem?_cons_zero, List.getElem?_cons_succ] at y0 y1 y2
                  go_simp
                  refine hK.out _ _ (QBox.set (QBox.set (QBox.set hS4 HLL.out q hwq 0 _) HLL.out q hwq 1 _) HLL.out q hwq 2 _) (fun hS5 => ?_)
                  clear hK K
                  simp only [List.setIfInBounds_toArray, List.set_cons_zero, List.set_cons_succ]
                  have hbE := ((Blk.set_ hbq4 0 (.string p1)).set_ 1 (.string p2)).set_ 2 (.int .i64 (sc : Int))
                  refine wpAnyH_done (by kernel_rfl) ?_ _
                  refine NoPanic.normal ?_
                  go_simp
                  go_wp2_with fail
                  go_meet
                  exact ⟨q, rfl, hwq, hbE, hS5.2.2.2.2⟩
      case rest =>
      obtain ⟨g, rfl, hgw, hbk, hBw⟩ := hcut
      have c0 := hbk.cell 0
      have c1' := hbk.cell 1
      have c2' := hbk.cell 2
      simp only [List.getElem?_toArray, List.getElem?_cons_zero, List.getElem?_cons_succ] at c0 c1' c2'
      have HBW := Lib.hid hBw
      clear hbk hBw h0
      by_cases hs : (sc : Int) < max t 1
      case pos =>
        go_wp2_with fail
        go_roundw
        case rel => exact ⟨k + 1, by omega, by go_num, HBW.out⟩
        case measure => simp [intOf]; omega
      have hs' : max t 1 ≤ (sc : Int) := by omega
      have HDONE : Hid (doneM L ⟨p1, p2, (sc : Int)⟩ L.length = true) := Lib.hid (doneM_all HP.out ⟨(p1, linesOf d1), fl_mem HO1.out HIT.out rfl, (p2, linesOf d2), fl_mem HO2.out HIT2.out rfl, by show _ = (⟨p1, p2, ((Al.score (linesOf d1) (linesOf d2) : Nat) : Int)⟩ : Pr); rw [HSC.out], hs'⟩)
      have HPS : Hid (∀ (q : Nat) (x : Pr), L[q]? = some x → x.fr.size ≤ 200 ∧ x.tt.size ≤ 200) := Lib.hid fun q x hx => by
        obtain ⟨u, hu, v, hv, rfl, _⟩ := HP.out.cand x (List.mem_of_getElem? hx)
        exact ⟨fl_path HO1.out hu, fl_path HO2.out hv⟩
      clear HSC HF1 HF2 HLL HIT2 HQB hs HBR
      go_wp2_with fail
      go_loopw [15, 16] (fun dn x wr => ∃ q : Nat, q ≤ L.length ∧ x = .int .i64 q ∧ dn = .bool (doneM L ⟨p1, p2, (sc : Int)⟩ q) ∧ wr.cell? ⟨g, 0, none⟩ = some (.string p1) ∧ wr.cell? ⟨g, 1, none⟩ = some (.string p2) ∧ wr.cell? ⟨g, 2, none⟩ = some (.int .i64 (sc : Int)) ∧ Below w9.heap.size w9 wr) (fun _ x _ => L.length - (intOf x).toNat)
      case atStart => exact ⟨0, Nat.zero_le _, rfl, rfl, c0, c1', c2', HBW.out⟩
      case round =>
        clear c0 c1' c2' HBW
        obtain ⟨q, hq, rfl, rfl, s4, s5, s6, hBq⟩ := hrel
        by_cases g3 : q < L.length
        case neg =>
          have hqe : q = L.length := by omega
          have hd : doneM L ⟨p1, p2, (sc : Int)⟩ q = true := by rw [hqe]; exact HDONE.out
          clear hqe
          go_wp2_with fail
          go_roundw
          case rel => exact ⟨k + 1, by omega, by go_num, hBq⟩
          case measure => simp [intOf]; omega
        obtain ⟨⟨pf, pt, ps⟩, hpj⟩ : ∃ pj, L[q]? = some pj := ⟨_, List.getElem?_eq_getElem g3⟩
        obtain ⟨ll, rfl, hll, hca⟩ := (HL.out.up hBq) (by intro e; subst e; simp at hpj)
        obtain ⟨y0, y1, y2⟩ := hca q _ hpj
        dsimp only at y0 y1 y2
        obtain ⟨z0, z1⟩ := HPS.out q _ hpj
        dsimp only at z0 z1
        have HST := Lib.hid (doneM_step (c := ⟨p1, p2, (sc : Int)⟩) hpj)
        have HBQ := Lib.hid hBq
        obtain ⟨bv, hbv⟩ : ∃ bv, decide (btr ⟨pf, pt, ps⟩ ⟨p1, p2, (sc : Int)⟩) = bv := ⟨_, rfl⟩
        obtain ⟨bf, hbf⟩ : ∃ bf, (pf.toList == p1.toList) = bf := ⟨_, rfl⟩
        obtain ⟨bt, hbt⟩ : ∃ bt, (pt.toList == p2.toList) = bt := ⟨_, rfl⟩
        obtain ⟨bs, hbs⟩ : ∃ bs, ((ps : Int) == (sc : Int)) = bs := ⟨_, rfl⟩
        obtain ⟨dv, hdv⟩ : ∃ dv, doneM L ⟨p1, p2, (sc : Int)⟩ q = dv := ⟨_, rfl⟩
        have HS2 : Hid (doneM L ⟨p1, p2, (sc : Int)⟩ (q + 1) = (dv || ((bf && bt && bs) || ((bf || bt) && bv)))) := Lib.hid (by
          rw [HST.out, hdv, ← hbf, ← hbt, ← hbs, hbv, text_dec, text_dec]
          congr 2
          rw [Bool.eq_iff_iff]
          simp only [decide_eq_true_eq, Bool.and_eq_true, beq_iff_eq, Pr.mk.injEq, and_assoc])
        have HBV := Lib.hid hbv
        rw [hdv]
        clear hpj hca hll hBq HST hbv hdv
        cases dv
        · cases bf
          · cases bt
            · have HN : Hid (doneM L ⟨p1, p2, (sc : Int)⟩ (q + 1) = false) := Lib.hid (by rw [HS2.out]; simp)
              clear HS2 hbs
              go_wp2_with fail
              go_quiet (fail)
              go_wp2_with fail
              go_roundw
              case rel => exact ⟨q + 1, by omega, by go_num, by rw [HN.out], s4, s5, s6, below_drewN HBQ.out _⟩
              case measure => simp [intOf]; omega
            · have HN : Hid (doneM L ⟨p1, p2, (sc : Int)⟩ (q + 1) = bv) := Lib.hid (by rw [HS2.out]; simp)
              clear HS2 hbs
              have hBq' := HBQ.out
              go_wp2_with fail
              go_region_held3 (fun W => W.cell? (ll.add (q * 3)) = some (.string pf) ∧ W.cell? ⟨(ll.add (q * 3)).block, (ll.add (q * 3)).off + 1, none⟩ = some (.string pt) ∧ W.cell? ⟨(ll.add (q * 3)).block, (ll.add (q * 3)).off + 2, none⟩ = some (.int .i64 ps) ∧ W.cell? ⟨g, 0, none⟩ = some (.string p1) ∧ W.cell? ⟨g, 1, none⟩ = some (.string p2) ∧ W.cell? ⟨g, 2, none⟩ = some (.int .i64 (sc : Int)) ∧ Below w9.heap.size w9 W)
                ((go_split_ands; (first | exact ⟨by assumption, by assumption, by assumption, by assumption, by assumption, by assumption, by assumption⟩ | with_reducible exact SBox.below (w := w9) ⟨by assumption, by assumption, by assumption, by assumption, by assumption, by assumption, by assumption⟩ hb | with_reducible exact SBox.drew (w := w9) ⟨by assumption, by assumption, by assumption, by assumption, by assumption, by assumption, by assumption⟩)))
                (((with_reducible refine (better_at pf pt p1 p2 ps (sc : Int) _ (by omega) (by omega) (by omega) (by omega) bv HBV.out).mono ?_); rintro e wt ⟨rfl, hb⟩))
              go_simp
              go_wp2_with fail
              go_roundw
              case rel => exact ⟨q + 1, by omega, by go_num, by rw [HN.out], by go_split_ands; assumption, by go_split_ands; assumption, by go_split_ands; assumption, by go_split_ands; assumption⟩
              case measure => simp [intOf]; omega
          · have hpf : p1 = pf := by
              rw [text_dec] at hbf
              exact (of_decide_eq_true hbf).symm
            subst hpf
            have hbf : (p1.toList == p1.toList) = true := by simp
            cases bt
            · have HN : Hid (doneM L ⟨p1, p2, (sc : Int)⟩ (q + 1) = bv) := Lib.hid (by rw [HS2.out]; simp)
              clear HS2 hbs
              have h1 : SBox w9 (ll.add (q * 3)) ⟨(ll.add (q * 3)).block, (ll.add (q * 3)).off + 1, none⟩ ⟨(ll.add (q * 3)).block, (ll.add (q * 3)).off + 2, none⟩ ⟨g, 0, none⟩ ⟨g, 1, none⟩ ⟨g, 2, none⟩ (.string p1) (.string pt) (.int .i64 ps) (.string p1) (.string p2) (.int .i64 (sc : Int)) wr := ⟨y0, y1, y2, s4, s5, s6, HBQ.out⟩
              go_wp2_with fail
              refine wp_region_noPanic ?_
              refine wp_region_held_drew (S := SBox w9 (ll.add (q * 3)) ⟨(ll.add (q * 3)).block, (ll.add (q * 3)).off + 1, none⟩ ⟨(ll.add (q * 3)).block, (ll.add (q * 3)).off + 2, none⟩ ⟨g, 0, none⟩ ⟨g, 1, none⟩ ⟨g, 2, none⟩ (.string p1) (.string pt) (.int .i64 ps) (.string p1) (.string p2) (.int .i64 (sc : Int))) (by kernel_rfl) (SBox.drew h1) (fun hS0 => ?_)
              change wpAnyH _ _ _ _ _ 38 #[false, false, false, false, false, false, false, false, false, false, false, false, false, false, false, false, false, false, false, false, false, false, false, false, false, false, false, false, false, false, false, false, false, false, false, false, false, false] _ (World.drew _)
              refine wpAnyH_take (i := 0) (v := .bool false) rfl (by kernel_rfl) (by kernel_rfl) (by kernel_rfl) (fun _ _ _ h => h) (Or.inl ⟨by rfl, fun w' hS' => by obtain ⟨y0, y1, y2, y3, y4, y5, _⟩ := hS'; go_simp⟩) hS0 ?_
              change wpAnyH _ _ _ _ _ _ _ (Act.put _ (some 89) (.bool false)) _
              simp only [Act.put, List.setIfInBounds_toArray, List.set_cons_zero, List.set_cons_succ]
              refine wpAnyH_take (i := 1) (v := .bool false) rfl (by kernel_rfl) (by kernel_rfl) (by kernel_rfl) (fun _ _ _ h => h) (Or.inl ⟨by rfl, fun w' hS' => by obtain ⟨y0, y1, y2, y3, y4, y5, _⟩ := hS'; go_simp⟩) hS0 ?_
              change wpAnyH _ _ _ _ _ _ _ (Act.put _ (some 90) (.bool false)) _
              simp only [Act.put, List.setIfInBounds_toArray, List.set_cons_zero, List.set_cons_succ]
              refine wpAnyH_take (i := 2) (v := .slice (some ll) L.length c9) rfl (by kernel_rfl) (by kernel_rfl) (by kernel_rfl) (fun _ _ _ h => h) (Or.inl ⟨by rfl, fun w' hS' => by obtain ⟨y0, y1, y2, y3, y4, y5, _⟩ := hS'; go_simp⟩) hS0 ?_
              change wpAnyH _ _ _ _ _ _ _ (Act.put _ (some 91) (.slice (some ll) L.length c9)) _
              simp only [Act.put, List.setIfInBounds_toArray, List.set_cons_zero, List.set_cons_succ]
              refine wpAnyH_take (i := 3) (v := .int .i64 (q : Int)) rfl (by kernel_rfl) (by kernel_rfl) (by kernel_rfl) (fun _ _ _ h => h) (Or.inl ⟨by rfl, fun w' hS' => by obtain ⟨y0, y1, y2, y3, y4, y5, _⟩ := hS'; go_simp⟩) hS0 ?_
              change wpAnyH _ _ _ _ _ _ _ (Act.put _ (some 92) (.int .i64 (q : Int))) _
              simp only [Act.put, List.setIfInBounds_toArray, List.set_cons_zero, List.set_cons_succ]
              refine wpAnyH_take (i := 4) (v := .pointer (some (ll.add (q * 3)))) rfl (by kernel_rfl) (by kernel_rfl) (by kernel_rfl) (fun _ _ _ h => h) (Or.inl ⟨by rfl, fun w' hS' => by obtain ⟨y0, y1, y2, y3, y4, y5, _⟩ := hS'; go_simp⟩) hS0 ?_
              change wpAnyH _ _ _ _ _ _ _ (Act.put _ (some 93) (.pointer (some (ll.add (q * 3))))) _
              simp only [Act.put, List.setIfInBounds_toArray, List.set_cons_zero, List.set_cons_succ]
              refine wpAnyH_take (i := 5) (v := .agg #[.string p1, .string pt, .int .i64 ps]) rfl (by kernel_rfl) (by kernel_rfl) (by kernel_rfl) (fun _ _ _ h => h) (Or.inl ⟨by rfl, fun w' hS' => by obtain ⟨y0, y1, y2, y3, y4, y5, _⟩ := hS'; go_simp⟩) hS0 ?_
              change wpAnyH _ _ _ _ _ _ _ (Act.put _ (some 94) (.agg #[.string p1, .string pt, .int .i64 ps])) _
              simp only [Act.put, List.setIfInBounds_toArray, List.set_cons_zero, List.set_cons_succ]
              refine wpAnyH_take (i := 6) (v := .agg #[.string p1, .string p2, .int .i64 (sc : Int)]) rfl (by kernel_rfl) (by kernel_rfl) (by kernel_rfl) (fun _ _ _ h => h) (Or.inl ⟨by rfl, fun w' hS' => by obtain ⟨y0, y1, y2, y3, y4, y5, _⟩ := hS'; go_simp⟩) hS0 ?_
              change wpAnyH _ _ _ _ _ _ _ (Act.put _ (some 95) (.agg #[.string p1, .string p2, .int .i64 (sc : Int)])) _
              simp only [Act.put, List.setIfInBounds_toArray, List.set_cons_zero, List.set_cons_succ]
              refine wpAnyH_take (i := 7) (v := .bool false) rfl (by kernel_rfl) (by kernel_rfl) (by kernel_rfl) (fun _ _ _ h => h) (Or.inl ⟨by rfl, fun w' hS' => by obtain ⟨y0, y1, y2, y3, y4, y5, _⟩ := hS'; go_simp⟩) hS0 ?_
              change wpAnyH _ _ _ _ _ _ _ (Act.put _ (some 96) (.bool false)) _
              simp only [Act.put, List.setIfInBounds_toArray, List.set_cons_zero, List.set_cons_succ]
              refine wpAnyH_take (i := 8) (v := .bool false) rfl (by kernel_rfl) (by kernel_rfl) (by kernel_rfl) (fun _ _ _ h => h) (Or.inl ⟨by rfl, fun w' hS' => by obtain ⟨y0, y1, y2, y3, y4, y5, _⟩ := hS'; go_simp⟩) hS0 ?_
              change wpAnyH _ _ _ _ _ _ _ (Act.put _ (some 97) (.bool false)) _
              simp only [Act.put, List.setIfInBounds_toArray, List.set_cons_zero, List.set_cons_succ]
              refine wpAnyH_take (i := 9) (v := .bool false) rfl (by kernel_rfl) (by kernel_rfl) (by kernel_rfl) (fun _ _ _ h => h) (Or.inl ⟨by rfl, fun w' hS' => by obtain ⟨y0, y1, y2, y3, y4, y5, _⟩ := hS'; go_simp⟩) hS0 ?_
              change wpAnyH _ _ _ _ _ _ _ (Act.put _ (some 98) (.bool false)) _
              simp only [Act.put, List.setIfInBounds_toArray, List.set_cons_zero, List.set_cons_succ]
              refine wpAnyH_take (i := 10) (v := .slice (some ll) L.length c9) rfl (by kernel_rfl) (by kernel_rfl) (by kernel_rfl) (fun _ _ _ h => h) (Or.inl ⟨by rfl, fun w' hS' => by obtain ⟨y0, y1, y2, y3, y4, y5, _⟩ := hS'; go_simp⟩) hS0 ?_
              change wpAnyH _ _ _ _ _ _ _ (Act.put _ (some 99) (.slice (some ll) L.length c9)) _
              simp only [Act.put, List.setIfInBounds_toArray, List.set_cons_zero, List.set_cons_succ]
              refine wpAnyH_take (i := 11) (v := .int .i64 (q : Int)) rfl (by kernel_rfl) (by kernel_rfl) (by kernel_rfl) (fun _ _ _ h => h) (Or.inl ⟨by rfl, fun w' hS' => by obtain ⟨y0, y1, y2, y3, y4, y5, _⟩ := hS'; go_simp⟩) hS0 ?_
              change wpAnyH _ _ _ _ _ _ _ (Act.put _ (some 100) (.int .i64 (q : Int))) _
              simp only [Act.put, List.setIfInBounds_toArray, List.set_cons_zero, List.set_cons_succ]
              refine wpAnyH_take (i := 12) (v := .pointer (some (ll.add (q * 3)))) rfl (by kernel_rfl) (by kernel_rfl) (by kernel_rfl) (fun _ _ _ h => h) (Or.inl ⟨by rfl, fun w' hS' => by obtain ⟨y0, y1, y2, y3, y4, y5, _⟩ := hS'; go_simp⟩) hS0 ?_
              change wpAnyH _ _ _ _ _ _ _ (Act.put _ (some 101) (.pointer (some (ll.add (q * 3))))) _
              simp only [Act.put, List.setIfInBounds_toArray, List.set_cons_zero, List.set_cons_succ]
              refine wpAnyH_take (i := 13) (v := .pointer (some (ll.add (q * 3)))) rfl (by kernel_rfl) (by kernel_rfl) (by kernel_rfl) (fun _ _ _ h => h) (Or.inl ⟨by rfl, fun w' hS' => by obtain ⟨y0, y1, y2, y3, y4, y5, _⟩ := hS'; go_simp⟩) hS0 ?_
              change wpAnyH _ _ _ _ _ _ _ (Act.put _ (some 102) (.pointer (some (ll.add (q * 3))))) _
              simp only [Act.put, List.setIfInBounds_toArray, List.set_cons_zero, List.set_cons_succ]
              refine wpAnyH_take (i := 14) (v := .string p1) rfl (by kernel_rfl) (by kernel_rfl) (by kernel_rfl) (fun _ _ _ h => h) (Or.inl ⟨by rfl, fun w' hS' => by obtain ⟨y0, y1, y2, y3, y4, y5, _⟩ := hS'; go_simp⟩) hS0 ?_
              change wpAnyH _ _ _ _ _ _ _ (Act.put _ (some 103) (.string p1)) _
              simp only [Act.put, List.setIfInBounds_toArray, List.set_cons_zero, List.set_cons_succ]
              refine wpAnyH_take (i := 15) (v := .pointer (some ⟨g, 0, none⟩)) rfl (by kernel_rfl) (by kernel_rfl) (by kernel_rfl) (fun _ _ _ h => h) (Or.inl ⟨by rfl, fun w' hS' => by obtain ⟨y0, y1, y2, y3, y4, y5, _⟩ := hS'; go_simp⟩) hS0 ?_
              change wpAnyH _ _ _ _ _ _ _ (Act.put _ (some 104) (.pointer (some ⟨g, 0, none⟩))) _
              simp only [Act.put, List.setIfInBounds_toArray, List.set_cons_zero, List.set_cons_succ]
              refine wpAnyH_take (i := 16) (v := .string p1) rfl (by kernel_rfl) (by kernel_rfl) (by kernel_rfl) (fun _ _ _ h => h) (Or.inl ⟨by rfl, fun w' hS' => by obtain ⟨y0, y1, y2, y3, y4, y5, _⟩ := hS'; go_simp⟩) hS0 ?_
              change wpAnyH _ _ _ _ _ _ _ (Act.put _ (some 105) (.string p1)) _
              simp only [Act.put, List.setIfInBounds_toArray, List.set_cons_zero, List.set_cons_succ]
              refine wpAnyH_take (i := 17) (v := .bool true) rfl (by kernel_rfl) (by kernel_rfl) (by kernel_rfl) (fun _ _ _ h => h) (Or.inl ⟨by rfl, fun w' hS' => by obtain ⟨y0, y1, y2, y3, y4, y5, _⟩ := hS'; go_simp⟩) hS0 ?_
              change wpAnyH _ _ _ _ _ _ _ (Act.put _ (some 106) (.bool true)) _
              simp only [Act.put, List.setIfInBounds_toArray, List.set_cons_zero, List.set_cons_succ]
              refine wpAnyH_take (i := 18) (v := .bool true) rfl (by kernel_rfl) (by kernel_rfl) (by kernel_rfl) (fun _ _ _ h => h) (Or.inl ⟨by rfl, fun w' hS' => by obtain ⟨y0, y1, y2, y3, y4, y5, _⟩ := hS'; go_simp⟩) hS0 ?_
              change wpAnyH _ _ _ _ _ _ _ (Act.put _ (some 107) (.bool true)) _
              simp only [Act.put, List.setIfInBounds_toArray, List.set_cons_zero, List.set_cons_succ]
              refine wpAnyH_take (i := 19) (v := undef) rfl (by kernel_rfl) (by kernel_rfl) (by kernel_rfl) (fun _ _ _ h => h) (Or.inr ⟨by rfl, rfl⟩) hS0 ?_
              change wpAnyH _ _ _ _ _ _ _ (Act.put _ (some 108) (undef)) _
              simp only [Act.put, List.setIfInBounds_toArray, List.set_cons_zero, List.set_cons_succ]
              refine wpAnyH_take (i := 20) (v := undef) rfl (by kernel_rfl) (by kernel_rfl) (by kernel_rfl) (fun _ _ _ h => h) (Or.inr ⟨by rfl, rfl⟩) hS0 ?_
              change wpAnyH _ _ _ _ _ _ _ (Act.put _ (some 109) (undef)) _
              simp only [Act.put, List.setIfInBounds_toArray, List.set_cons_zero, List.set_cons_succ]
              refine wpAnyH_take (i := 21) (v := undef) rfl (by kernel_rfl) (by kernel_rfl) (by kernel_rfl) (fun _ _ _ h => h) (Or.inr ⟨by rfl, rfl⟩) hS0 ?_
              change wpAnyH _ _ _ _ _ _ _ (Act.put _ (some 110) (undef)) _
              simp only [Act.put, List.setIfInBounds_toArray, List.set_cons_zero, List.set_cons_succ]
              refine wpAnyH_take (i := 22) (v := undef) rfl (by kernel_rfl) (by kernel_rfl) (by kernel_rfl) (fun _ _ _ h => h) (Or.inr ⟨by rfl, rfl⟩) hS0 ?_
              change wpAnyH _ _ _ _ _ _ _ (Act.put _ (some 111) (undef)) _
              simp only [Act.put, List.setIfInBounds_toArray, List.set_cons_zero, List.set_cons_succ]
              refine wpAnyH_take (i := 23) (v := undef) rfl (by kernel_rfl) (by kernel_rfl) (by kernel_rfl) (fun _ _ _ h => h) (Or.inr ⟨by rfl, rfl⟩) hS0 ?_
              change wpAnyH _ _ _ _ _ _ _ (Act.put _ (some 112) (undef)) _
              simp only [Act.put, List.setIfInBounds_toArray, List.set_cons_zero, List.set_cons_succ]
              refine wpAnyH_take (i := 24) (v := undef) rfl (by kernel_rfl) (by kernel_rfl) (by kernel_rfl) (fun _ _ _ h => h) (Or.inr ⟨by rfl, rfl⟩) hS0 ?_
              change wpAnyH _ _ _ _ _ _ _ (Act.put _ (some 113) (undef)) _
              simp only [Act.put, List.setIfInBounds_toArray, List.set_cons_zero, List.set_cons_succ]
              refine wpAnyH_take (i := 25) (v := undef) rfl (by kernel_rfl) (by kernel_rfl) (by kernel_rfl) (fun _ _ _ h => h) (Or.inr ⟨by rfl, rfl⟩) hS0 ?_
              change wpAnyH _ _ _ _ _ _ _ (Act.put _ (some 114) (undef)) _
              simp only [Act.put, List.setIfInBounds_toArray, List.set_cons_zero, List.set_cons_succ]
              refine wpAnyH_take (i := 26) (v := undef) rfl (by kernel_rfl) (by kernel_rfl) (by kernel_rfl) (fun _ _ _ h => h) (Or.inr ⟨by rfl, rfl⟩) hS0 ?_
              change wpAnyH _ _ _ _ _ _ _ (Act.put _ (some 115) (undef)) _
              simp only [Act.put, List.setIfInBounds_toArray, List.set_cons_zero, List.set_cons_succ]
              refine wpAnyH_take (i := 27) (v := .bool true) rfl (by kernel_rfl) (by kernel_rfl) (by kernel_rfl) (fun _ _ _ h => h) (Or.inl ⟨by rfl, fun w' hS' => by obtain ⟨y0, y1, y2, y3, y4, y5, _⟩ := hS'; go_simp⟩) hS0 ?_
              change wpAnyH _ _ _ _ _ _ _ (Act.put _ (some 116) (.bool true)) _
              simp only [Act.put, List.setIfInBounds_toArray, List.set_cons_zero, List.set_cons_succ]
              refine wpAnyH_take (i := 28) (v := .bool true) rfl (by kernel_rfl) (by kernel_rfl) (by kernel_rfl) (fun _ _ _ h => h) (Or.inl ⟨by rfl, fun w' hS' => by obtain ⟨y0, y1, y2, y3, y4, y5, _⟩ := hS'; go_simp⟩) hS0 ?_
              change wpAnyH _ _ _ _ _ _ _ (Act.put _ (some 117) (.bool true)) _
              simp only [Act.put, List.setIfInBounds_toArray, List.set_cons_zero, List.set_cons_succ]
              refine wpAnyH_take (i := 29) (v := .slice (some ll) L.length c9) rfl (by kernel_rfl) (by kernel_rfl) (by kernel_rfl) (fun _ _ _ h => h) (Or.inl ⟨by rfl, fun w' hS' => by obtain ⟨y0, y1, y2, y3, y4, y5, _⟩ := hS'; go_simp⟩) hS0 ?_
              change wpAnyH _ _ _ _ _ _ _ (Act.put _ (some 118) (.slice (some ll) L.length c9)) _
              simp only [Act.put, List.setIfInBounds_toArray, List.set_cons_zero, List.set_cons_succ]
              refine wpAnyH_take (i := 30) (v := .int .i64 (q : Int)) rfl (by kernel_rfl) (by kernel_rfl) (by kernel_rfl) (fun _ _ _ h => h) (Or.inl ⟨by rfl, fun w' hS' => by obtain ⟨y0, y1, y2, y3, y4, y5, _⟩ := hS'; go_simp⟩) hS0 ?_
              change wpAnyH _ _ _ _ _ _ _ (Act.put _ (some 119) (.int .i64 (q : Int))) _
              simp only [Act.put, List.setIfInBounds_toArray, List.set_cons_zero, List.set_cons_succ]
              refine wpAnyH_take (i := 31) (v := .pointer (some (ll.add (q * 3)))) rfl (by kernel_rfl) (by kernel_rfl) (by kernel_rfl) (fun _ _ _ h => h) (Or.inl ⟨by rfl, fun w' hS' => by obtain ⟨y0, y1, y2, y3, y4, y5, _⟩ := hS'; go_simp⟩) hS0 ?_
              change wpAnyH _ _ _ _ _ _ _ (Act.put _ (some 120) (.pointer (some (ll.add (q * 3))))) _
              simp only [Act.put, List.setIfInBounds_toArray, List.set_cons_zero, List.set_cons_succ]
              refine wpAnyH_take (i := 32) (v := .agg #[.string p1, .string pt, .int .i64 ps]) rfl (by kernel_rfl) (by kernel_rfl) (by kernel_rfl) (fun _ _ _ h => h) (Or.inl ⟨by rfl, fun w' hS' => by obtain ⟨y0, y1, y2, y3, y4, y5, _⟩ := hS'; go_simp⟩) hS0 ?_
              change wpAnyH _ _ _ _ _ _ _ (Act.put _ (some 121) (.agg #[.string p1, .string pt, .int .i64 ps])) _
              simp only [Act.put, List.setIfInBounds_toArray, List.set_cons_zero, List.set_cons_succ]
              refine wpAnyH_take (i := 33) (v := .agg #[.string p1, .string p2, .int .i64 (sc : Int)]) rfl (by kernel_rfl) (by kernel_rfl) (by kernel_rfl) (fun _ _ _ h => h) (Or.inl ⟨by rfl, fun w' hS' => by obtain ⟨y0, y1, y2, y3, y4, y5, _⟩ := hS'; go_simp⟩) hS0 ?_
              change wpAnyH _ _ _ _ _ _ _ (Act.put _ (some 122) (.agg #[.string p1, .string p2, .int .i64 (sc : Int)])) _
              simp only [Act.put, List.setIfInBounds_toArray, List.set_cons_zero, List.set_cons_succ]
              refine wpAnyH_ready (rs := [34]) (by kernel_rfl) (by simp) (AllReadyH.cons rfl (fun K hK => ?_) AllReadyH.nil)
              go_simp
              refine (better_at p1 pt p1 p2 ps (sc : Int) _ (by omega) (by omega) (by omega) (by omega) bv HBV.out).mono ?_
              rintro e wt ⟨rfl, hb⟩
              refine hK.out _ _ (SBox.below hS0 hb) (fun hS1 => ?_)
              clear hK K hb
              simp only [List.setIfInBounds_toArray, List.set_cons_zero, List.set_cons_succ]
              refine wpAnyH_take (i := 35) (v := .bool bv) rfl (by kernel_rfl) (by kernel_rfl) (by kernel_rfl) (fun _ _ _ h => h) (Or.inl ⟨by rfl, fun w' hS' => by obtain ⟨y0, y1, y2, y3, y4, y5, _⟩ := hS'; go_simp⟩) hS1 ?_
              change wpAnyH _ _ _ _ _ _ _ (Act.put _ (some 124) (.bool bv)) _
              simp only [Act.put, List.setIfInBounds_toArray, List.set_cons_zero, List.set_cons_succ]
              refine wpAnyH_take (i := 36) (v := .bool bv) rfl (by kernel_rfl) (by kernel_rfl) (by kernel_rfl) (fun _ _ _ h => h) (Or.inl ⟨by rfl, fun w' hS' => by obtain ⟨y0, y1, y2, y3, y4, y5, _⟩ := hS'; go_simp⟩) hS1 ?_
              change wpAnyH _ _ _ _ _ _ _ (Act.put _ (some 125) (.bool bv)) _
              simp only [Act.put, List.setIfInBounds_toArray, List.set_cons_zero, List.set_cons_succ]
              refine wpAnyH_take (i := 37) (v := .bool bv) rfl (by kernel_rfl) (by kernel_rfl) (by kernel_rfl) (fun _ _ _ h => h) (Or.inl ⟨by rfl, fun w' hS' => by obtain ⟨y0, y1, y2, y3, y4, y5, _⟩ := hS'; go_simp⟩) hS1 ?_
              change wpAnyH _ _ _ _ _ _ _ (Act.put _ (some 15) (.bool bv)) _
              simp only [Act.put, List.setIfInBounds_toArray, List.set_cons_zero, List.set_cons_succ]
              refine wpAnyH_done (by kernel_rfl) ?_ _
              refine NoPanic.normal ?_
              go_simp
              go_wp2_with fail
              go_roundw
              case rel => exact ⟨q + 1, by omega, by go_num, by rw [HN.out], hS1.2.2.2.1, hS1.2.2.2.2.1, hS1.2.2.2.2.2.1, hS1.2.2.2.2.2.2⟩
              case measure => simp [intOf]; omega
            · cases bs
              · have HN : Hid (doneM L ⟨p1, p2, (sc : Int)⟩ (q + 1) = bv) := Lib.hid (by rw [HS2.out]; simp)
                clear HS2
                have h1 : SBox w9 (ll.add (q * 3)) ⟨(ll.add (q * 3)).block, (ll.add (q * 3)).off + 1, none⟩ ⟨(ll.add (q * 3)).block, (ll.add (q * 3)).off + 2, none⟩ ⟨g, 0, none⟩ ⟨g, 1, none⟩ ⟨g, 2, none⟩ (.string p1) (.string pt) (.int .i64 ps) (.string p1) (.string p2) (.int .i64 (sc : Int)) wr := ⟨y0, y1, y2, s4, s5, s6, HBQ.out⟩
                go_wp2_with fail
                refine wp_region_noPanic ?_
                refine wp_region_held_drew (S := SBox w9 (ll.add (q * 3)) ⟨(ll.add (q * 3)).block, (ll.add (q * 3)).off + 1, none⟩ ⟨(ll.add (q * 3)).block, (ll.add (q * 3)).off + 2, none⟩ ⟨g, 0, none⟩ ⟨g, 1, none⟩ ⟨g, 2, none⟩ (.string p1) (.string pt) (.int .i64 ps) (.string p1) (.string p2) (.int .i64 (sc : Int))) (by kernel_rfl) (SBox.drew h1) (fun hS0 => ?_)
                change wpAnyH _ _ _ _ _ 38 #[false, false, false, false, false, false, false, false, false, false, false, false, false, false, false, false, false, false, false, false, false, false, false, false, false, false, false, false, false, false, false, false, false, false, false, false, false, false] _ (World.drew _)
                refine wpAnyH_take (i := 0) (v := .bool false) rfl (by kernel_rfl) (by kernel_rfl) (by kernel_rfl) (fun _ _ _ h => h) (Or.inl ⟨by rfl, fun w' hS' => by obtain ⟨y0, y1, y2, y3, y4, y5, _⟩ := hS'; go_simp⟩) hS0 ?_
                change wpAnyH _ _ _ _ _ _ _ (Act.put _ (some 89) (.bool false)) _
                simp only [Act.put, List.setIfInBounds_toArray, List.set_cons_zero, List.set_cons_succ]
                refine wpAnyH_take (i := 1) (v := .bool false) rfl (by kernel_rfl) (by kernel_rfl) (by kernel_rfl) (fun _ _ _ h => h) (Or.inl ⟨by rfl, fun w' hS' => by obtain ⟨y0, y1, y2, y3, y4, y5, _⟩ := hS'; go_simp⟩) hS0 ?_
                change wpAnyH _ _ _ _ _ _ _ (Act.put _ (some 90) (.bool false)) _
                simp only [Act.put, List.setIfInBounds_toArray, List.set_cons_zero, List.set_cons_succ]
                refine wpAnyH_take (i := 2) (v := .slice (some ll) L.length c9) rfl (by kernel_rfl) (by kernel_rfl) (by kernel_rfl) (fun _ _ _ h => h) (Or.inl ⟨by rfl, fun w' hS' => by obtain ⟨y0, y1, y2, y3, y4, y5, _⟩ := hS'; go_simp⟩) hS0 ?_
                change wpAnyH _ _ _ _ _ _ _ (Act.put _ (some 91) (.slice (some ll) L.length c9)) _
                simp only [Act.put, List.setIfInBounds_toArray, List.set_cons_zero, List.set_cons_succ]
                refine wpAnyH_take (i := 3) (v := .int .i64 (q : Int)) rfl (by kernel_rfl) (by kernel_rfl) (by kernel_rfl) (fun _ _ _ h => h) (Or.inl ⟨by rfl, fun w' hS' => by obtain ⟨y0, y1, y2, y3, y4, y5, _⟩ := hS'; go_simp⟩) hS0 ?_
                change wpAnyH _ _ _ _ _ _ _ (Act.put _ (some 92) (.int .i64 (q : Int))) _
                simp only [Act.put, List.setIfInBounds_toArray, List.set_cons_zero, List.set_cons_succ]
                refine wpAnyH_take (i := 4) (v := .pointer (some (ll.add (q * 3)))) rfl (by kernel_rfl) (by kernel_rfl) (by kernel_rfl) (fun _ _ _ h => h) (Or.inl ⟨by rfl, fun w' hS' => by obtain ⟨y0, y1, y2, y3, y4, y5, _⟩ := hS'; go_simp⟩) hS0 ?_
                change wpAnyH _ _ _ _ _ _ _ (Act.put _ (some 93) (.pointer (some (ll.add (q * 3))))) _
                simp only [Act.put, List.setIfInBounds_toArray, List.set_cons_zero, List.set_cons_succ]
                refine wpAnyH_take (i := 5) (v := .agg #[.string p1, .string pt, .int .i64 ps]) rfl (by kernel_rfl) (by kernel_rfl) (by kernel_rfl) (fun _ _ _ h => h) (Or.inl ⟨by rfl, fun w' hS' => by obtain ⟨y0, y1, y2, y3, y4, y5, _⟩ := hS'; go_simp⟩) hS0 ?_
                change wpAnyH _ _ _ _ _ _ _ (Act.put _ (some 94) (.agg #[.string p1, .string pt, .int .i64 ps])) _
                simp only [Act.put, List.setIfInBounds_toArray, List.set_cons_zero, List.set_cons_succ]
                refine wpAnyH_take (i := 6) (v := .agg #[.string p1, .string p2, .int .i64 (sc : Int)]) rfl (by kernel_rfl) (by kernel_rfl) (by kernel_rfl) (fun _ _ _ h => h) (Or.inl ⟨by rfl, fun w' hS' => by obtain ⟨y0, y1, y2, y3, y4, y5, _⟩ := hS'; go_simp⟩) hS0 ?_
                change wpAnyH _ _ _ _ _ _ _ (Act.put _ (some 95) (.agg #[.string p1, .string p2, .int .i64 (sc : Int)])) _
                simp only [Act.put, List.setIfInBounds_toArray, List.set_cons_zero, List.set_cons_succ]
                refine wpAnyH_take (i := 7) (v := .bool false) rfl (by kernel_rfl) (by kernel_rfl) (by kernel_rfl) (fun _ _ _ h => h) (Or.inl ⟨by rfl, fun w' hS' => by obtain ⟨y0, y1, y2, y3, y4, y5, _⟩ := hS'; go_simp⟩) hS0 ?_
                change wpAnyH _ _ _ _ _ _ _ (Act.put _ (some 96) (.bool false)) _
                simp only [Act.put, List.setIfInBounds_toArray, List.set_cons_zero, List.set_cons_succ]
                refine wpAnyH_take (i := 8) (v := .bool false) rfl (by kernel_rfl) (by kernel_rfl) (by kernel_rfl) (fun _ _ _ h => h) (Or.inl ⟨by rfl, fun w' hS' => by obtain ⟨y0, y1, y2, y3, y4, y5, _⟩ := hS'; go_simp⟩) hS0 ?_
                change wpAnyH _ _ _ _ _ _ _ (Act.put _ (some 97) (.bool false)) _
                simp only [Act.put, List.setIfInBounds_toArray, List.set_cons_zero, List.set_cons_succ]
                refine wpAnyH_take (i := 9) (v := .bool false) rfl (by kernel_rfl) (by kernel_rfl) (by kernel_rfl) (fun _ _ _ h => h) (Or.inl ⟨by rfl, fun w' hS' => by obtain ⟨y0, y1, y2, y3, y4, y5, _⟩ := hS'; go_simp⟩) hS0 ?_
                change wpAnyH _ _ _ _ _ _ _ (Act.put _ (some 98) (.bool false)) _
                simp only [Act.put, List.setIfInBounds_toArray, List.set_cons_zero, List.set_cons_succ]
                refine wpAnyH_take (i := 10) (v := .slice (some ll) L.length c9) rfl (by kernel_rfl) (by kernel_rfl) (by kernel_rfl) (fun _ _ _ h => h) (Or.inl ⟨by rfl, fun w' hS' => by obtain ⟨y0, y1, y2, y3, y4, y5, _⟩ := hS'; go_simp⟩) hS0 ?_
                change wpAnyH _ _ _ _ _ _ _ (Act.put _ (some 99) (.slice (some ll) L.length c9)) _
                simp only [Act.put, List.setIfInBounds_toArray, List.set_cons_zero, List.set_cons_succ]
                refine wpAnyH_take (i := 11) (v := .int .i64 (q : Int)) rfl (by kernel_rfl) (by kernel_rfl) (by kernel_rfl) (fun _ _ _ h => h) (Or.inl ⟨by rfl, fun w' hS' => by obtain ⟨y0, y1, y2, y3, y4, y5, _⟩ := hS'; go_simp⟩) hS0 ?_
                change wpAnyH _ _ _ _ _ _ _ (Act.put _ (some 100) (.int .i64 (q : Int))) _
                simp only [Act.put, List.setIfInBounds_toArray, List.set_cons_zero, List.set_cons_succ]
                refine wpAnyH_take (i := 12) (v := .pointer (some (ll.add (q * 3)))) rfl (by kernel_rfl) (by kernel_rfl) (by kernel_rfl) (fun _ _ _ h => h) (Or.inl ⟨by rfl, fun w' hS' => by obtain ⟨y0, y1, y2, y3, y4, y5, _⟩ := hS'; go_simp⟩) hS0 ?_
                change wpAnyH _ _ _ _ _ _ _ (Act.put _ (some 101) (.pointer (some (ll.add (q * 3))))) _
                simp only [Act.put, List.setIfInBounds_toArray, List.set_cons_zero, List.set_cons_succ]
                refine wpAnyH_take (i := 13) (v := .pointer (some (ll.add (q * 3)))) rfl (by kernel_rfl) (by kernel_rfl) (by kernel_rfl) (fun _ _ _ h => h) (Or.inl ⟨by rfl, fun w' hS' => by obtain ⟨y0, y1, y2, y3, y4, y5, _⟩ := hS'; go_simp⟩) hS0 ?_
                change wpAnyH _ _ _ _ _ _ _ (Act.put _ (some 102) (.pointer (some (ll.add (q * 3))))) _
                simp only [Act.put, List.setIfInBounds_toArray, List.set_cons_zero, List.set_cons_succ]
                refine wpAnyH_take (i := 14) (v := .string p1) rfl (by kernel_rfl) (by kernel_rfl) (by kernel_rfl) (fun _ _ _ h => h) (Or.inl ⟨by rfl, fun w' hS' => by obtain ⟨y0, y1, y2, y3, y4, y5, _⟩ := hS'; go_simp⟩) hS0 ?_
                change wpAnyH _ _ _ _ _ _ _ (Act.put _ (some 103) (.string p1)) _
                simp only [Act.put, List.setIfInBounds_toArray, List.set_cons_zero, List.set_cons_succ]
                refine wpAnyH_take (i := 15) (v := .pointer (some ⟨g, 0, none⟩)) rfl (by kernel_rfl) (by kernel_rfl) (by kernel_rfl) (fun _ _ _ h => h) (Or.inl ⟨by rfl, fun w' hS' => by obtain ⟨y0, y1, y2, y3, y4, y5, _⟩ := hS'; go_simp⟩) hS0 ?_
                change wpAnyH _ _ _ _ _ _ _ (Act.put _ (some 104) (.pointer (some ⟨g, 0, none⟩))) _
                simp only [Act.put, List.setIfInBounds_toArray, List.set_cons_zero, List.set_cons_succ]
                refine wpAnyH_take (i := 16) (v := .string p1) rfl (by kernel_rfl) (by kernel_rfl) (by kernel_rfl) (fun _ _ _ h => h) (Or.inl ⟨by rfl, fun w' hS' => by obtain ⟨y0, y1, y2, y3, y4, y5, _⟩ := hS'; go_simp⟩) hS0 ?_
                change wpAnyH _ _ _ _ _ _ _ (Act.put _ (some 105) (.string p1)) _
                simp only [Act.put, List.setIfInBounds_toArray, List.set_cons_zero, List.set_cons_succ]
                refine wpAnyH_take (i := 17) (v := .bool true) rfl (by kernel_rfl) (by kernel_rfl) (by kernel_rfl) (fun _ _ _ h => h) (Or.inl ⟨by rfl, fun w' hS' => by obtain ⟨y0, y1, y2, y3, y4, y5, _⟩ := hS'; go_simp⟩) hS0 ?_
                change wpAnyH _ _ _ _ _ _ _ (Act.put _ (some 106) (.bool true)) _
                simp only [Act.put, List.setIfInBounds_toArray, List.set_cons_zero, List.set_cons_succ]
                refine wpAnyH_take (i := 18) (v := .bool true) rfl (by kernel_rfl) (by kernel_rfl) (by kernel_rfl) (fun _ _ _ h => h) (Or.inl ⟨by rfl, fun w' hS' => by obtain ⟨y0, y1, y2, y3, y4, y5, _⟩ := hS'; go_simp⟩) hS0 ?_
                change wpAnyH _ _ _ _ _ _ _ (Act.put _ (some 107) (.bool true)) _
                simp only [Act.put, List.setIfInBounds_toArray, List.set_cons_zero, List.set_cons_succ]
                refine wpAnyH_take (i := 19) (v := undef) rfl (by kernel_rfl) (by kernel_rfl) (by kernel_rfl) (fun _ _ _ h => h) (Or.inr ⟨by rfl, rfl⟩) hS0 ?_
                change wpAnyH _ _ _ _ _ _ _ (Act.put _ (some 108) (undef)) _
                simp only [Act.put, List.setIfInBounds_toArray, List.set_cons_zero, List.set_cons_succ]
                refine wpAnyH_take (i := 20) (v := undef) rfl (by kernel_rfl) (by kernel_rfl) (by kernel_rfl) (fun _ _ _ h => h) (Or.inr ⟨by rfl, rfl⟩) hS0 ?_
                change wpAnyH _ _ _ _ _ _ _ (Act.put _ (some 109) (undef)) _
                simp only [Act.put, List.setIfInBounds_toArray, List.set_cons_zero, List.set_cons_succ]
                refine wpAnyH_take (i := 21) (v := undef) rfl (by kernel_rfl) (by kernel_rfl) (by kernel_rfl) (fun _ _ _ h => h) (Or.inr ⟨by rfl, rfl⟩) hS0 ?_
                change wpAnyH _ _ _ _ _ _ _ (Act.put _ (some 110) (undef)) _
                simp only [Act.put, List.setIfInBounds_toArray, List.set_cons_zero, List.set_cons_succ]
                refine wpAnyH_take (i := 22) (v := undef) rfl (by kernel_rfl) (by kernel_rfl) (by kernel_rfl) (fun _ _ _ h => h) (Or.inr ⟨by rfl, rfl⟩) hS0 ?_
                change wpAnyH _ _ _ _ _ _ _ (Act.put _ (some 111) (undef)) _
                simp only [Act.put, List.setIfInBounds_toArray, List.set_cons_zero, List.set_cons_succ]
                refine wpAnyH_take (i := 23) (v := undef) rfl (by kernel_rfl) (by kernel_rfl) (by kernel_rfl) (fun _ _ _ h => h) (Or.inr ⟨by rfl, rfl⟩) hS0 ?_
                change wpAnyH _ _ _ _ _ _ _ (Act.put _ (some 112) (undef)) _
                simp only [Act.put, List.setIfInBounds_toArray, List.set_cons_zero, List.set_cons_succ]
                refine wpAnyH_take (i := 24) (v := undef) rfl (by kernel_rfl) (by kernel_rfl) (by kernel_rfl) (fun _ _ _ h => h) (Or.inr ⟨by rfl, rfl⟩) hS0 ?_
                change wpAnyH _ _ _ _ _ _ _ (Act.put _ (some 113) (undef)) _
                simp only [Act.put, List.setIfInBounds_toArray, List.set_cons_zero, List.set_cons_succ]
                refine wpAnyH_take (i := 25) (v := undef) rfl (by kernel_rfl) (by kernel_rfl) (by kernel_rfl) (fun _ _ _ h => h) (Or.inr ⟨by rfl, rfl⟩) hS0 ?_
                change wpAnyH _ _ _ _ _ _ _ (Act.put _ (some 114) (undef)) _
                simp only [Act.put, List.setIfInBounds_toArray, List.set_cons_zero, List.set_cons_succ]
                refine wpAnyH_take (i := 26) (v := undef) rfl (by kernel_rfl) (by kernel_rfl) (by kernel_rfl) (fun _ _ _ h => h) (Or.inr ⟨by rfl, rfl⟩) hS0 ?_
                change wpAnyH _ _ _ _ _ _ _ (Act.put _ (some 115) (undef)) _
                simp only [Act.put, List.setIfInBounds_toArray, List.set_cons_zero, List.set_cons_succ]
                refine wpAnyH_take (i := 27) (v := .bool true) rfl (by kernel_rfl) (by kernel_rfl) (by kernel_rfl) (fun _ _ _ h => h) (Or.inl ⟨by rfl, fun w' hS' => by obtain ⟨y0, y1, y2, y3, y4, y5, _⟩ := hS'; go_simp⟩) hS0 ?_
                change wpAnyH _ _ _ _ _ _ _ (Act.put _ (some 116) (.bool true)) _
                simp only [Act.put, List.setIfInBounds_toArray, List.set_cons_zero, List.set_cons_succ]
                refine wpAnyH_take (i := 28) (v := .bool true) rfl (by kernel_rfl) (by kernel_rfl) (by kernel_rfl) (fun _ _ _ h => h) (Or.inl ⟨by rfl, fun w' hS' => by obtain ⟨y0, y1, y2, y3, y4, y5, _⟩ := hS'; go_simp⟩) hS0 ?_
                change wpAnyH _ _ _ _ _ _ _ (Act.put _ (some 117) (.bool true)) _
                simp only [Act.put, List.setIfInBounds_toArray, List.set_cons_zero, List.set_cons_succ]
                refine wpAnyH_take (i := 29) (v := .slice (some ll) L.length c9) rfl (by kernel_rfl) (by kernel_rfl) (by kernel_rfl) (fun _ _ _ h => h) (Or.inl ⟨by rfl, fun w' hS' => by obtain ⟨y0, y1, y2, y3, y4, y5, _⟩ := hS'; go_simp⟩) hS0 ?_
                change wpAnyH _ _ _ _ _ _ _ (Act.put _ (some 118) (.slice (some ll) L.length c9)) _
                simp only [Act.put, List.setIfInBounds_toArray, List.set_cons_zero, List.set_cons_succ]
                refine wpAnyH_take (i := 30) (v := .int .i64 (q : Int)) rfl (by kernel_rfl) (by kernel_rfl) (by kernel_rfl) (fun _ _ _ h => h) (Or.inl ⟨by rfl, fun w' hS' => by obtain ⟨y0, y1, y2, y3, y4, y5, _⟩ := hS'; go_simp⟩) hS0 ?_
                change wpAnyH _ _ _ _ _ _ _ (Act.put _ (some 119) (.int .i64 (q : Int))) _
                simp only [Act.put, List.setIfInBounds_toArray, List.set_cons_zero, List.set_cons_succ]
                refine wpAnyH_take (i := 31) (v := .pointer (some (ll.add (q * 3)))) rfl (by kernel_rfl) (by kernel_rfl) (by kernel_rfl) (fun _ _ _ h => h) (Or.inl ⟨by rfl, fun w' hS' => by obtain ⟨y0, y1, y2, y3, y4, y5, _⟩ := hS'; go_simp⟩) hS0 ?_
                change wpAnyH _ _ _ _ _ _ _ (Act.put _ (some 120) (.pointer (some (ll.add (q * 3))))) _
                simp only [Act.put, List.setIfInBounds_toArray, List.set_cons_zero, List.set_cons_succ]
                refine wpAnyH_take (i := 32) (v := .agg #[.string p1, .string pt, .int .i64 ps]) rfl (by kernel_rfl) (by kernel_rfl) (by kernel_rfl) (fun _ _ _ h => h) (Or.inl ⟨by rfl, fun w' hS' => by obtain ⟨y0, y1, y2, y3, y4, y5, _⟩ := hS'; go_simp⟩) hS0 ?_
                change wpAnyH _ _ _ _ _ _ _ (Act.put _ (some 121) (.agg #[.string p1, .string pt, .int .i64 ps])) _
                simp only [Act.put, List.setIfInBounds_toArray, List.set_cons_zero, List.set_cons_succ]
                refine wpAnyH_take (i := 33) (v := .agg #[.string p1, .string p2, .int .i64 (sc : Int)]) rfl (by kernel_rfl) (by kernel_rfl) (by kernel_rfl) (fun _ _ _ h => h) (Or.inl ⟨by rfl, fun w' hS' => by obtain ⟨y0, y1, y2, y3, y4, y5, _⟩ := hS'; go_simp⟩) hS0 ?_
                change wpAnyH _ _ _ _ _ _ _ (Act.put _ (some 122) (.agg #[.string p1, .string p2, .int .i64 (sc : Int)])) _
                simp only [Act.put, List.setIfInBounds_toArray, List.set_cons_zero, List.set_cons_succ]
                refine wpAnyH_ready (rs := [34]) (by kernel_rfl) (by simp) (AllReadyH.cons rfl (fun K hK => ?_) AllReadyH.nil)
                go_simp
                refine (better_at p1 pt p1 p2 ps (sc : Int) _ (by omega) (by omega) (by omega) (by omega) bv HBV.out).mono ?_
                rintro e wt ⟨rfl, hb⟩
                refine hK.out _ _ (SBox.below hS0 hb) (fun hS1 => ?_)
                clear hK K hb
                simp only [List.setIfInBounds_toArray, List.set_cons_zero, List.set_cons_succ]
                refine wpAnyH_take (i := 35) (v := .bool bv) rfl (by kernel_rfl) (by kernel_rfl) (by kernel_rfl) (fun _ _ _ h => h) (Or.inl ⟨by rfl, fun w' hS' => by obtain ⟨y0, y1, y2, y3, y4, y5, _⟩ := hS'; go_simp⟩) hS1 ?_
                change wpAnyH _ _ _ _ _ _ _ (Act.put _ (some 124) (.bool bv)) _
                simp only [Act.put, List.setIfInBounds_toArray, List.set_cons_zero, List.set_cons_succ]
                refine wpAnyH_take (i := 36) (v := .bool bv) rfl (by kernel_rfl) (by kernel_rfl) (by kernel_rfl) (fun _ _ _ h => h) (Or.inl ⟨by rfl, fun w' hS' => by obtain ⟨y0, y1, y2, y3, y4, y5, _⟩ := hS'; go_simp⟩) hS1 ?_
                change wpAnyH _ _ _ _ _ _ _ (Act.put _ (some 125) (.bool bv)) _
                simp only [Act.put, List.setIfInBounds_toArray, List.set_cons_zero, List.set_cons_succ]
                refine wpAnyH_take (i := 37) (v := .bool bv) rfl (by kernel_rfl) (by kernel_rfl) (by kernel_rfl) (fun _ _ _ h => h) (Or.inl ⟨by rfl, fun w' hS' => by obtain ⟨y0, y1, y2, y3, y4, y5, _⟩ := hS'; go_simp⟩) hS1 ?_
                change wpAnyH _ _ _ _ _ _ _ (Act.put _ (some 15) (.bool bv)) _
                simp only [Act.put, List.setIfInBounds_toArray, List.set_cons_zero, List.set_cons_succ]
                refine wpAnyH_done (by kernel_rfl) ?_ _
                refine NoPanic.normal ?_
                go_simp
                go_wp2_with fail
                go_roundw
                case rel => exact ⟨q + 1, by omega, by go_num, by rw [HN.out], hS1.2.2.2.1, hS1.2.2.2.2.1, hS1.2.2.2.2.2.1, hS1.2.2.2.2.2.2⟩
                case measure => simp [intOf]; omega
              · have HN : Hid (doneM L ⟨p1, p2, (sc : Int)⟩ (q + 1) = true) := Lib.hid (by rw [HS2.out]; simp)
                clear HS2
                go_wp2_with fail
                go_quiet (fail)
                go_wp2_with fail
                go_roundw
                case rel => exact ⟨q + 1, by omega, by go_num, by rw [HN.out], s4, s5, s6, below_drewN HBQ.out _⟩
                case measure => simp [intOf]; omega
        · have HN : Hid (doneM L ⟨p1, p2, (sc : Int)⟩ (q + 1) = true) := Lib.hid (by rw [HS2.out]; simp)
          clear HS2 hbf hbt hbs
          go_wp2_with fail
          go_quiet (fail)
          go_wp2_with fail
          go_roundw
          case rel => exact ⟨q + 1, by omega, by go_num, by rw [HN.out], s4, s5, s6, below_drewN HBQ.out _⟩
          case measure => simp [intOf]; omega

end Go.Proofs.Ytdnckhagknlfhaa
