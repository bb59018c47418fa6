/-
  collatorlaw03.RowsRight: whatever comes in, of at most 2^20 bytes, it returns true.
-/
import Derived.Test.YtjapbiojjbdplaaSharedLaw
import Derived.Test.YtjapbiojjbdplaaBack
import Derived.Test.YtjapbiojjbdplaaOpen
import Derived.Deep.RegionWith
import Derived.Deep.DeepCutAuto
namespace Go.Proofs.Ytjapbiojjbdplaa
open Go.RowKit
open Pl

theorem few_right : ∀ i, i < 5 → isLineB (txt (few.getD i ⟨#[]⟩)) = true ∧ feedB (txt (few.getD i ⟨#[]⟩)) = true ∧ (few.getD i ⟨#[]⟩).size ≤ 5 := by decide
theorem fewAt_right (z : Int) : isLineB (txt (fewAt z)) = true ∧ feedB (txt (fewAt z)) = true ∧ (fewAt z).size ≤ 5 := by
  have h := pickI_range z 5 (by omega)
  exact few_right _ (by omega)
theorem plain_at {zs : List Int} {i : Nat} {x : ByteArray} (h : (plainL zs)[i]? = some x) : isLineB (txt x) = true ∧ feedB (txt x) = true ∧ x.size ≤ 5 := by
  unfold plainL at h
  rw [List.getElem?_map] at h
  cases hz : (zs.take 20)[i]? with
  | none => rw [hz] at h; cases h
  | some z => rw [hz] at h; injection h with h; subst h; exact fewAt_right z
theorem lines_right (zs : List Int) : rightL (txts (linesL zs)) = true := by
  refine rightL_of _ fun i hi => ?_
  rw [txts_length] at hi
  rw [okAt_eq (List.getElem?_eq_getElem hi)]
  by_cases hl : lastEnds zs = true
  · have e : linesL zs = (plainL zs).set ((plainL zs).length - 1) endB := by unfold linesL; rw [if_pos hl]
    simp only [e, List.length_set] at hi ⊢
    rw [List.getElem_set]
    split
    · have he : i + 1 = (plainL zs).length := by omega
      have h1 : isLineB (txt endB) = true := by decide
      simp [h1, he]
    · obtain ⟨h1, h2, _⟩ := plain_at (List.getElem?_eq_getElem hi)
      simp [h1, h2]
  · have e : linesL zs = plainL zs := by unfold linesL; rw [if_neg hl]
    simp only [e] at hi ⊢
    obtain ⟨h1, h2, _⟩ := plain_at (List.getElem?_eq_getElem hi)
    simp [h1, h2]
theorem lines_sizes (zs : List Int) : ∀ s ∈ linesL zs, s.size ≤ 5 := by
  intro s hs
  unfold linesL at hs
  split at hs
  · rcases List.mem_or_eq_of_mem_set hs with h | h
    · obtain ⟨j, hj⟩ := List.mem_iff_getElem?.1 h
      exact (plain_at hj).2.2
    · subst h; decide
  · obtain ⟨j, hj⟩ := List.mem_iff_getElem?.1 hs
    exact (plain_at hj).2.2

/-- C3, of texts: which lines are right -/
theorem right_texts {ss ys : List ByteArray} {t : ByteArray} (ht : txt t = (txts ss).flatten) (hy : txts ys = splitL (txt t)) : rightL (txts ss) = decide (ys = ss) := by
  rw [right_iff, ← ht, ← hy]
  by_cases h : ys = ss
  · subst h; simp
  · have : ¬ txts ys = txts ss := fun e => h (txts_inj e)
    rw [decide_eq_false h, decide_eq_false this]

theorem total_small : ∀ (l : List ByteArray), (∀ s ∈ l, s.size ≤ 5) → total l ≤ l.length * 5
  | [], _ => by simp [total, txts]
  | x :: xs, h => by
    have h1 := total_small xs (fun s hs => h s (List.mem_cons_of_mem _ hs))
    have h2 := h x (List.mem_cons_self ..)
    have h3 : total (x :: xs) = x.size + total xs := by
      unfold total txts
      rw [List.map_cons, List.flatten_cons, List.length_append, txt, ← Lib.size_eq]
    rw [h3, List.length_cons]
    omega
/-- some texts, none of them too long, nor all of them together -/
def Fit (ss : List ByteArray) : Prop := ss.length ≤ 20 ∧ total ss ≤ 4194304 ∧ ∀ s ∈ ss, s.size ≤ 4194304

theorem row_cap {W : World} {base : Nat} {e : TypeId} {A : Option Addr} {n c : Nat} {xs : List Value} (h : W.ownsRow base e 1 (.slice A n c) n xs) : n ≤ c := by
  obtain ⟨_, _, hv, hc, _⟩ := row_shape h
  injection hv with _ _ hv
  subst hv
  exact hc

/-- the k-th of the lists at g is X -/
def HeldAt (wx : World) (g k : Nat) (X : List ByteArray) : Prop := ∃ A c, wx.cell? ⟨g, k, none⟩ = some (.slice A X.length c) ∧ X.length ≤ c ∧ Strs wx wx.heap.size A X
def Lists (wx : World) (g n : Nat) : Prop := ∀ k, k < n → ∃ X, Fit X ∧ HeldAt wx g k X
theorem Lists.below {wx wy : World} {g n : Nat} (h : Lists wx g n) (hb : Below wx.heap.size wx wy) : Lists wy g n := by
  intro k hk
  obtain ⟨X, hf, A, c, hc, hl, hs⟩ := h k hk
  exact ⟨X, hf, A, c, (hb.cell (p := ⟨g, k, none⟩) (lt_of_cell hc)).trans hc, hl, (hs.below hb).more hb.size⟩
/-- behind the first statement of the law -/
def CutA (w : World) (A : Option Addr) (n c : Nat) (wx : World) : Prop := ∃ X, X.length = n ∧ n ≤ c ∧ Fit X ∧ Strs wx wx.heap.size A X ∧ Below w.heap.size w wx
/-- behind the statement that lays the lists -/
def CutB (w : World) (m : Nat) (mi : Int) (s38 s39 s40 : Value) (wx : World) : Prop := ∃ g, s38 = .slice (some ⟨g, 0, none⟩) m m ∧ s39 = .int .i64 mi ∧ s40 = .int .i64 0 ∧ Lists wx g m ∧ Below w.heap.size w wx

/-- a value that is a list of texts, that fits -/
def IsList (w : World) (v : Value) : Prop := ∃ A X c, v = .slice A X.length c ∧ Fit X ∧ X.length ≤ c ∧ Strs w w.heap.size A X
theorem lists_new (w : World) (l : List Value) (h : ∀ v ∈ l, IsList w v) : Lists (w.alloc (.cells l.toArray 22)) w.heap.size l.length := by
  intro k hk
  obtain ⟨A, X, c, hv, hf, hl, hs⟩ := h l[k] (List.getElem_mem hk)
  refine ⟨X, hf, A, c, ?_, hl, (hs.alloc (Nat.le_refl _) _).more (by simp)⟩
  rw [cell_of_row _ w.heap.size k _ 22 (0, 0) (heap_alloc_new w _)]
  simp [hk, hv]
theorem cutB_new {w w4 : World} (m : Nat) (mi : Int) (l : List Value) (hb : Below w.heap.size w w4) (hm : l.length = m) (h : ∀ v ∈ l, IsList w4 v) :
    CutB w m mi (.slice (some ⟨w4.heap.size, 0, none⟩) m m) (.int .i64 mi) (.int .i64 0) (w4.alloc (.cells l.toArray 22)) := by
  subst hm
  exact ⟨_, rfl, rfl, rfl, lists_new w4 l h, hb.alloc hb.size _⟩
theorem fit_set {X : List ByteArray} (hl : X.length ≤ 20) (hs : ∀ s ∈ X, s.size ≤ 5) (i : Nat) (s : ByteArray) (h : s.size ≤ 1048576) : Fit (X.set i s) := by
  have hall : ∀ t ∈ X.set i s, t.size ≤ 1048581 := by
    intro t ht
    rcases List.mem_or_eq_of_mem_set ht with e | e
    · have := hs t e; omega
    · subst e; omega
  have htot : ∀ (l : List ByteArray), (∀ s ∈ l, s.size ≤ 5) → ∀ i, total (l.set i s) ≤ l.length * 5 + 1048576 := by
    intro l
    induction l with
    | nil => intro _ i; simp [total, txts]
    | cons x xs ih =>
      intro hx i
      have h2 := hx x (List.mem_cons_self ..)
      have hcons : ∀ (y : ByteArray) (ys : List ByteArray), total (y :: ys) = y.size + total ys := by
        intro y ys
        unfold total txts
        rw [List.map_cons, List.flatten_cons, List.length_append, txt, ← Lib.size_eq]
      cases i with
      | zero =>
        rw [List.set_cons_zero, hcons]
        have h3 := total_small xs (fun s hs => hx s (List.mem_cons_of_mem _ hs))
        simp only [List.length_cons]
        omega
      | succ i =>
        rw [List.set_cons_succ, hcons]
        have h3 := ih (fun s hs => hx s (List.mem_cons_of_mem _ hs)) i
        simp only [List.length_cons]
        omega
  refine ⟨by rw [List.length_set]; exact hl, ?_, fun t ht => by have := hall t ht; omega⟩
  have := htot X hs i
  omega
theorem fit_lines {X : List ByteArray} (hl : X.length ≤ 20) (hs : ∀ s ∈ X, s.size ≤ 5) : Fit X := by
  have h := total_small X hs
  exact ⟨hl, by omega, fun s h => by have := hs s h; omega⟩

set_option maxHeartbeats 2000000 in
set_option maxRecDepth 100000 in
theorem rightLaw_walk (A B : Option Addr) (ss : List ByteArray) (zs : List Int) (c d : Nat) (at_ : Int) (s : ByteArray) (w : World) (ha : Strs w w.heap.size A ss) (hb : Ints w w.heap.size B zs) (hss : ss.length ≤ c) (h1 : zs.length ≤ 140737488355328)
    (hz : ∀ z ∈ zs, -9223372036854775808 ≤ z ∧ z ≤ 9223372036854775807) (hat1 : -9223372036854775808 ≤ at_) (hat2 : at_ ≤ 9223372036854775807) (hf : Fit (ss.take 20)) (hs : s.size ≤ 1048576) :
    Calls Try.prog 5 #[.slice A ss.length c, .slice B zs.length d, .int .i64 at_, .string s] w fun e w' => e = .returned (.bool true) ∧ Below w.heap.size w w' := by
  have HZ := Lib.hid hz
  clear hz
  go_enter Try.func5, Try.ntmps5
  go_wp2_with fail
  refine (awake_any _).mono ?_
  rintro e w1 ⟨rfl, hb1⟩
  have hb0 := hb1
  go_wp2_with fail
  refine (lines_any _ zs _ _ ((hb.below hb1).more hb1.size) h1 HZ.out).mono ?_
  rintro e w2 ⟨A2, c2, rfl, ho2, hb2⟩
  replace hb1 := hb1.trans (hb2.mono hb1.size)
  have hl := lines_le zs
  have HR := Lib.hid (lines_right zs)
  have HS := Lib.hid (lines_sizes zs)
  have hcc := row_cap ho2
  have hbb : ∃ bb : Bool, bb = decide (0 < (linesL zs).length ∧ 0 ≤ at_) := ⟨_, rfl⟩
  obtain ⟨bb, hbb⟩ := hbb
  have HBB := Lib.hid hbb
  clear hbb
  go_upto_region 3 with (fail)
  go_cut [22] (fun s22 wx => s22 = .bool bb ∧ wx = w2)
  case first =>
    by_cases hc1 : 0 < (linesL zs).length
    · by_cases hc2 : 0 ≤ at_
      · have hc1' : decide (0 < (linesL zs).length) = true := by simpa using hc1
        go_wp2_with fail
        go_meet
        exact ⟨by rw [HBB.out, decide_eq_true (by omega)], rfl⟩
      · have hc1' : decide (0 < (linesL zs).length) = true := by simpa using hc1
        go_wp2_with fail
        go_meet
        exact ⟨by rw [HBB.out, decide_eq_false (by omega)], rfl⟩
    · have hc1' : decide (0 < (linesL zs).length) = false := by simpa using hc1
      go_wp2_with fail
      go_meet
      exact ⟨by rw [HBB.out, decide_eq_false (by omega)], rfl⟩
  case rest =>
  obtain ⟨rfl, rfl⟩ := hcut
  go_upto_if 22 with (fail)
  go_cut [22] (fun _ wx => CutA w A2 (linesL zs).length c2 wx)
  case first =>
    cases bb with
    | true =>
      obtain ⟨hc1, hc2⟩ := of_decide_eq_true HBB.out.symm
      obtain ⟨g, cap, hv, hgl, hgt⟩ := ho2.form hc1
      injection hv with hv1 hv2 hv3
      subst hv1 hv3
      have hq0 : 0 ≤ at_ % ((linesL zs).length : Int) := Int.emod_nonneg _ (by omega)
      have hq1 : at_ % ((linesL zs).length : Int) < ((linesL zs).length : Int) := Int.emod_lt_of_pos at_ (by omega)
      have hst := ho2.stored (at_ % ((linesL zs).length : Int)).toNat (.string s)
      have hfz := ho2.frozenAt (at_ % ((linesL zs).length : Int)).toNat
      have hci := ho2.cellAt (at_ % ((linesL zs).length : Int)).toNat (by omega)
      obtain ⟨u, hu⟩ : ∃ u, wc.cell? ⟨g, (at_ % ((linesL zs).length : Int)).toNat, none⟩ = some u := by
        rw [hci, List.getElem?_eq_getElem (by rw [List.length_map]; omega)]; exact ⟨_, rfl⟩
      clear hci
      go_wp2_with fail
      go_meet
      exact ⟨(linesL zs).set (at_ % ((linesL zs).length : Int)).toNat s, by simp, hcc, fit_set hl HS.out _ s hs, Strs.of_own (base := w1.heap.size + 1) (e := 9) (c := c2) (by rw [List.length_set, List.map_set]; exact hst.1), hb1.grown hst.2 (by have := hb1.size; omega) (fun k hk => by injection hk with hk; have := hb0.size; omega)⟩
    | false =>
      go_wp2_with fail
      go_meet
      exact ⟨linesL zs, rfl, hcc, fit_lines hl HS.out, Strs.of_own ho2, hb1⟩
  case rest =>
    obtain ⟨X2, hX2, hl2, hf2, hs3, hb3⟩ := hcut
    have HX2 := Lib.hid hX2
    clear hX2 ho2 hb2 hb0 hb1 HBB
    go_wp2_with fail
    have hb3d : Below w.heap.size w wc.drew := hb3.drew
    have hmin : min (ss.length : Int) 20 ≤ (c : Int) := by omega
    have hmin0 : 0 ≤ min (ss.length : Int) 20 := by omega
    go_cut [38, 39, 40] (fun s38 s39 s40 wx => CutB w 3 3 s38 s39 s40 wx)
    case first =>
      go_region_with (go_at_call 10; refine (lines_at _ zs _ _ ((hb.below hb3d).more hb3d.size) h1 HZ.out).mono ?_; rintro e w4 ⟨A4, c4, rfl, hA4, hc4, hb4⟩)
      all_goals
        go_wp2_with fail
        go_meet
        refine cutB_new 3 3 [_, _, _] (hb3d.trans (hb4.mono hb3d.size)) rfl ?_
        intro v hv
        simp only [List.mem_cons, List.not_mem_nil, or_false] at hv
        rcases hv with rfl | rfl | rfl
        · exact ⟨A, ss.take 20, c, by rw [show (min (ss.length : Int) 20).toNat = (ss.take 20).length from by simp; omega], hf, by simp; omega, (((ha.take 20).below hb3d).below (hb4.mono hb3d.size)).more (Nat.le_trans hb3d.size hb4.size)⟩
        · exact ⟨A2, X2, c2, by rw [HX2.out], hf2, by rw [HX2.out]; exact hl2, (hs3.drew.below hb4).more hb4.size⟩
        · exact ⟨A4, linesL zs, c4, rfl, fit_lines hl HS.out, hc4, hA4⟩
    case rest =>
      obtain ⟨g', rfl, rfl, rfl, hL, hbx⟩ := hcut
      go_wp2_with fail
      go_loopw [12, 40] (fun _ i wr => ∃ k : Nat, k ≤ 3 ∧ i = .int .i64 k ∧ Lists wr g' 3 ∧ Below w.heap.size w wr) (fun _ i _ => 3 - (intOf i).toNat)
      case atStart => exact ⟨0, by omega, rfl, hL, hbx⟩
      case round =>
        obtain ⟨k, hk, rfl, hLk, hbk⟩ := hrel
        clear hL hbx
        by_cases hlt : k < 3
        · obtain ⟨Y, ⟨hf1, hf2', hf3⟩, AY, cY, hcell, hcY, hsY⟩ := hLk k hlt
          have hlt' : (k : Int) < 3 := by omega
          have HF3 := Lib.hid hf3
          clear hf3
          go_wp2_with fail
          obtain ⟨ys, hy1, hy2, _, _⟩ := lines_of (ba (txts Y).flatten)
          have HRT := Lib.hid (right_texts (ss := Y) rfl hy1)
          have HY1 := Lib.hid hy1
          have htb : (ba (txts Y).flatten).size ≤ 4194304 := by rw [Lib.size_eq]; exact hf2'
          have hyl : ys.length ≤ 4194304 := by omega
          clear hy1 hy2
          refine (right_at _ Y _ _ _ (rightL (txts Y)) _ hsY rfl (by omega) (fun s hs => by have := HF3.out s hs; omega) rfl).mono ?_
          rintro e w5 ⟨rfl, hb5⟩
          replace hLk := hLk.below hb5
          replace hbk := hbk.trans (hb5.mono hbk.size)
          replace hsY := (hsY.below hb5).more hb5.size
          clear hb5 hcell
          generalize rightL (txts Y) = rb at *
          go_wp2_with fail
          refine (join_at _ Y _ _ (ba (txts Y).flatten) _ hsY rfl (by omega) (by omega) rfl).mono ?_
          rintro e w6 ⟨rfl, hb6⟩
          replace hLk := hLk.below hb6
          replace hbk := hbk.trans (hb6.mono hbk.size)
          replace hsY := (hsY.below hb6).more hb6.size
          clear hb6
          generalize ba (txts Y).flatten = t at *
          go_wp2_with fail
          refine (split_at t ys (by omega) HY1.out _).mono ?_
          rintro e w7 ⟨A7, c7, rfl, hs7, hc7, hb7⟩
          replace hLk := hLk.below hb7
          replace hbk := hbk.trans (hb7.mono hbk.size)
          replace hsY := (hsY.below hb7).more hb7.size
          clear hb7
          go_wp2_with fail
          refine (texts_at _ _ ys Y _ _ _ _ _ rb _ hs7 hsY rfl rfl (by omega) HRT.out.symm).mono ?_
          rintro e w8 ⟨rfl, hb8⟩
          replace hLk := hLk.below hb8
          replace hbk := hbk.trans (hb8.mono hbk.size)
          clear hb8 hs7 hsY
          have hrb : (rb != rb) = false := by simp
          go_wp2_with fail
          go_roundw
          case rel => exact ⟨k + 1, by omega, by go_num, hLk, hbk⟩
          case measure => simp [intOf]; omega
        · have hlt' : ¬ (k : Int) < 3 := by omega
          go_wp2_with fail
          refine (lines_at _ zs _ _ ((hb.below hbk).more hbk.size) h1 HZ.out).mono ?_
          rintro e w5 ⟨A5, c5, rfl, hA5, hc5, hb5⟩
          replace hbk := hbk.trans (hb5.mono hbk.size)
          go_wp2_with fail
          refine (right_at _ (linesL zs) _ _ _ true _ hA5 rfl (by omega) (fun s hs => by have := HS.out s hs; omega) HR.out).mono ?_
          rintro e w6 ⟨rfl, hb6⟩
          replace hbk := hbk.trans (hb6.mono hbk.size)
          go_wp2_with fail
          go_ret
          exact ⟨rfl, hbk⟩

end Go.Proofs.Ytjapbiojjbdplaa
