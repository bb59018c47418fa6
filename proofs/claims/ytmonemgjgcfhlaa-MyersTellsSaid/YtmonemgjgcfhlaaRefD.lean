/-
  The document's answers of chapter 5: collatorref05.Common, Cost and Diff. Nothing that was there is changed.
-/
import Derived.Test.YtmonemgjgcfhlaaWith
import Derived.Test.YtmonemgjgcfhlaaTable
namespace Go.Proofs.Ytmonemgjgcfhlaa
open Go.RowKit

theorem with_any (A : Option Addr) (L : List MEd) (n c : Nat) (op : Int) (B : Option Addr) (ls : List ByteArray) (l d : Nat) (w : World) (hv : Vw w A L) (hn : L.length = n) (hnc : n ≤ c) (h1 : n ≤ 999) (hB : Strs w w.heap.size B ls) (hl : ls.length = l) (hll : l ≤ 65536)
    (hm : ∀ m ∈ L, m.n ≤ 65536 ∧ m.lines.length ≤ 65536) :
    Calls Try.prog 36 #[.slice A n c, .int .i64 op, .slice B l d] w fun e w' => ∃ A' c' L' n', e = .returned (.slice A' n' c') ∧ L'.length = n' ∧ n' ≤ c' ∧ Vw w' A' L' ∧ L'.map MEd.e = stepE (L.map MEd.e) op ls ∧ Below w.heap.size w w' := by
  rcases List.eq_nil_or_concat L with rfl | ⟨L0, m, rfl⟩
  · exact with_new A [] n c op B ls l d w hv hn h1 hB hl (by simp)
  · rw [List.concat_eq_append] at *
    by_cases h : m.op = op
    · exact with_same A L0 m n c op B ls l d w hv (by rw [← hn]; simp) hnc h1 hB hl h (hm m (by simp)).1 (hm m (by simp)).2 hll
    · exact with_new A (L0 ++ [m]) n c op B ls l d w hv hn h1 hB hl (by simp [h])

set_option maxHeartbeats 1000000 in
set_option maxRecDepth 100000 in
theorem refCommon_any (A B : Option Addr) (a b : List ByteArray) (c d : Nat) (w : World) (ha : Strs w w.heap.size A a) (hb : Strs w w.heap.size B b) (h1 : a.length ≤ 1000) (h2 : b.length ≤ 1000) :
    Calls Try.prog 18 #[.slice A a.length c, .slice B b.length d] w fun e w' => e = .returned (.int .i64 (Pm.cmn a b : Nat)) ∧ Below w.heap.size w w' := by
  go_enter Try.func18, Try.ntmps18
  go_wp2_with fail
  refine (table_any A B a b c d _ ha hb h1 h2).mono ?_
  rintro e w1 ⟨rfl, hT, hbn⟩
  obtain ⟨g, hc1, hc2⟩ := hT 0 (Nat.zero_le _)
  have hc3 := hc2 0 (Nat.zero_le _)
  have he : cAt a b 0 0 = Pm.cmn a b := rfl
  rw [he] at hc3
  obtain ⟨x, hx⟩ : ∃ x, x = Pm.cmn a b := ⟨_, rfl⟩
  rw [← hx] at hc3
  have HX := Lib.hid hx
  clear hx he
  have f1 : (0 : Int) < (a.length : Int) + 1 := by omega
  have f2 : (0 : Int) < (b.length : Int) + 1 := by omega
  clear hc2 hT
  go_wp2_with fail
  go_ret
  exact ⟨by rw [← HX.out]; rfl, hbn⟩
set_option maxHeartbeats 1000000 in
set_option maxRecDepth 100000 in
theorem refCost_any (A B : Option Addr) (a b : List ByteArray) (c d : Nat) (w : World) (ha : Strs w w.heap.size A a) (hb : Strs w w.heap.size B b) (h1 : a.length ≤ 1000) (h2 : b.length ≤ 1000) :
    Calls Try.prog 16 #[.slice A a.length c, .slice B b.length d] w fun e w' => e = .returned (.int .i64 (Pm.ed a b : Nat)) ∧ Below w.heap.size w w' := by
  have H := Lib.hid (Pm.cmn_two a b)
  have hx := Pm.cmn_le a b
  have hy := Pm.ed_top a b
  have HC := Lib.hid (refCommon_any A B a b c d w ha hb h1 h2)
  generalize Pm.cmn a b = x at *
  generalize Pm.ed a b = y at *
  go_enter Try.func16, Try.ntmps16
  go_wp2_with fail
  refine HC.out.mono ?_
  rintro e w1 ⟨rfl, hbn⟩
  go_wp2_with fail
  go_ret
  exact ⟨ret_int (by have := H.out; omega), hbn⟩

theorem strs_one_new (W : World) (t : ByteArray) : Strs (W.alloc (.cells #[.string t] 9)) (W.alloc (.cells #[.string t] 9)).heap.size (some ⟨W.heap.size, 0, none⟩) [t] := by
  have h := strs_new W [t]
  simpa using h
/-- what collatorref05.Diff tells -/
def DiffTold (a b : List ByteArray) (w : World) (e : Ending) (w' : World) : Prop := ∃ (A' : Option Addr) (n c' : Nat), e = .returned (.slice A' n c') ∧ n = (grp [] (Pm.way a b)).length ∧ Eds w' w'.heap.size A' (grp [] (Pm.way a b)) ∧ Below w.heap.size w w'
/-- in the loop of collatorref05.Diff -/
def RD (w : World) (g0 : Nat) (a b : List ByteArray) (i j : Nat) (v : Value) (wr : World) : Prop :=
  ∃ (A : Option Addr) (n c : Nat) (L : List MEd), v = .slice A n c ∧ L.length = n ∧ n ≤ c ∧ Vw wr A L ∧ grp (L.map MEd.e) (Pm.way (a.drop i) (b.drop j)) = grp [] (Pm.way a b) ∧ Bnd (L.map MEd.e) (i + j) ∧ TabAt wr g0 a b ∧ Below w.heap.size w wr
theorem way_keep_at {a b : List ByteArray} {i j : Nat} {s : ByteArray} (hs : a[i]? = some s) (ht : b[j]? = some s) : Pm.way (a.drop i) (b.drop j) = (1, []) :: Pm.way (a.drop (i + 1)) (b.drop (j + 1)) := by
  obtain ⟨h1, e1⟩ := List.getElem?_eq_some_iff.1 hs
  obtain ⟨h2, e2⟩ := List.getElem?_eq_some_iff.1 ht
  rw [List.drop_eq_getElem_cons h1, List.drop_eq_getElem_cons h2, e1, e2, Pm.way_keep]
theorem way_cut_at {a b : List ByteArray} {i j : Nat} {s t : ByteArray} (hs : a[i]? = some s) (ht : b[j]? = some t) (hne : s ≠ t) (hle : cAt a b i (j + 1) ≤ cAt a b (i + 1) j) : Pm.way (a.drop i) (b.drop j) = (2, []) :: Pm.way (a.drop (i + 1)) (b.drop j) := by
  obtain ⟨h1, e1⟩ := List.getElem?_eq_some_iff.1 hs
  obtain ⟨h2, e2⟩ := List.getElem?_eq_some_iff.1 ht
  have ea : a.drop i = s :: a.drop (i + 1) := by rw [List.drop_eq_getElem_cons h1, e1]
  have eb : b.drop j = t :: b.drop (j + 1) := by rw [List.drop_eq_getElem_cons h2, e2]
  unfold cAt at hle
  rw [ea, eb] at hle
  rw [ea, eb]
  exact Pm.way_cut s _ _ (fun q b' h => by injection h with h _; subst h; exact hne) ((Pm.cut_iff hne _ _).2 hle)
theorem way_cut_end {a b : List ByteArray} {i j : Nat} {s : ByteArray} (hs : a[i]? = some s) (hj : b.length ≤ j) : Pm.way (a.drop i) (b.drop j) = (2, []) :: Pm.way (a.drop (i + 1)) (b.drop j) := by
  obtain ⟨h1, e1⟩ := List.getElem?_eq_some_iff.1 hs
  rw [List.drop_eq_nil_of_le hj, List.drop_eq_getElem_cons h1, e1]
  exact Pm.way_cut s _ _ (fun q b' h => by cases h) (by rw [Pm.ed_nil', Pm.ed_nil']; simp)
theorem way_add_at {a b : List ByteArray} {i j : Nat} {s t : ByteArray} (hs : a[i]? = some s) (ht : b[j]? = some t) (hne : s ≠ t) (hlt : cAt a b (i + 1) j < cAt a b i (j + 1)) : Pm.way (a.drop i) (b.drop j) = (3, [t]) :: Pm.way (a.drop i) (b.drop (j + 1)) := by
  obtain ⟨h1, e1⟩ := List.getElem?_eq_some_iff.1 hs
  obtain ⟨h2, e2⟩ := List.getElem?_eq_some_iff.1 ht
  have ea : a.drop i = s :: a.drop (i + 1) := by rw [List.drop_eq_getElem_cons h1, e1]
  have eb : b.drop j = t :: b.drop (j + 1) := by rw [List.drop_eq_getElem_cons h2, e2]
  unfold cAt at hlt
  rw [ea, eb] at hlt
  rw [ea, eb]
  exact Pm.way_add t _ _ (fun p a' h => by
    injection h with h h'
    subst h h'
    exact ⟨hne, fun h => absurd ((Pm.cut_iff hne _ _).1 h) (Nat.not_le.2 hlt)⟩)
theorem way_add_end {a b : List ByteArray} {i j : Nat} {t : ByteArray} (hi : a.length ≤ i) (ht : b[j]? = some t) : Pm.way (a.drop i) (b.drop j) = (3, [t]) :: Pm.way (a.drop i) (b.drop (j + 1)) := by
  obtain ⟨h2, e2⟩ := List.getElem?_eq_some_iff.1 ht
  rw [List.drop_eq_nil_of_le hi, List.drop_eq_getElem_cons h2, e2]
  exact Pm.way_add t _ _ (fun p a' h => by cases h)
theorem RD.next {w wr w' : World} {g0 : Nat} {a b : List ByteArray} {i j i' j' : Nat} {op : Int} {ls : List ByteArray} {L L' : List MEd} {A' : Option Addr} {n' c' : Nat}
    (hg : grp (L.map MEd.e) (Pm.way (a.drop i) (b.drop j)) = grp [] (Pm.way a b)) (hbd : Bnd (L.map MEd.e) (i + j)) (hT : TabAt wr g0 a b) (hB : Below w.heap.size w wr) (hbn : Below wr.heap.size wr w') (hw : Pm.way (a.drop i) (b.drop j) = (op, ls) :: Pm.way (a.drop i') (b.drop j')) (hij : i + j + 1 ≤ i' + j') (hls : ls.length ≤ 1)
    (h1 : L'.length = n') (h2 : n' ≤ c') (h3 : Vw w' A' L') (h4 : L'.map MEd.e = stepE (L.map MEd.e) op ls) : RD w g0 a b i' j' (.slice A' n' c') w' := by
  refine ⟨A', n', c', L', rfl, h1, h2, h3, ?_, ?_, hT.up hbn, hB.trans (hbn.mono hB.size)⟩
  · rw [hw, grp_cons] at hg
    rw [h4]
    exact hg
  · rw [h4]
    have h := hbd.step op ls hls
    exact ⟨Nat.le_trans h.1 hij, fun e he => ⟨Nat.le_trans (h.2 e he).1 hij, Nat.le_trans (h.2 e he).2 hij⟩⟩

set_option maxHeartbeats 4000000 in
set_option maxRecDepth 100000 in
theorem refDiff_any (A B : Option Addr) (a b : List ByteArray) (c d : Nat) (w : World) (ha : Strs w w.heap.size A a) (hb : Strs w w.heap.size B b) (hlen : a.length + b.length ≤ 200) :
    Calls Try.prog 14 #[.slice A a.length c, .slice B b.length d] w (DiffTold a b w) := by
  go_enter Try.func14, Try.ntmps14
  go_wp2_with fail
  refine (table_any A B a b c d _ ha hb (by omega) (by omega)).mono ?_
  rintro e w1 ⟨rfl, hT, hbn⟩
  obtain ⟨g0, hg0⟩ : ∃ g0, g0 = w.heap.size := ⟨_, rfl⟩
  rw [← hg0] at hT ⊢
  have HG0 := Lib.hid hg0
  clear hg0
  go_wp2_with fail
  go_loopw [6, 7, 8] (fun v s7 s8 wr => ∃ i j : Nat, i ≤ a.length ∧ j ≤ b.length ∧ s7 = .int .i64 i ∧ s8 = .int .i64 j ∧ RD w g0 a b i j v wr) (fun _ s7 s8 _ => (a.length - (intOf s7).toNat) + (b.length - (intOf s8).toNat))
  case atStart => exact ⟨0, 0, Nat.zero_le _, Nat.zero_le _, rfl, rfl, none, 0, 0, [], rfl, rfl, Nat.le_refl _, Vw.nil _ _, rfl, ⟨by simp, by simp⟩, hT, hbn⟩
  case round =>
    obtain ⟨i, j, hi, hj, rfl, rfl, Av, n, cv, L, rfl, hn, hnc, hv, hg, hbd, hTr, hB⟩ := hrel
    clear hT hbn
    have hn' : n ≤ 999 := by have := hbd.1; rw [List.length_map] at this; omega
    have HM : Hid (∀ m ∈ L, m.n ≤ 65536 ∧ m.lines.length ≤ 65536) := Lib.hid (fun m hm => by have := hbd.2 m.e (List.mem_map.2 ⟨m, hm, rfl⟩); simp only [MEd.e] at this; omega)
    have HN := Lib.hid hn
    have HG := Lib.hid hg
    have HBD := Lib.hid hbd
    have HTR := Lib.hid hTr
    have HV := Lib.hid hv
    clear hn hg hbd hTr hv
    have e1 : IntKind.i64.wrap ((i : Int) + 1) = (i : Int) + 1 := IntWalk.i64_in _ (by omega)
    have e2 : IntKind.i64.wrap ((j : Int) + 1) = (j : Int) + 1 := IntWalk.i64_in _ (by omega)
    by_cases gi : i < a.length
    · obtain ⟨s, hs⟩ : ∃ s, a[i]? = some s := ⟨_, List.getElem?_eq_getElem gi⟩
      obtain ⟨ad, rfl, hca⟩ := cell_strB (ha.below hB) hs
      have di : decide (i < a.length) = true := by simpa using gi
      have di2 : (i : Int) < (a.length : Int) := by omega
      by_cases gj : j < b.length
      · obtain ⟨t, ht⟩ : ∃ t, b[j]? = some t := ⟨_, List.getElem?_eq_getElem gj⟩
        obtain ⟨bd, rfl, hcb⟩ := cell_strB (hb.below hB) ht
        have dj : decide (j < b.length) = true := by simpa using gj
        have dj2 : (j : Int) < (b.length : Int) := by omega
        have dj3 : ((j : Int) == (b.length : Int)) = false := by rw [beq_eq_false_iff_ne]; omega
        by_cases hst : s = t
        · subst hst
          have HW := Lib.hid (way_keep_at hs ht)
          clear hs ht
          go_wp2_with fail
          go_quiet (fail)
          go_wp2_with fail
          refine (with_any Av L n cv 1 none [] 0 _ _ (HV.out.up (below_drewN (Below.refl _ _) _)) HN.out hnc hn' Strs.nil rfl (by omega) HM.out).mono ?_
          rintro e w2 ⟨A2, c2, L2, n2, rfl, g1, g2, g3, g4, hbn⟩
          have HR : Hid (RD w g0 a b (i + 1) (j + 1) (.slice A2 n2 c2) w2) := Lib.hid (RD.next HG.out HBD.out HTR.out hB ((below_drewN (Below.refl _ _) _).trans (hbn.mono (Nat.le_refl _))) HW.out (by omega) (by simp) g1 g2 g3 g4)
          clear g1 g2 g3 g4
          go_wp2_with fail
          go_roundw
          case rel => exact ⟨i + 1, j + 1, by omega, by omega, by first | rfl | go_num, by first | rfl | go_num, HR.out⟩
          case measure => simp [intOf]; omega
        · have hst' : (s.toList == t.toList) = false := by
            cases h : (s.toList == t.toList) with
            | false => rfl
            | true => exact absurd (same_of h) hst
          obtain ⟨gn, hc1, hcx⟩ := HTR.out (i + 1) gi
          obtain ⟨gc, hc2, hcy⟩ := HTR.out i hi
          replace hcx := hcx j hj
          replace hcy := hcy (j + 1) gj
          have f1 : (i : Int) + 1 < (a.length : Int) + 1 := by omega
          have f2 : (j : Int) + 1 < (b.length : Int) + 1 := by omega
          have f3 : (i : Int) < (a.length : Int) + 1 := by omega
          have f4 : (j : Int) < (b.length : Int) + 1 := by omega
          by_cases hxy : cAt a b i (j + 1) ≤ cAt a b (i + 1) j
          · have HW := Lib.hid (way_cut_at hs ht hst hxy)
            clear hs ht hst
            generalize cAt a b i (j + 1) = y at *
            generalize cAt a b (i + 1) j = x at *
            have dxy : decide (y ≤ x) = true := by simpa using hxy
            have ixy : (y : Int) ≤ (x : Int) := by omega
            go_wp2_with fail
            go_quiet (fail)
            go_wp2_with fail
            go_quiet (fail)
            go_wp2_with fail
            refine (with_any Av L n cv 2 none [] 0 _ _ (HV.out.up (below_drewN (Below.refl _ _) _)) HN.out hnc hn' Strs.nil rfl (by omega) HM.out).mono ?_
            rintro e w2 ⟨A2, c2, L2, n2, rfl, g1, g2, g3, g4, hbn⟩
            have HR : Hid (RD w g0 a b (i + 1) (j) (.slice A2 n2 c2) w2) := Lib.hid (RD.next HG.out HBD.out HTR.out hB ((below_drewN (Below.refl _ _) _).trans (hbn.mono (Nat.le_refl _))) HW.out (by omega) (by simp) g1 g2 g3 g4)
            clear g1 g2 g3 g4
            go_wp2_with fail
            go_roundw
            case rel => exact ⟨i + 1, j, by omega, by omega, by first | rfl | go_num, by first | rfl | go_num, HR.out⟩
            case measure => simp [intOf]; omega
          · have HW := Lib.hid (way_add_at hs ht hst (by omega))
            clear hs hst
            generalize cAt a b i (j + 1) = y at *
            generalize cAt a b (i + 1) j = x at *
            have dxy : decide (y ≤ x) = false := by simpa using hxy
            have ixy : ¬ (y : Int) ≤ (x : Int) := by omega
            clear ht
            go_wp2_with fail
            go_quiet (fail)
            go_wp2_with fail
            go_quiet (fail)
            go_wp2_with fail
            refine (with_any Av L n cv 3 (some _) [t] 1 _ _ (HV.out.up ((below_drewN (Below.refl _ _) _).alloc (Nat.le_refl _) _)) HN.out hnc hn' (strs_one_new (wr.drewN _) t) rfl (by omega) HM.out).mono ?_
            rintro e w2 ⟨A2, c2, L2, n2, rfl, g1, g2, g3, g4, hbn⟩
            have HR : Hid (RD w g0 a b (i) (j + 1) (.slice A2 n2 c2) w2) := Lib.hid (RD.next HG.out HBD.out HTR.out hB (((below_drewN (Below.refl _ _) _).alloc (Nat.le_refl _) _).trans (hbn.mono (by simp))) HW.out (by omega) (by simp) g1 g2 g3 g4)
            clear g1 g2 g3 g4
            go_wp2_with fail
            go_roundw
            case rel => exact ⟨i, j + 1, by omega, by omega, by first | rfl | go_num, by first | rfl | go_num, HR.out⟩
            case measure => simp [intOf]; omega
      · have dj : decide (j < b.length) = false := by simpa using gj
        have dj2 : ¬ (j : Int) < (b.length : Int) := by omega
        have dj3 : ((j : Int) == (b.length : Int)) = true := by rw [beq_iff_eq]; omega
        have HW := Lib.hid (way_cut_end (b := b) (j := j) hs (by omega))
        clear hs
        go_wp2_with fail
        go_quiet (fail)
        go_wp2_with fail
        go_quiet (fail)
        go_wp2_with fail
        refine (with_any Av L n cv 2 none [] 0 _ _ (HV.out.up (below_drewN (Below.refl _ _) _)) HN.out hnc hn' Strs.nil rfl (by omega) HM.out).mono ?_
        rintro e w2 ⟨A2, c2, L2, n2, rfl, g1, g2, g3, g4, hbn⟩
        have HR : Hid (RD w g0 a b (i + 1) (j) (.slice A2 n2 c2) w2) := Lib.hid (RD.next HG.out HBD.out HTR.out hB ((below_drewN (Below.refl _ _) _).trans (hbn.mono (Nat.le_refl _))) HW.out (by omega) (by simp) g1 g2 g3 g4)
        clear g1 g2 g3 g4
        go_wp2_with fail
        go_roundw
        case rel => exact ⟨i + 1, j, by omega, by omega, by first | rfl | go_num, by first | rfl | go_num, HR.out⟩
        case measure => simp [intOf]; omega
    · have di : decide (i < a.length) = false := by simpa using gi
      have di2 : ¬ (i : Int) < (a.length : Int) := by omega
      by_cases gj : j < b.length
      · obtain ⟨t, ht⟩ : ∃ t, b[j]? = some t := ⟨_, List.getElem?_eq_getElem gj⟩
        obtain ⟨bd, rfl, hcb⟩ := cell_strB (hb.below hB) ht
        have dj : decide (j < b.length) = true := by simpa using gj
        have dj2 : (j : Int) < (b.length : Int) := by omega
        have HW := Lib.hid (way_add_end (a := a) (i := i) (by omega) ht)
        clear ht
        go_wp2_with fail
        go_quiet (fail)
        go_wp2_with fail
        go_quiet (fail)
        go_wp2_with fail
        refine (with_any Av L n cv 3 (some _) [t] 1 _ _ (HV.out.up ((below_drewN (Below.refl _ _) _).alloc (Nat.le_refl _) _)) HN.out hnc hn' (strs_one_new (wr.drewN _) t) rfl (by omega) HM.out).mono ?_
        rintro e w2 ⟨A2, c2, L2, n2, rfl, g1, g2, g3, g4, hbn⟩
        have HR : Hid (RD w g0 a b (i) (j + 1) (.slice A2 n2 c2) w2) := Lib.hid (RD.next HG.out HBD.out HTR.out hB (((below_drewN (Below.refl _ _) _).alloc (Nat.le_refl _) _).trans (hbn.mono (by simp))) HW.out (by omega) (by simp) g1 g2 g3 g4)
        clear g1 g2 g3 g4
        go_wp2_with fail
        go_roundw
        case rel => exact ⟨i, j + 1, by omega, by omega, by first | rfl | go_num, by first | rfl | go_num, HR.out⟩
        case measure => simp [intOf]; omega
      · have dj : decide (j < b.length) = false := by simpa using gj
        have dj2 : ¬ (j : Int) < (b.length : Int) := by omega
        have hfin : L.map MEd.e = grp [] (Pm.way a b) := by
          have h := HG.out
          rw [List.drop_eq_nil_of_le (by omega), List.drop_eq_nil_of_le (by omega), Pm.way_nil] at h
          exact h
        have HF := Lib.hid hfin
        clear hfin
        go_wp2_with fail
        go_ret
        exact ⟨Av, n, cv, rfl, by rw [← HF.out, List.length_map, HN.out], by rw [← HF.out]; exact HV.out.eds, hB⟩

end Go.Proofs.Ytmonemgjgcfhlaa
