/-
  collatorlaw05.MyersTells: whatever the lists of texts and the raw numbers, it returns true; nothing that was there is changed.
-/
import Derived.Test.YtmonemgjgcfhlaaRefD
import Derived.Test.YtmonemgjgcfhlaaTurned
import Derived.Deep.RegionLaw
import Derived.Deep.RegionHeld3
import Derived.Deep.DeepCutAuto
namespace Go.Proofs.Ytmonemgjgcfhlaa
open Go.RowKit

/-- few texts, none too long -/
def Fit (X : List ByteArray) : Prop := X.length ≤ 40 ∧ ∀ s ∈ X, s.size ≤ 140737488355328
theorem Fit.all {X : List ByteArray} (h : Fit X) : ∀ s ∈ X, s.size ≤ maxLen := fun s hs => by have := h.2 s hs; unfold maxLen; omega
/-- the row g holds the lists L, each few -/
def Held (w : World) (g : Nat) (L : List (List ByteArray)) : Prop :=
  ∀ (j : Nat) (X : List ByteArray), L[j]? = some X → ∃ (Ax : Option Addr) (cx : Nat), w.cell? ⟨g, j, none⟩ = some (.slice Ax X.length cx) ∧ Strs w w.heap.size Ax X ∧ Fit X
theorem Held.up {w w' : World} {g : Nat} {L : List (List ByteArray)} (h : Held w g L) (hb : Below w.heap.size w w') : Held w' g L := by
  intro j X hj
  obtain ⟨Ax, cx, h1, h3, h4⟩ := h j X hj
  exact ⟨Ax, cx, (hb.cell (p := ⟨g, j, none⟩) (lt_of_cell h1)).trans h1, h3.up2 hb, h4⟩
/-- a value that is a list of few texts -/
def IsList (w : World) (v : Value) (X : List ByteArray) : Prop := ∃ (A : Option Addr) (c : Nat), v = .slice A X.length c ∧ Strs w w.heap.size A X ∧ Fit X
theorem held_new (w : World) (vs : List Value) (L : List (List ByteArray)) (h : ∀ (j : Nat) (X : List ByteArray), L[j]? = some X → ∃ v, vs[j]? = some v ∧ IsList w v X) : Held (w.alloc (.cells vs.toArray 22)) w.heap.size L := by
  intro j X hj
  obtain ⟨v, hv, A, c, rfl, h2, h3⟩ := h j X hj
  refine ⟨A, c, ?_, (h2.alloc (Nat.le_refl _) _).more (by simp), h3⟩
  rw [cell_of_row _ w.heap.size j _ 22 (0, 0) (heap_alloc_new w _)]
  simp [hv]
/-- behind the statement that lays the lists -/
def Laid (w : World) (s10 : Value) (wx : World) : Prop := ∃ g L, s10 = .slice (some ⟨g, 0, none⟩) 4 4 ∧ L.length = 4 ∧ Held wx g L ∧ Below w.heap.size w wx
theorem laid_new {w w4 : World} (v0 v1 v2 v3 : Value) (X0 X1 X2 X3 : List ByteArray) (hb : Below w.heap.size w w4) (h0 : IsList w4 v0 X0) (h1 : IsList w4 v1 X1) (h2 : IsList w4 v2 X2) (h3 : IsList w4 v3 X3) :
    Laid w (.slice (some ⟨w4.heap.size, 0, none⟩) 4 4) (w4.alloc (.cells #[v0, v1, v2, v3] 22)) := by
  refine ⟨_, [X0, X1, X2, X3], rfl, rfl, held_new w4 [v0, v1, v2, v3] _ ?_, hb.alloc hb.size _⟩
  intro j X hj
  match j with
  | 0 => injection hj with e; subst e; exact ⟨_, rfl, h0⟩
  | 1 => injection hj with e; subst e; exact ⟨_, rfl, h1⟩
  | 2 => injection hj with e; subst e; exact ⟨_, rfl, h2⟩
  | 3 => injection hj with e; subst e; exact ⟨_, rfl, h3⟩
  | j + 4 => simp at hj
theorem up_str {w w' : World} {A : Option Addr} {ss : List ByteArray} (h : Strs w w.heap.size A ss) (hb : Below w.heap.size w w') : Strs w' w'.heap.size A ss := h.up2 hb
theorem edits_small (a b : List ByteArray) (h : a.length + b.length ≤ 200) : (grp [] (Pm.way a b)).length ≤ 200 ∧ ∀ e ∈ grp [] (Pm.way a b), e.lines.length ≤ 65536 := by
  have hb : ∀ (ss : List (Pm.Stp ByteArray)) (es : List Edt) (k : Nat), (∀ s ∈ ss, s.2.length ≤ 1) → Bnd es k → Bnd (grp es ss) (k + ss.length) := by
    intro ss
    induction ss with
    | nil => intro es k _ h; exact h
    | cons s ss ih =>
      intro es k h1 h2
      rw [grp_cons, List.length_cons, show k + (ss.length + 1) = (k + 1) + ss.length from by omega]
      exact ih _ _ (fun t ht => h1 t (List.mem_cons_of_mem _ ht)) (h2.step s.1 s.2 (h1 s List.mem_cons_self))
  have hs : ∀ (N : Nat) (a b : List ByteArray), ∀ s ∈ Pm.steps N a b, s.2.length ≤ 1 := by
    intro N
    induction N with
    | zero => intro a b s hs; simp [Pm.steps] at hs
    | succ N ih =>
      intro a b s hs
      cases a with
      | nil =>
        cases b with
        | nil => simp [Pm.steps] at hs
        | cons q b => simp only [Pm.steps, List.mem_cons] at hs; rcases hs with rfl | hs; · simp
                      exact ih _ _ s hs
      | cons p a =>
        cases b with
        | nil => simp only [Pm.steps, List.mem_cons] at hs; rcases hs with rfl | hs; · simp
                 exact ih _ _ s hs
        | cons q b =>
          simp only [Pm.steps] at hs
          split at hs
          · simp only [List.mem_cons] at hs; rcases hs with rfl | hs; · simp
            exact ih _ _ s hs
          · split at hs
            · simp only [List.mem_cons] at hs; rcases hs with rfl | hs; · simp
              exact ih _ _ s hs
            · simp only [List.mem_cons] at hs; rcases hs with rfl | hs; · simp
              exact ih _ _ s hs
  have h0 := hb (Pm.way a b) [] 0 (hs _ a b) ⟨by simp, by simp⟩
  have h1 := Pm.way_len _ a b (Nat.le_refl _)
  exact ⟨by have := h0.1; omega, fun e he => by have := (h0.2 e he).2; omega⟩

set_option maxHeartbeats 6000000 in
set_option maxRecDepth 100000 in
theorem tells_walk (A B C D : Option Addr) (ss ts : List ByteArray) (xs ys : List Int) (ca cb cc cd : Nat) (w : World) (ha : Strs w w.heap.size A ss) (hb : Strs w w.heap.size B ts) (hc : Ints w w.heap.size C xs) (hd : Ints w w.heap.size D ys)
    (h1 : ss.length ≤ 140737488355328) (h2 : ts.length ≤ 140737488355328) (h1c : ss.length ≤ ca) (h2c : ts.length ≤ cb) (h3 : xs.length ≤ 140737488355328) (h4 : ys.length ≤ 140737488355328)
    (hss : ∀ s ∈ ss, s.size ≤ 140737488355328) (hts : ∀ s ∈ ts, s.size ≤ 140737488355328)
    (hx : ∀ z ∈ xs, -9223372036854775808 ≤ z ∧ z ≤ 9223372036854775807) (hy : ∀ z ∈ ys, -9223372036854775808 ≤ z ∧ z ≤ 9223372036854775807) :
    Calls Try.prog 3 #[.slice A ss.length ca, .slice B ts.length cb, .slice C xs.length cc, .slice D ys.length cd] w fun e w' => e = .returned (.bool true) ∧ Below w.heap.size w w' := by
  have HSS := Lib.hid hss
  have HTS := Lib.hid hts
  have HX := Lib.hid hx
  have HY := Lib.hid hy
  clear hss hts hx hy
  go_enter Try.func3, Try.ntmps3
  go_wp2_with fail
  refine (awake_any _).mono ?_
  rintro e w1 ⟨rfl, hb1⟩
  go_wp2_with fail
  obtain ⟨n1, hn1⟩ : ∃ n1 : Nat, n1 = (ss.take 20).length := ⟨_, rfl⟩
  obtain ⟨n2, hn2⟩ : ∃ n2 : Nat, n2 = (ts.take 20).length := ⟨_, rfl⟩
  have hn1' : n1 = min 20 ss.length := by rw [hn1, List.length_take]
  have hn2' : n2 = min 20 ts.length := by rw [hn2, List.length_take]
  have m1 : n1 ≤ ca := by omega
  have m2 : n2 ≤ cb := by omega
  have m5 : n1 ≤ 20 := by omega
  have m6 : n2 ≤ 20 := by omega
  have i1 : min (ss.length : Int) 20 = (n1 : Int) := by omega
  have i2 : min (ts.length : Int) 20 = (n2 : Int) := by omega
  have HN1 := Lib.hid hn1
  have HN2 := Lib.hid hn2
  clear hn1 hn2 hn1' hn2'
  go_cut [10] (fun s10 wx => Laid w s10 wx)
  case first =>
    have hbw : Below w.heap.size w w1.drew := hb1.drew
    clear hb1
    go_region_law ((first | (go_simp; (with_reducible refine (lines_at 40 40 rfl (by omega) (by omega) C xs cc _ (up_of' hc hbw) h3 HX.out).mono ?_); rintro e w3 ⟨A3, c3, rfl, ho3, hc3, hb3⟩; replace hbw := hbw.trans (hb3.mono hbw.size); clear hb3; dsimp only) | (go_simp; (with_reducible refine (lines_at 40 40 rfl (by omega) (by omega) D ys cd _ (up_of' hd hbw) h4 HY.out).mono ?_); rintro e w4 ⟨A4, c4, rfl, ho4, hc4, hb4⟩; replace hbw := hbw.trans (hb4.mono hbw.size); replace ho3 := ho3.up2 hb4; clear hb4; dsimp only)))
    all_goals
      go_simp
      go_wp2_with fail
      go_meet
      exact laid_new _ _ _ _ (ss.take 20) (ts.take 20) (linesL 40 xs) (linesL 40 ys) hbw ⟨A, ca, by rw [HN1.out], up_str (ha.take 20) hbw, by rw [← HN1.out]; omega, fun s hs => HSS.out s (List.mem_of_mem_take hs)⟩ ⟨B, cb, by rw [HN2.out], up_str (hb.take 20) hbw, by rw [← HN2.out]; omega, fun s hs => HTS.out s (List.mem_of_mem_take hs)⟩ ⟨A3, c3, rfl, ho3, lines_len 40 xs, lines_fit' xs⟩ ⟨A4, c4, rfl, ho4, lines_len 40 ys, lines_fit' ys⟩
  case rest =>
  obtain ⟨g, L, rfl, hL4, hH, hbx⟩ := hcut
  have HL4 := Lib.hid hL4
  clear hL4 i1 i2 m1 m2 m5 m6 HN1 HN2 ha hb hc hd HSS HTS HX HY hb1
  go_wp2_with fail
  go_loopw [33] (fun s33 wr => ∃ i : Nat, i ≤ 4 ∧ s33 = .int .i64 i ∧ Held wr g L ∧ Below w.heap.size w wr) (fun s33 _ => 4 - (intOf s33).toNat)
  case atStart => exact ⟨0, by omega, rfl, hH, hbx⟩
  case round =>
    obtain ⟨i, hi, rfl, hH', hbx'⟩ := hrel
    clear hH hbx
    by_cases g1 : i < 4
    · have g1' : (i : Int) < 4 := by omega
      obtain ⟨X, hX⟩ : ∃ X, L[i]? = some X := ⟨_, List.getElem?_eq_getElem (by rw [HL4.out]; omega)⟩
      have HXX := Lib.hid hX
      clear hX
      obtain ⟨Ai, ci, hcell, hsi, hfi⟩ := hH' i X HXX.out
      have FI := Lib.hid hfi
      clear hfi
      have HWR : Hid (Below wr.heap.size wr wr) := Lib.hid (Below.refl _ _)
      go_wp2_with fail
      go_loopw [39] (fun s39 wy => ∃ k : Nat, k ≤ 4 ∧ s39 = .int .i64 k ∧ Held wy g L ∧ Strs wy wy.heap.size Ai X ∧ Below w.heap.size w wy) (fun s39 _ => 4 - (intOf s39).toNat)
      case atStart => exact ⟨0, by omega, rfl, hH', hsi, hbx'⟩
      case round =>
        obtain ⟨k, hk, rfl, hH2, hoi, hb2⟩ := hrel
        clear hH' hbx' hcell hsi HWR
        by_cases g2 : k < 4
        · have g2' : (k : Int) < 4 := by omega
          obtain ⟨Y, hY⟩ : ∃ Y, L[k]? = some Y := ⟨_, List.getElem?_eq_getElem (by rw [HL4.out]; omega)⟩
          obtain ⟨Ak, ck, hcell2, hok, hfk⟩ := hH2 k Y hY
          have FK := Lib.hid hfk
          have hXY : X.length + Y.length ≤ 200 := by have h1 := FI.out.1; have h2 := FK.out.1; omega
          obtain ⟨es, hes⟩ : ∃ es, es = grp [] (Pm.way X Y) := ⟨_, rfl⟩
          have hsm := edits_small X Y hXY
          rw [← hes] at hsm
          have hes1 : es.length ≤ 200 := hsm.1
          have HES2 := Lib.hid hsm.2
          have HES := Lib.hid hes
          obtain ⟨x, hx⟩ : ∃ x, x = Pm.cmn X Y := ⟨_, rfl⟩
          obtain ⟨y, hy⟩ : ∃ y, y = Pm.ed X Y := ⟨_, rfl⟩
          have hxy := Pm.cmn_two X Y
          rw [← hx, ← hy] at hxy
          have HXY := Lib.hid hxy
          have HXE := Lib.hid hx
          have HYE := Lib.hid hy
          have HH2 := Lib.hid hH2
          have hx1 : x ≤ 200 := by omega
          have hy1 : y ≤ 200 := by omega
          clear hfk hY hsm hes hx hy hxy hH2
          have hbt : Below wr.heap.size wr wr := Below.refl _ _
          go_wp2_with fail
          refine (diff_at Ai Ak X Y X.length Y.length ci ck es.length es _ hoi hok rfl rfl (by omega) FI.out.all FK.out.2 HES.out.symm rfl).mono ?_
          rintro e v1 ⟨D1, k1, rfl, hE1, hbn⟩
          replace hoi := hoi.up2 hbn
          replace hok := hok.up2 hbn
          replace hbt := hbt.trans (hbn.mono hbt.size)
          clear hbn
          go_wp2_with fail
          refine (refDiff_any Ai Ak X Y ci ck _ hoi hok hXY).mono ?_
          rintro e v2 ⟨D2, n2, k2, rfl, hn2, hE2, hbn⟩
          rw [← HES.out] at hn2 hE2
          subst hn2
          replace hoi := hoi.up2 hbn
          replace hok := hok.up2 hbn
          replace hE1 := hE1.up hbn
          replace hbt := hbt.trans (hbn.mono hbt.size)
          clear hbn
          go_wp2_with fail
          refine (same_at D1 D2 es es.length k1 k2 _ hE1 hE2 rfl (by omega) HES2.out).mono ?_
          rintro e v3 ⟨rfl, hbn⟩
          replace hoi := hoi.up2 hbn
          replace hok := hok.up2 hbn
          replace hbt := hbt.trans (hbn.mono hbt.size)
          clear hbn hE1 hE2
          go_wp2_with fail
          refine (cost_at' Ai Ak X Y X.length Y.length ci ck (y : Int) _ hoi hok rfl rfl (by omega) FI.out.all FK.out.all (by rw [HYE.out])).mono ?_
          rintro e v4 ⟨rfl, hbn⟩
          replace hoi := hoi.up2 hbn
          replace hok := hok.up2 hbn
          replace hbt := hbt.trans (hbn.mono hbt.size)
          clear hbn
          go_wp2_with fail
          refine (refCost_any Ai Ak X Y ci ck _ hoi hok (by omega) (by omega)).mono ?_
          rw [← HYE.out]
          rintro e v5 ⟨rfl, hbn⟩
          replace hoi := hoi.up2 hbn
          replace hok := hok.up2 hbn
          replace hbt := hbt.trans (hbn.mono hbt.size)
          clear hbn
          go_wp2_with fail
          refine (common_at' Ai Ak X Y X.length Y.length ci ck (x : Int) _ hoi hok rfl rfl (by omega) FI.out.all FK.out.all (by rw [← HYE.out]; have := HXY.out; omega)).mono ?_
          rintro e v6 ⟨rfl, hbn⟩
          replace hoi := hoi.up2 hbn
          replace hok := hok.up2 hbn
          replace hbt := hbt.trans (hbn.mono hbt.size)
          clear hbn
          go_wp2_with fail
          refine (refCommon_any Ai Ak X Y ci ck _ hoi hok (by omega) (by omega)).mono ?_
          rw [← HXE.out]
          rintro e v7 ⟨rfl, hbn⟩
          replace hoi := hoi.up2 hbn
          replace hbt := hbt.trans (hbn.mono hbt.size)
          clear hbn hok
          go_wp2_with fail
          go_roundw
          case rel => exact ⟨k + 1, by omega, by go_num, HH2.out.up hbt, hoi, hb2.trans (hbt.mono hb2.size)⟩
          case measure => simp [intOf]; omega
        · go_wp2_with fail
          go_roundw
          case rel => exact ⟨i + 1, by omega, by go_num, hH2, hb2⟩
          case measure => simp [intOf]; omega
    · go_wp2_with fail
      go_ret
      exact ⟨rfl, hbx'⟩

end Go.Proofs.Ytmonemgjgcfhlaa
