/-
  collatorlaw07.AlikeTells: whatever the lists of texts and the raw numbers, it returns true; nothing that was there is changed.
-/
import Derived.Test.YthnjbiojimjlgaaRef
import Derived.Test.YthnjbiojimjlgaaSame
import Derived.Deep.RegionLaw
import Derived.Deep.RegionHeld3
import Derived.Deep.DeepCutAuto
namespace Go.Proofs.Ythnjbiojimjlgaa
open Go.RowKit
open Al

/-- the row g holds the lists L, each with room for what it has, none too long -/
def Held (w : World) (g : Nat) (L : List (List ByteArray)) : Prop :=
  ∀ (j : Nat) (X : List ByteArray), L[j]? = some X → ∃ (Ax : Option Addr) (cx : Nat), w.cell? ⟨g, j, none⟩ = some (.slice Ax X.length cx) ∧ X.length ≤ cx ∧ Strs w w.heap.size Ax X ∧ Fit X
theorem Held.up {w w' : World} {g : Nat} {L : List (List ByteArray)} (h : Held w g L) (hb : Below w.heap.size w w') : Held w' g L := by
  intro j X hj
  obtain ⟨Ax, cx, h1, h2, h3, h4⟩ := h j X hj
  exact ⟨Ax, cx, (hb.cell (p := ⟨g, j, none⟩) (lt_of_cell h1)).trans h1, h2, h3.up hb, h4⟩
theorem Held.lsts {w : World} {g : Nat} {L : List (List ByteArray)} (h : Held w g L) (k : Nat) : Lsts w w.heap.size (some ⟨g, 0, none⟩) (L.take k) := fun hn => by
  have h0 : ∃ X, L[0]? = some X := by
    cases L with
    | nil => simp at hn
    | cons X L => exact ⟨X, rfl⟩
  obtain ⟨X0, hX0⟩ := h0
  obtain ⟨_, _, hc, _, _, _⟩ := h 0 X0 hX0
  refine ⟨_, rfl, lt_of_cell hc, fun j X hj => ?_⟩
  rw [List.getElem?_take] at hj
  split at hj
  · obtain ⟨Ax, cx, h1, _, h3, _⟩ := h j X hj
    exact ⟨Ax, cx, by rw [add_zero_off]; exact h1, h3⟩
  · cases hj
/-- a value that is a list of texts that fits -/
def IsList (w : World) (v : Value) (X : List ByteArray) : Prop := ∃ (A : Option Addr) (c : Nat), v = .slice A X.length c ∧ X.length ≤ c ∧ Strs w w.heap.size A X ∧ Fit X
theorem held_new (w : World) (vs : List Value) (L : List (List ByteArray)) (h : ∀ (j : Nat) (X : List ByteArray), L[j]? = some X → ∃ v, vs[j]? = some v ∧ IsList w v X) : Held (w.alloc (.cells vs.toArray 22)) w.heap.size L := by
  intro j X hj
  obtain ⟨v, hv, A, c, rfl, h1, h2, h3⟩ := h j X hj
  refine ⟨A, c, ?_, h1, (h2.alloc (Nat.le_refl _) _).more (by simp), h3⟩
  rw [cell_of_row _ w.heap.size j _ 22 (0, 0) (heap_alloc_new w _)]
  simp [hv]
theorem IsList.up {w w' : World} {v : Value} {X : List ByteArray} (h : IsList w v X) (hb : Below w.heap.size w w') : IsList w' v X := by
  obtain ⟨A, c, e, h1, h2, h3⟩ := h
  exact ⟨A, c, e, h1, h2.up hb, h3⟩
/-- behind the statement that lays the lists -/
def Laid (w : World) (s12 : Value) (wx : World) : Prop := ∃ g L, s12 = .slice (some ⟨g, 0, none⟩) 5 5 ∧ L.length = 5 ∧ Held wx g L ∧ Below w.heap.size w wx
theorem laid_new {w w4 : World} (v0 v1 v2 v3 v4 : Value) (X0 X1 X2 X3 X4 : List ByteArray) (hb : Below w.heap.size w w4) (h0 : IsList w4 v0 X0) (h1 : IsList w4 v1 X1) (h2 : IsList w4 v2 X2) (h3 : IsList w4 v3 X3) (h4 : IsList w4 v4 X4) :
    Laid w (.slice (some ⟨w4.heap.size, 0, none⟩) 5 5) (w4.alloc (.cells #[v0, v1, v2, v3, v4] 22)) := by
  refine ⟨_, [X0, X1, X2, X3, X4], rfl, rfl, held_new w4 [v0, v1, v2, v3, v4] _ ?_, hb.alloc hb.size _⟩
  intro j X hj
  match j with
  | 0 => injection hj with e; subst e; exact ⟨_, rfl, h0⟩
  | 1 => injection hj with e; subst e; exact ⟨_, rfl, h1⟩
  | 2 => injection hj with e; subst e; exact ⟨_, rfl, h2⟩
  | 3 => injection hj with e; subst e; exact ⟨_, rfl, h3⟩
  | 4 => injection hj with e; subst e; exact ⟨_, rfl, h4⟩
  | j + 5 => simp at hj

theorem refCommon_b (A B : Option Addr) (ss ts : List ByteArray) (c d : Nat) (w : World) (ha : Strs w w.heap.size A ss) (hb : Strs w w.heap.size B ts) (hc : ss.length ≤ c) (h1 : Fit ss) (h2 : Fit ts) :
    Calls Try.prog 11 #[.slice A ss.length c, .slice B ts.length d] w fun e w' => e = .returned (.int .i64 (cm ss ts : Int)) ∧ Below w.heap.size w w' :=
  (refCommon_any A B ss ts c d _ w ha hb hc h1.1 h2.1).mono fun _ _ ⟨he, hn⟩ => ⟨he, Drew.below hn⟩
theorem refScore_b (A B : Option Addr) (ss ts : List ByteArray) (c d : Nat) (w : World) (ha : Strs w w.heap.size A ss) (hb : Strs w w.heap.size B ts) (hc : ss.length ≤ c) (h1 : Fit ss) (h2 : Fit ts) :
    Calls Try.prog 13 #[.slice A ss.length c, .slice B ts.length d] w fun e w' => e = .returned (.int .i64 (score ss ts : Int)) ∧ Below w.heap.size w w' :=
  (refScore_any A B ss ts c d _ w ha hb hc h1.1 h2.1).mono fun _ _ ⟨he, hn⟩ => ⟨he, Drew.below hn⟩
theorem common_b (A B : Option Addr) (ss ts : List ByteArray) (c d : Nat) (w : World) (ha : Strs w w.heap.size A ss) (hb : Strs w w.heap.size B ts) (h1 : Fit ss) (h2 : Fit ts) :
    Calls Try.prog 10 #[.slice A ss.length c, .slice B ts.length d] w fun e w' => e = .returned (.int .i64 (cm ss ts : Int)) ∧ Below w.heap.size w w' := common_any A B ss ts c d w ha hb h1.1 h2.1 h1.2 h2.2
theorem score_b (A B : Option Addr) (ss ts : List ByteArray) (c d : Nat) (w : World) (ha : Strs w w.heap.size A ss) (hb : Strs w w.heap.size B ts) (h1 : Fit ss) (h2 : Fit ts) :
    Calls Try.prog 12 #[.slice A ss.length c, .slice B ts.length d] w fun e w' => e = .returned (.int .i64 (score ss ts : Int)) ∧ Below w.heap.size w w' := score_any A B ss ts c d w ha hb h1.1 h2.1 h1.2 h2.2
/-- Best of the first lists; what it tells is known -/
theorem best_first (A B : Option Addr) (ss : List ByteArray) (L : List (List ByteArray)) (n c d : Nat) (w : World) (ha : Strs w w.heap.size A ss) (hb : Lsts w w.heap.size B L) (hn : L.length = n) (h1 : Fit ss) (h2 : n ≤ 65536) (h3 : ∀ X ∈ L, Fit X) (p : Int) (m : Nat) (hbest : IsBest ss L p m) :
    Calls Try.prog 14 #[.slice A ss.length c, .slice B n d] w fun e w' => e = .returned (.tuple #[.int .i64 p, .int .i64 (m : Int)]) ∧ Below w.heap.size w w' :=
  best_at A B ss L ss.length n c d p m m w ha hb rfl hn h1 h2 h3 hbest rfl
theorem refBest_first (A B : Option Addr) (ss : List ByteArray) (L : List (List ByteArray)) (n c d : Nat) (w : World) (ha : Strs w w.heap.size A ss) (hb : Lsts w w.heap.size B L) (hn : L.length = n) (hc : ss.length ≤ c) (h1 : Fit ss) (h2 : n ≤ 65536) (h3 : ∀ X ∈ L, Fit X) (p : Int) (m : Nat) (hbest : IsBest ss L p m) :
    Calls Try.prog 15 #[.slice A ss.length c, .slice B n d] w fun e w' => e = .returned (.tuple #[.int .i64 p, .int .i64 (m : Int)]) ∧ Below w.heap.size w w' := by
  subst hn
  refine (refBest_any A B ss L c d _ w ha hb hc h1.1 h2 (fun X hX => (h3 X hX).1)).mono ?_
  rintro e w' ⟨p', m', hb', rfl, hbw⟩
  obtain ⟨rfl, rfl⟩ := hb'.one hbest
  exact ⟨rfl, hbw⟩
/-- there is a best one -/
theorem best_there (a : List ByteArray) : ∀ (L : List (List ByteArray)), ∃ (p : Int) (m : Nat), IsBest a L p m ∧ -1 ≤ p ∧ p ≤ L.length ∧ m ≤ 100 := by
  intro L
  suffices h : ∀ k, k ≤ L.length → ∃ (p : Int) (m : Nat), IsBest a (L.take k) p m ∧ -1 ≤ p ∧ p ≤ k ∧ m ≤ 100 by
    obtain ⟨p, m, h1, h2, h3, h4⟩ := h L.length (Nat.le_refl _)
    rw [List.take_length] at h1
    exact ⟨p, m, h1, h2, h3, h4⟩
  intro k
  induction k with
  | zero => intro _; exact ⟨-1, 0, by rw [List.take_zero]; exact IsBest.none_ a, by omega, by omega, by omega⟩
  | succ k ih =>
    intro hk
    obtain ⟨p, m, h1, h2, h3, h4⟩ := ih (by omega)
    have := best_step (by omega) h1 (List.getElem?_eq_getElem (show k < L.length by omega))
    refine ⟨_, _, this, ?_, ?_, ?_⟩
    · split <;> omega
    · split <;> omega
    · split
      · exact score_le _ _
      · exact h4

theorem two_drew {wr W : World} {g i k : Nat} {vi vk : Value} (h : W.cell? ⟨g, i, none⟩ = some vi ∧ W.cell? ⟨g, k, none⟩ = some vk ∧ Below wr.heap.size wr W) : W.drew.cell? ⟨g, i, none⟩ = some vi ∧ W.drew.cell? ⟨g, k, none⟩ = some vk ∧ Below wr.heap.size wr W.drew := ⟨h.1, h.2.1, h.2.2.drew⟩
theorem two_below {wr W W' : World} {g i k : Nat} {vi vk : Value} (h : W.cell? ⟨g, i, none⟩ = some vi ∧ W.cell? ⟨g, k, none⟩ = some vk ∧ Below wr.heap.size wr W) (hb : Below W.heap.size W W') : W'.cell? ⟨g, i, none⟩ = some vi ∧ W'.cell? ⟨g, k, none⟩ = some vk ∧ Below wr.heap.size wr W' :=
  ⟨(hb.cell (p := ⟨g, i, none⟩) (lt_of_cell h.1)).trans h.1, (hb.cell (p := ⟨g, k, none⟩) (lt_of_cell h.2.1)).trans h.2.1, h.2.2.trans (hb.mono h.2.2.size)⟩

set_option maxHeartbeats 6000000 in
set_option maxRecDepth 100000 in
theorem tells_walk (A B C D E : Option Addr) (ss ts : List ByteArray) (xs ys zs : List Int) (ca cb cc cd ce : Nat) (w : World) (ha : Strs w w.heap.size A ss) (hb : Strs w w.heap.size B ts) (hc : Ints w w.heap.size C xs) (hd : Ints w w.heap.size D ys) (he : Ints w w.heap.size E zs)
    (h1 : ss.length ≤ 140737488355328) (h2 : ts.length ≤ 140737488355328) (h1c : ss.length ≤ ca) (h2c : ts.length ≤ cb) (h3 : xs.length ≤ 140737488355328) (h4 : ys.length ≤ 140737488355328) (h5 : zs.length ≤ 140737488355328)
    (hss : ∀ s ∈ ss, s.size ≤ maxLen) (hts : ∀ s ∈ ts, s.size ≤ maxLen)
    (hx : ∀ z ∈ xs, -9223372036854775808 ≤ z ∧ z ≤ 9223372036854775807) (hy : ∀ z ∈ ys, -9223372036854775808 ≤ z ∧ z ≤ 9223372036854775807) (hz : ∀ z ∈ zs, -9223372036854775808 ≤ z ∧ z ≤ 9223372036854775807) :
    Calls Try.prog 3 #[.slice A ss.length ca, .slice B ts.length cb, .slice C xs.length cc, .slice D ys.length cd, .slice E zs.length ce] w fun e w' => e = .returned (.bool true) ∧ Below w.heap.size w w' := by
  have HSS := Lib.hid hss
  have HTS := Lib.hid hts
  have HX := Lib.hid hx
  have HY := Lib.hid hy
  have HZ := Lib.hid hz
  clear hss hts hx hy hz
  go_enter Try.func3, Try.ntmps3
  go_wp2_with fail
  refine (awake_any _).mono ?_
  rintro e w1 ⟨rfl, hb1⟩
  go_wp2_with fail
  obtain ⟨n1, hn1⟩ : ∃ n1 : Nat, n1 = (ss.take 20).length := ⟨_, rfl⟩
  obtain ⟨n2, hn2⟩ : ∃ n2 : Nat, n2 = (ts.take 20).length := ⟨_, rfl⟩
  have hn1' : n1 = min 20 ss.length := by rw [hn1, List.length_take]
  have hn2' : n2 = min 20 ts.length := by rw [hn2, List.length_take]
  have m1 : n1 ≤ ca := by omega
  have m2 : n2 ≤ cb := by omega
  have m5 : n1 ≤ 20 := by omega
  have m6 : n2 ≤ 20 := by omega
  have i1 : (if (20 : Int) < (ss.length : Int) then (20 : Int) else (ss.length : Int)) = (n1 : Int) := by split <;> omega
  have i2 : (if (20 : Int) < (ts.length : Int) then (20 : Int) else (ts.length : Int)) = (n2 : Int) := by split <;> omega
  have HN1 := Lib.hid hn1
  have HN2 := Lib.hid hn2
  clear hn1 hn2 hn1' hn2'
  go_cut [12] (fun s12 wx => Laid w s12 wx)
  case first =>
    have hbw : Below w.heap.size w w1.drew := hb1.drew
    clear hb1
    go_region_law ((first | (go_simp; (with_reducible refine (lines_at 30 30 rfl (by omega) (by omega) C xs cc _ (hc.up hbw) h3 HX.out).mono ?_); rintro e w3 ⟨A3, c3, rfl, ho3, hc3, hb3⟩; replace hbw := hbw.trans (hb3.mono hbw.size); clear hb3; dsimp only) | (go_simp; (with_reducible refine (lines_at 30 30 rfl (by omega) (by omega) D ys cd _ (hd.up hbw) h4 HY.out).mono ?_); rintro e w4 ⟨A4, c4, rfl, ho4, hc4, hb4⟩; replace hbw := hbw.trans (hb4.mono hbw.size); replace ho3 := ho3.up hb4; clear hb4; dsimp only) | (go_simp; (with_reducible refine (lines_at 30 30 rfl (by omega) (by omega) E zs ce _ (he.up hbw) h5 HZ.out).mono ?_); rintro e w5 ⟨A5, c5, rfl, ho5, hc5, hb5⟩; replace hbw := hbw.trans (hb5.mono hbw.size); replace ho3 := ho3.up hb5; replace ho4 := ho4.up hb5; clear hb5; dsimp only)))
    all_goals
      go_simp
      go_wp2_with fail
      go_meet
      exact laid_new _ _ _ _ _ (ss.take 20) (ts.take 20) (linesL 30 xs) (linesL 30 ys) (linesL 30 zs) hbw ⟨A, ca, by rw [HN1.out], by rw [← HN1.out]; exact m1, (ha.take 20).up hbw, by rw [← HN1.out]; omega, fun s hs => HSS.out s (List.mem_of_mem_take hs)⟩ ⟨B, cb, by rw [HN2.out], by rw [← HN2.out]; exact m2, (hb.take 20).up hbw, by rw [← HN2.out]; omega, fun s hs => HTS.out s (List.mem_of_mem_take hs)⟩ ⟨A3, c3, rfl, hc3, ho3, lines_fit (by omega) xs⟩ ⟨A4, c4, rfl, hc4, ho4, lines_fit (by omega) ys⟩ ⟨A5, c5, rfl, hc5, ho5, lines_fit (by omega) zs⟩
  case rest =>
  obtain ⟨g, L, rfl, hL5, hH, hbx⟩ := hcut
  have HL5 := Lib.hid hL5
  clear hL5 i1 i2 m1 m2 m5 m6 HN1 HN2 ha hb hc hd he HSS HTS HX HY HZ hb1
  go_wp2_with fail
  go_loopw [13] (fun s13 wr => ∃ i : Nat, i ≤ 5 ∧ s13 = .int .i64 i ∧ Held wr g L ∧ Below w.heap.size w wr) (fun s13 _ => 5 - (intOf s13).toNat)
  case atStart => exact ⟨0, by omega, rfl, hH, hbx⟩
  case round =>
    obtain ⟨i, hi, rfl, hH', hbx'⟩ := hrel
    clear hH hbx
    by_cases g1 : i < 5
    · have g1' : (i : Int) < 5 := by omega
      obtain ⟨X, hX⟩ : ∃ X, L[i]? = some X := ⟨_, List.getElem?_eq_getElem (by rw [HL5.out]; omega)⟩
      have HXX := Lib.hid hX
      clear hX
      go_wp2_with fail
      go_loopw [14] (fun s14 wr => ∃ k : Nat, k ≤ 5 ∧ s14 = .int .i64 k ∧ Held wr g L ∧ Below w.heap.size w wr) (fun s14 _ => 5 - (intOf s14).toNat)
      case atStart => exact ⟨0, by omega, rfl, hH', hbx'⟩
      case round =>
        obtain ⟨k, hk, rfl, hH2, hb2⟩ := hrel
        clear hH' hbx'
        obtain ⟨Ai, ci, hcell, hci, hsi, hfi⟩ := hH2 i X HXX.out
        have FI := Lib.hid hfi
        have SI : Hid (∀ W, Below wr.heap.size wr W → Strs W W.heap.size Ai X) := Lib.hid fun W hB => hsi.up hB
        clear hfi hsi
        by_cases g2 : k < 5
        · have g2' : (k : Int) < 5 := by omega
          obtain ⟨Y, hY⟩ : ∃ Y, L[k]? = some Y := ⟨_, List.getElem?_eq_getElem (by rw [HL5.out]; omega)⟩
          obtain ⟨Ak, ck, hcell2, hck, hsk, hfk⟩ := hH2 k Y hY
          have FK := Lib.hid hfk
          have SK : Hid (∀ W, Below wr.heap.size wr W → Strs W W.heap.size Ak Y) := Lib.hid fun W hB => hsk.up hB
          clear hfk hsk hY
          have hBr : Below wr.heap.size wr wr := Below.refl _ _
          have HH2 := Lib.hid hH2
          clear hH2
          go_wp2_with fail
          go_region_held3 (fun W => W.cell? ⟨g, i, none⟩ = some (.slice Ai X.length ci) ∧ W.cell? ⟨g, k, none⟩ = some (.slice Ak Y.length ck) ∧ Below wr.heap.size wr W)
            (first | exact two_drew (by go_split_ands; exact ⟨by assumption, by assumption, by assumption⟩) | (go_split_ands; refine two_below ⟨?_, ?_, ?_⟩ hb <;> assumption))
            (first | (go_at_call 10; go_split_ands; refine (common_b Ai Ak X Y ci ck _ (SI.out _ (by assumption)) (SK.out _ (by assumption)) FI.out FK.out).mono ?_; rintro e w' ⟨rfl, hb⟩) | (go_at_call 11; go_split_ands; refine (refCommon_b Ai Ak X Y ci ck _ (SI.out _ (by assumption)) (SK.out _ (by assumption)) hci FI.out FK.out).mono ?_; rintro e w' ⟨rfl, hb⟩) | (go_at_call 12; go_split_ands; refine (score_b Ai Ak X Y ci ck _ (SI.out _ (by assumption)) (SK.out _ (by assumption)) FI.out FK.out).mono ?_; rintro e w' ⟨rfl, hb⟩) | (go_at_call 13; go_split_ands; refine (refScore_b Ai Ak X Y ci ck _ (SI.out _ (by assumption)) (SK.out _ (by assumption)) hci FI.out FK.out).mono ?_; rintro e w' ⟨rfl, hb⟩))
          all_goals
            go_split_ands
            have hbl : Below wr.heap.size wr w' := by assumption
            go_wp2_with fail
            go_roundw
            case rel => exact ⟨k + 1, by omega, by go_num, HH2.out.up hbl, hb2.trans (hbl.mono hb2.size)⟩
            case measure => simp [intOf]; omega
        · obtain ⟨p, m, hbest, hp1, hp2, hm⟩ := best_there X (L.take i)
          have htl : (L.take i).length = i := by rw [List.length_take, HL5.out]; omega
          rw [htl] at hp2
          have HB := Lib.hid hbest
          have HTL := Lib.hid htl
          have LS : Hid (∀ W, Below wr.heap.size wr W → Lsts W W.heap.size (some ⟨g, 0, none⟩) (L.take i)) := Lib.hid fun W hB => (hH2.up hB).lsts i
          have hfl : ∀ Z ∈ L.take i, Fit Z := fun Z hZ => by
            obtain ⟨j, hj⟩ := List.mem_iff_getElem?.1 (List.mem_of_mem_take hZ)
            obtain ⟨_, _, _, _, _, h⟩ := hH2 j Z hj
            exact h
          have HFL := Lib.hid hfl
          have HH2 := Lib.hid hH2
          clear hbest htl hfl hH2
          have hBr : Below wr.heap.size wr wr := Below.refl _ _
          have hi5 : (i : Int) ≤ 5 := by omega
          have hi0 : (0 : Int) ≤ (i : Int) := by omega
          go_wp2_with fail
          go_region_held3 (fun W => W.cell? ⟨g, i, none⟩ = some (.slice Ai X.length ci) ∧ W.cell? ⟨g, i, none⟩ = some (.slice Ai X.length ci) ∧ Below wr.heap.size wr W)
            (first | exact two_drew (by go_split_ands; exact ⟨by assumption, by assumption, by assumption⟩) | (go_split_ands; refine two_below ⟨?_, ?_, ?_⟩ hb <;> assumption))
            (first | (go_at_call 14; go_split_ands; refine (best_first Ai (some ⟨g, 0, none⟩) X (L.take i) i ci 5 _ (SI.out _ (by assumption)) (LS.out _ (by assumption)) HTL.out FI.out (by omega) HFL.out p m HB.out).mono ?_; rintro e w' ⟨rfl, hb⟩))
          all_goals
            go_split_ands
            have hbl : Below wr.heap.size wr w' := by assumption
            have hcell' : w'.cell? ⟨g, i, none⟩ = some (.slice Ai X.length ci) := by assumption
            go_wp2_with fail
            go_region_held3 (fun W => W.cell? ⟨g, i, none⟩ = some (.slice Ai X.length ci) ∧ W.cell? ⟨g, i, none⟩ = some (.slice Ai X.length ci) ∧ Below wr.heap.size wr W)
              (first | exact two_drew (by go_split_ands; exact ⟨by assumption, by assumption, by assumption⟩) | (go_split_ands; refine two_below ⟨?_, ?_, ?_⟩ hb <;> assumption))
              (first | (go_at_call 15; go_split_ands; refine (refBest_first Ai (some ⟨g, 0, none⟩) X (L.take i) i ci 5 _ (SI.out _ (by assumption)) (LS.out _ (by assumption)) HTL.out hci FI.out (by omega) HFL.out p m HB.out).mono ?_; rintro e w'' ⟨rfl, hb⟩))
            all_goals
              go_split_ands
              have hbl2 : Below wr.heap.size wr w'' := by assumption
              go_wp2_with fail
              go_roundw
              case rel => exact ⟨i + 1, by omega, by go_num, HH2.out.up hbl2, hb2.trans (hbl2.mono hb2.size)⟩
              case measure => simp [intOf]; omega
    · go_wp2_with fail
      go_ret
      exact ⟨rfl, hbx'⟩

end Go.Proofs.Ythnjbiojimjlgaa
