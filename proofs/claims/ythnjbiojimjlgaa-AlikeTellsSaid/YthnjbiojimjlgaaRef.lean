/-
  collatorref07.Common, Score and Best: the document's own answers are those of plain mathematics. Nothing that was there is changed.
-/
import Derived.Test.YthnjbiojimjlgaaAwake
namespace Go.Proofs.Ythnjbiojimjlgaa
open Go.RowKit
open Al

namespace Al
variable {α : Type} [DecidableEq α]
/-- one line more -/
theorem cm_snoc (l b : List α) (x : α) : cm (l ++ [x]) b = cm l b + if cnt x l < cnt x b then 1 else 0 := by
  unfold cnt
  by_cases h : l.count x < b.count x
  · rw [if_pos h, cm_eq (l := inter b l ++ [x])]
    · rw [List.length_append]; rfl
    · intro y
      rw [List.count_append, inter_count, List.count_append, List.count_cons, List.count_nil]
      by_cases e : x = y
      · subst e; simp; omega
      · have e' : (x == y) = false := by simpa using e
        simp [e']; omega
  · rw [if_neg h, cm_eq (l := inter b l)]
    · rfl
    · intro y
      rw [inter_count, List.count_append, List.count_cons, List.count_nil]
      by_cases e : x = y
      · subst e; simp; omega
      · have e' : (x == y) = false := by simpa using e
        simp [e']; omega
end Al

theorem count_at (A : Option Addr) (ss : List ByteArray) (l c H : Nat) (s : ByteArray) (w : World) (ha : Strs w H A ss) (hl : ss.length = l) (h1 : l ≤ 65536) :
    Calls Try.prog 21 #[.slice A l c, .string s] w fun e w' => e = .returned (.int .i64 (cnt s ss : Int)) ∧ w = w' := by
  subst hl
  exact count_any A ss c H s w ha h1
/-- nothing but draws -/
def Drew (w w' : World) : Prop := ∃ n, w' = w.drewN n
theorem Drew.refl (w : World) : Drew w w := ⟨0, rfl⟩
theorem Drew.more {w w' : World} (h : Drew w w') (n : Nat) : Drew w (w'.drewN n) := by
  obtain ⟨m, rfl⟩ := h
  exact ⟨m + n, by rw [World.drewN_drewN]⟩
theorem Drew.trans {w w' w'' : World} (h : Drew w w') (g : Drew w' w'') : Drew w w'' := by
  obtain ⟨n, rfl⟩ := g
  exact h.more n
theorem Drew.strs {w w' : World} (h : Drew w w') {H : Nat} {A : Option Addr} {ss : List ByteArray} (hs : Strs w H A ss) : Strs w' H A ss := by
  obtain ⟨n, rfl⟩ := h
  exact hs
theorem Drew.lsts {w w' : World} (h : Drew w w') {H : Nat} {A : Option Addr} {L : List (List ByteArray)} (hs : Lsts w H A L) : Lsts w' H A L := by
  obtain ⟨n, rfl⟩ := h
  exact hs
theorem Drew.below {w w' : World} (h : Drew w w') : Below w.heap.size w w' := by
  obtain ⟨n, rfl⟩ := h
  exact below_drewN (Below.refl _ _) n

set_option maxHeartbeats 400000 in
set_option maxRecDepth 100000 in
theorem refCommon_any (A B : Option Addr) (ss ts : List ByteArray) (c d H : Nat) (w : World) (ha : Strs w H A ss) (hb : Strs w H B ts) (hc : ss.length ≤ c) (h1 : ss.length ≤ 65536) (h2 : ts.length ≤ 65536) :
    Calls Try.prog 11 #[.slice A ss.length c, .slice B ts.length d] w fun e w' => e = .returned (.int .i64 (cm ss ts : Int)) ∧ ∃ n, w' = w.drewN n := by
  go_enter Try.func11, Try.ntmps11
  go_wp2_with fail
  go_loopw [5, 6] (fun n i wr => ∃ k : Nat, k ≤ ss.length ∧ i = .int .i64 k ∧ n = .int .i64 (cm (ss.take k) ts : Int) ∧ Drew w wr) (fun _ i _ => ss.length - (intOf i).toNat)
  case atStart => exact ⟨0, Nat.zero_le _, rfl, by rw [List.take_zero, cm_nil_left]; rfl, Drew.refl w⟩
  case round =>
    obtain ⟨k, hk, rfl, rfl, hD⟩ := hrel
    have ha' := hD.strs ha
    have hb' := hD.strs hb
    have hcl := cm_le_left (ss.take k) ts
    have hkl : (ss.take k).length ≤ k := List.length_take_le _ _
    by_cases g1 : k < ss.length
    · obtain ⟨a, rfl, hab, hca0⟩ := ha'.at_ g1
      obtain ⟨x, hx⟩ : ∃ x, x = ss[k] := ⟨_, rfl⟩
      have hca : wr.cell? (a.add k) = some (.string x) := by rw [hx]; exact hca0
      have hst : ss.take (k + 1) = ss.take k ++ [x] := by rw [hx, List.take_succ_eq_append_getElem g1]
      have hs := cm_snoc (ss.take k) ts x
      rw [← hst] at hs
      have HS := Lib.hid hs
      have hkc : k ≤ c := by omega
      have htk : (ss.take k).length = k := by rw [List.length_take]; omega
      obtain ⟨T, hT⟩ : ∃ T, T = ss.take k := ⟨_, rfl⟩
      have hTs : Strs wr H (some a) T := by rw [hT]; exact ha'.take k
      rw [← hT] at hcl HS htk ⊢
      clear hca0 hx hst hs hT
      have HTL := Lib.hid htk
      have hTl : T.length ≤ 65536 := by omega
      clear htk
      go_wp2_with fail
      go_quiet ((go_at_call 21; exact (count_at (some a) T k c H x _ (hTs.drewN _) HTL.out (by omega)).mono fun _ _ ⟨he, hm⟩ => ⟨he, _, hm.symm⟩))
      go_wp2_with fail
      refine (count_any B ts d H x _ (hb'.drewN nq) (by omega)).mono ?_
      rintro e w5 ⟨rfl, rfl⟩
      by_cases g2 : cnt x T < cnt x ts
      · have g2' : decide (cnt x T < cnt x ts) = true := decide_eq_true g2
        rw [if_pos g2] at HS
        clear g2
        go_wp2_with fail
        go_roundw
        case rel => exact ⟨k + 1, by omega, by go_num, by rw [HS.out]; go_num, hD.more nq⟩
        case measure => simp [intOf]; omega
      · have g2' : decide (cnt x T < cnt x ts) = false := decide_eq_false g2
        rw [if_neg g2] at HS
        clear g2
        go_wp2_with fail
        go_roundw
        case rel => exact ⟨k + 1, by omega, by go_num, by rw [HS.out]; rfl, hD.more nq⟩
        case measure => simp [intOf]; omega
    · have hkt : ss.take k = ss := List.take_of_length_le (by omega)
      rw [hkt]
      clear hkt hcl hkl
      go_wp2_with fail
      go_ret
      exact ⟨rfl, hD⟩

set_option maxHeartbeats 400000 in
set_option maxRecDepth 100000 in
theorem refScore_any (A B : Option Addr) (ss ts : List ByteArray) (c d H : Nat) (w : World) (ha : Strs w H A ss) (hb : Strs w H B ts) (hc : ss.length ≤ c) (h1 : ss.length ≤ 65536) (h2 : ts.length ≤ 65536) :
    Calls Try.prog 13 #[.slice A ss.length c, .slice B ts.length d] w fun e w' => e = .returned (.int .i64 (score ss ts : Int)) ∧ ∃ n, w' = w.drewN n := by
  by_cases h0 : ss.length + ts.length = 0
  · have e : score ss ts = 100 := by unfold score; rw [if_pos h0]
    have e0 : (((ss.length : Int) == 0) : Bool) = true := by rw [beq_iff_eq]; omega
    have e1 : (((ts.length : Int) == 0) : Bool) = true := by rw [beq_iff_eq]; omega
    have E := Lib.hid e
    clear e h0
    go_enter Try.func13, Try.ntmps13
    go_wp2_with fail
    go_ret
    exact ⟨by rw [E.out]; rfl, 0, rfl⟩
  · have e : (score ss ts : Int) = 200 * (cm ss ts : Int) / ((ss.length : Int) + (ts.length : Int)) := by unfold score; rw [if_neg h0]; simp
    have e0 : (((ss.length : Int) + (ts.length : Int) == 0) : Bool) = false := by rw [beq_eq_false_iff_ne]; omega
    have E := Lib.hid e
    have hcm := cm_le_left ss ts
    have hpos : 0 < ss.length + ts.length := by omega
    clear e
    have hx : (((ss.length : Int) == 0) : Bool) = false ∨ ((((ss.length : Int) == 0) : Bool) = true ∧ (((ts.length : Int) == 0) : Bool) = false) := by
      by_cases hh : ss.length = 0
      · exact .inr ⟨by rw [beq_iff_eq]; omega, by rw [beq_eq_false_iff_ne]; omega⟩
      · exact .inl (by rw [beq_eq_false_iff_ne]; omega)
    clear h0
    rcases hx with hx | ⟨hx, hx2⟩
    all_goals
      go_enter Try.func13, Try.ntmps13
      go_wp2_with fail
      refine (refCommon_any A B ss ts c d H _ ha hb hc h1 h2).mono ?_
      rintro e w1 ⟨rfl, n, rfl⟩
      go_wp2_with fail
      go_ret
      exact ⟨ret_int (by rw [E.out]), n, rfl⟩

/-- how the document's loop stands -/
def RbAt (a : List ByteArray) (L : List (List ByteArray)) (k : Nat) (w wr : World) (v : Value) : Prop := ∃ j m : Nat, v = .int .i64 (j : Int) ∧ j < k ∧ IsBest a (L.take k) j m ∧ Drew w wr

set_option maxHeartbeats 400000 in
set_option maxRecDepth 100000 in
theorem refBest_any (A B : Option Addr) (ss : List ByteArray) (L : List (List ByteArray)) (c d H : Nat) (w : World) (ha : Strs w H A ss) (hb : Lsts w H B L) (hc : ss.length ≤ c) (h1 : ss.length ≤ 65536) (h2 : L.length ≤ 65536) (h3 : ∀ X ∈ L, X.length ≤ 65536) :
    Calls Try.prog 15 #[.slice A ss.length c, .slice B L.length d] w fun e w' => Bst ss L w e w' := by
  have H3 := Lib.hid h3
  clear h3
  by_cases h0 : L = []
  · subst h0
    go_enter Try.func15, Try.ntmps15
    go_wp2_with fail
    go_ret2
    exact ⟨-1, 0, IsBest.none_ ss, rfl, Below.refl _ _⟩
  · have hpos : 0 < L.length := List.length_pos_iff.2 h0
    have e0 : (((L.length : Int) == 0) : Bool) = false := by rw [beq_eq_false_iff_ne]; omega
    have hst : IsBest ss (L.take 1) 0 (score ss L[0]) := by
      have := best_step (a := ss) (L := L) (k := 0) hpos (by rw [List.take_zero]; exact IsBest.none_ ss) (List.getElem?_eq_getElem hpos)
      rwa [if_pos (by omega), if_pos (by omega)] at this
    have HST := Lib.hid hst
    clear hst h0
    go_enter Try.func15, Try.ntmps15
    go_wp2_with fail
    clear e0
    go_loopw [6, 7] (fun v i wr => ∃ k : Nat, 1 ≤ k ∧ k ≤ L.length ∧ i = .int .i64 k ∧ RbAt ss L k w wr v) (fun _ i _ => L.length - (intOf i).toNat)
    case atStart => exact ⟨1, by omega, hpos, rfl, 0, _, rfl, by omega, HST.out, Drew.refl w⟩
    case round =>
      obtain ⟨k, hk0, hk, rfl, j, m, rfl, hj, hbest, hD⟩ := hrel
      have ha' := hD.strs ha
      have hb' := hD.lsts hb
      have HB := Lib.hid hbest
      have hmo : ∃ o, L[j]? = some o ∧ m = score ss o := by
        rcases HB.out with ⟨_, h, _⟩ | ⟨j', h, ⟨o, ho, hm⟩, _⟩
        · omega
        · have : j = j' := by omega
          subst this
          refine ⟨o, ?_, hm⟩
          rw [List.getElem?_take, if_pos hj] at ho
          exact ho
      obtain ⟨o, ho, hmo⟩ := hmo
      obtain ⟨hjl, ho'⟩ := List.getElem?_eq_some_iff.1 ho
      have hsc := score_le ss o
      rw [hmo] at HB
      clear hbest hmo HST
      obtain ⟨a, Ao, co, rfl, hab, hco0, hso0⟩ := hb'.at_ hjl
      rw [ho'] at hco0 hso0
      have hol := H3.out o (List.mem_of_getElem? ho)
      clear ho'
      by_cases g1 : k < L.length
      · obtain ⟨a', Ax, cx, haa, _, hca0, hx0⟩ := hb'.at_ g1
        injection haa with haa
        subst haa
        obtain ⟨X, hX⟩ : ∃ X, X = L[k] := ⟨_, rfl⟩
        rw [← hX] at hca0 hx0
        have HX := Lib.hid (at_getD g1 hX)
        have hxl := H3.out X (List.mem_of_getElem? HX.out)
        have HN := Lib.hid (best_step g1 HB.out HX.out)
        clear hX ho
        go_wp2_with fail
        go_quiet ((go_at_call 13; first | (with_reducible exact Calls.quiet_of (refScore_any A Ax ss X c cx H _ (ha'.drewN _) (hx0.drewN _) hc h1 hxl)) | (with_reducible exact Calls.quiet_of (refScore_any A Ao ss o c co H _ (ha'.drewN _) (hso0.drewN _) hc h1 hol))))
        by_cases g3 : score ss o < score ss X
        · have g3' : decide (score ss o < score ss X) = true := decide_eq_true g3
          go_wp2_with fail
          go_roundw
          case rel => exact ⟨k + 1, by omega, by omega, by go_num, k, _, rfl, by omega, by have := HN.out; rwa [if_pos (.inr g3), if_pos (.inr g3)] at this, hD.more nq⟩
          case measure => simp [intOf]; omega
        · have g3' : decide (score ss o < score ss X) = false := decide_eq_false g3
          go_wp2_with fail
          go_roundw
          case rel => exact ⟨k + 1, by omega, by omega, by go_num, j, _, rfl, by omega, by have := HN.out; rwa [if_neg (by omega), if_neg (by omega)] at this, hD.more nq⟩
          case measure => simp [intOf]; omega
      · have HE : IsBest ss L j (score ss o) := by have := HB.out; rwa [List.take_of_length_le (by omega)] at this
        clear ho
        go_wp2_with fail
        refine (refScore_any _ _ ss o _ _ H _ ha' hso0 hc h1 hol).mono ?_
        rintro e w5 ⟨rfl, n, rfl⟩
        go_wp2_with fail
        go_ret2
        exact ⟨(j : Int), score ss o, HE, rfl, (hD.more n).below⟩

end Go.Proofs.Ythnjbiojimjlgaa
