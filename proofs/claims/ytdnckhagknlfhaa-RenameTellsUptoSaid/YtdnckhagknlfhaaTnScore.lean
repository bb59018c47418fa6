/-
  collatorref07.count, Common and Score: the document's own answers are those of plain mathematics. Nothing that was there is changed.
-/
import Derived.Test.YtdnckhagknlfhaaRefA
namespace Go.Proofs.Ytdnckhagknlfhaa
open Go.RowKit
open Al

namespace Al
variable {α : Type} [DecidableEq α]
/-- one line more -/
theorem cm_snoc (l b : List α) (x : α) : cm (l ++ [x]) b = cm l b + if cnt x l < cnt x b then 1 else 0 := by
  unfold cnt
  by_cases h : l.count x < b.count x
  · rw [if_pos h, cm_eq (l := inter b l ++ [x])]
    · rw [List.length_append]; rfl
    · intro y
      rw [List.count_append, inter_count, List.count_append, List.count_cons, List.count_nil]
      by_cases e : x = y
      · subst e; simp; omega
      · have e' : (x == y) = false := by simpa using e
        simp [e']; omega
  · rw [if_neg h, cm_eq (l := inter b l)]
    · rfl
    · intro y
      rw [inter_count, List.count_append, List.count_cons, List.count_nil]
      by_cases e : x = y
      · subst e; simp; omega
      · have e' : (x == y) = false := by simpa using e
        simp [e']; omega
end Al

theorem cnt_take {s x : ByteArray} {ss : List ByteArray} {k : Nat} (hx : ss[k]? = some x) : cnt s (ss.take (k + 1)) = cnt s (ss.take k) + if x = s then 1 else 0 := by
  obtain ⟨hl, rfl⟩ := List.getElem?_eq_some_iff.1 hx
  rw [List.take_succ_eq_append_getElem hl, cnt_snoc]

theorem Drew.strs {w w' : World} (h : Drew w w') {H : Nat} {A : Option Addr} {ss : List ByteArray} (hs : Strs w H A ss) : Strs w' H A ss := by
  obtain ⟨n, rfl⟩ := h
  exact hs

set_option maxHeartbeats 2000000 in
set_option maxRecDepth 100000 in
theorem times_any (A : Option Addr) (ss : List ByteArray) (c H : Nat) (s : ByteArray) (w : World) (ha : Strs w H A ss) (h1 : ss.length ≤ 1048576) :
    Calls Try.prog 88 #[.slice A ss.length c, .string s] w fun e w' => e = .returned (.int .i64 (cnt s ss : Int)) ∧ w = w' := by
  go_enter Try.func88, Try.ntmps88
  go_wp2_with fail
  go_loop [5, 6] (fun n i => ∃ k : Nat, k ≤ ss.length ∧ i = .int .i64 k ∧ n = .int .i64 (cnt s (ss.take k) : Int)) (fun _ i => ss.length - (intOf i).toNat)
  case atStart => exact ⟨0, Nat.zero_le _, rfl, rfl⟩
  case round =>
    obtain ⟨k, hk, rfl, rfl⟩ := hrel
    have hcl := cnt_le s (ss.take k)
    have hkl : (ss.take k).length ≤ k := List.length_take_le _ _
    by_cases g1 : k < ss.length
    · obtain ⟨a, rfl, hab, hca0⟩ := ha.at_ g1
      obtain ⟨x, hx⟩ : ∃ x, x = ss[k] := ⟨_, rfl⟩
      have hca : w.cell? (a.add k) = some (.string x) := by rw [hx]; exact hca0
      have HC := Lib.hid (cnt_take (s := s) (at_getD g1 hx))
      clear hca0 hx
      go_wp2_with fail
      · have he : (x.toList == s.toList) = true := by assumption
        have e := same_of he
        go_round
        case rel => exact ⟨k + 1, by omega, by go_num, by rw [HC.out, if_pos e]; go_num⟩
        case measure => simp [intOf]; omega
      · have he : (x.toList == s.toList) = false := by assumption
        have e := unlike_of he
        go_round
        case rel => exact ⟨k + 1, by omega, by go_num, by rw [HC.out, if_neg e]; go_num⟩
        case measure => simp [intOf]; omega
    · have hkt : ss.take k = ss := List.take_of_length_le (by omega)
      rw [hkt]
      clear hkt
      go_wp2_with fail
      go_ret
      exact ⟨rfl, rfl⟩

theorem times_at (A : Option Addr) (ss : List ByteArray) (l c H : Nat) (s : ByteArray) (w : World) (ha : Strs w H A ss) (hl : ss.length = l) (h1 : l ≤ 1048576) :
    Calls Try.prog 88 #[.slice A l c, .string s] w fun e w' => e = .returned (.int .i64 (cnt s ss : Int)) ∧ w = w' := by
  subst hl
  exact times_any A ss c H s w ha h1
set_option maxHeartbeats 400000 in
set_option maxRecDepth 100000 in
theorem refCommon_any (A B : Option Addr) (ss ts : List ByteArray) (c d H : Nat) (w : World) (ha : Strs w H A ss) (hb : Strs w H B ts) (hc : ss.length ≤ c) (h1 : ss.length ≤ 1048576) (h2 : ts.length ≤ 1048576) :
    Calls Try.prog 63 #[.slice A ss.length c, .slice B ts.length d] w fun e w' => e = .returned (.int .i64 (cm ss ts : Int)) ∧ ∃ n, w' = w.drewN n := by
  go_enter Try.func63, Try.ntmps63
  go_wp2_with fail
  go_loopw [5, 6] (fun n i wr => ∃ k : Nat, k ≤ ss.length ∧ i = .int .i64 k ∧ n = .int .i64 (cm (ss.take k) ts : Int) ∧ Drew w wr) (fun _ i _ => ss.length - (intOf i).toNat)
  case atStart => exact ⟨0, Nat.zero_le _, rfl, by rw [List.take_zero, cm_nil_left]; rfl, Drew.refl w⟩
  case round =>
    obtain ⟨k, hk, rfl, rfl, hD⟩ := hrel
    have ha' := hD.strs ha
    have hb' := hD.strs hb
    have hcl := cm_le_left (ss.take k) ts
    have hkl : (ss.take k).length ≤ k := List.length_take_le _ _
    by_cases g1 : k < ss.length
    · obtain ⟨a, rfl, hab, hca0⟩ := ha'.at_ g1
      obtain ⟨x, hx⟩ : ∃ x, x = ss[k] := ⟨_, rfl⟩
      have hca : wr.cell? (a.add k) = some (.string x) := by rw [hx]; exact hca0
      have hst : ss.take (k + 1) = ss.take k ++ [x] := by rw [hx, List.take_succ_eq_append_getElem g1]
      have hs := cm_snoc (ss.take k) ts x
      rw [← hst] at hs
      have HS := Lib.hid hs
      have hkc : k ≤ c := by omega
      have htk : (ss.take k).length = k := by rw [List.length_take]; omega
      obtain ⟨T, hT⟩ : ∃ T, T = ss.take k := ⟨_, rfl⟩
      have hTs : Strs wr H (some a) T := by rw [hT]; exact ha'.take k
      rw [← hT] at hcl HS htk ⊢
      clear hca0 hx hst hs hT
      have HTL := Lib.hid htk
      have hTl : T.length ≤ 1048576 := by omega
      clear htk
      go_wp2_with fail
      go_quiet ((go_at_call 88; exact (times_at (some a) T k c H x _ (hTs.drewN _) HTL.out (by omega)).mono fun _ _ ⟨he, hm⟩ => ⟨he, _, hm.symm⟩))
      go_wp2_with fail
      refine (times_any B ts d H x _ (hb'.drewN nq) (by omega)).mono ?_
      rintro e w5 ⟨rfl, rfl⟩
      by_cases g2 : cnt x T < cnt x ts
      · have g2' : decide (cnt x T < cnt x ts) = true := decide_eq_true g2
        rw [if_pos g2] at HS
        clear g2
        go_wp2_with fail
        go_roundw
        case rel => exact ⟨k + 1, by omega, by go_num, by rw [HS.out]; go_num, hD.more nq⟩
        case measure => simp [intOf]; omega
      · have g2' : decide (cnt x T < cnt x ts) = false := decide_eq_false g2
        rw [if_neg g2] at HS
        clear g2
        go_wp2_with fail
        go_roundw
        case rel => exact ⟨k + 1, by omega, by go_num, by rw [HS.out]; rfl, hD.more nq⟩
        case measure => simp [intOf]; omega
    · have hkt : ss.take k = ss := List.take_of_length_le (by omega)
      rw [hkt]
      clear hkt hcl hkl
      go_wp2_with fail
      go_ret
      exact ⟨rfl, hD⟩

set_option maxHeartbeats 400000 in
set_option maxRecDepth 100000 in
theorem refScore_any (A B : Option Addr) (ss ts : List ByteArray) (c d H : Nat) (w : World) (ha : Strs w H A ss) (hb : Strs w H B ts) (hc : ss.length ≤ c) (h1 : ss.length ≤ 1048576) (h2 : ts.length ≤ 1048576) :
    Calls Try.prog 48 #[.slice A ss.length c, .slice B ts.length d] w fun e w' => e = .returned (.int .i64 (score ss ts : Int)) ∧ ∃ n, w' = w.drewN n := by
  by_cases h0 : ss.length + ts.length = 0
  · have e : score ss ts = 100 := by unfold score; rw [if_pos h0]
    have e0 : (((ss.length : Int) == 0) : Bool) = true := by rw [beq_iff_eq]; omega
    have e1 : (((ts.length : Int) == 0) : Bool) = true := by rw [beq_iff_eq]; omega
    have E := Lib.hid e
    clear e h0
    go_enter Try.func48, Try.ntmps48
    go_wp2_with fail
    go_ret
    exact ⟨by rw [E.out]; rfl, 0, rfl⟩
  · have e : (score ss ts : Int) = 200 * (cm ss ts : Int) / ((ss.length : Int) + (ts.length : Int)) := by unfold score; rw [if_neg h0]; simp
    have e0 : (((ss.length : Int) + (ts.length : Int) == 0) : Bool) = false := by rw [beq_eq_false_iff_ne]; omega
    have E := Lib.hid e
    have hcm := cm_le_left ss ts
    have hpos : 0 < ss.length + ts.length := by omega
    clear e
    have hx : (((ss.length : Int) == 0) : Bool) = false ∨ ((((ss.length : Int) == 0) : Bool) = true ∧ (((ts.length : Int) == 0) : Bool) = false) := by
      by_cases hh : ss.length = 0
      · exact .inr ⟨by rw [beq_iff_eq]; omega, by rw [beq_eq_false_iff_ne]; omega⟩
      · exact .inl (by rw [beq_eq_false_iff_ne]; omega)
    clear h0
    rcases hx with hx | ⟨hx, hx2⟩
    all_goals
      go_enter Try.func48, Try.ntmps48
      go_wp2_with fail
      refine (refCommon_any A B ss ts c d H _ ha hb hc h1 h2).mono ?_
      rintro e w1 ⟨rfl, n, rfl⟩
      go_wp2_with fail
      go_ret
      exact ⟨ret_int (by rw [E.out]), n, rfl⟩


end Go.Proofs.Ytdnckhagknlfhaa
