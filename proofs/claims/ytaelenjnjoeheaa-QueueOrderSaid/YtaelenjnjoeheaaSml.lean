/-
  New and Right, of the program and of the document; mayBe; stay. Nothing that was there is changed.
-/
import Derived.Test.YtaelenjnjoeheaaTxt
namespace Go.Proofs.Ytaelenjnjoeheaa
open Go.RowKit P16

set_option maxHeartbeats 400000 in
theorem may_any (r : Int) (b : Bool) (hb : mayB r = b) (w : World) :
    Calls Try.prog 25 #[.int .i64 r] w fun e w' => e = .returned (.bool b) ∧ w = w' := by
  have HB := Lib.hid hb
  clear hb
  by_cases h0 : 0 ≤ r
  · by_cases h1 : r ≤ 4096
    · have t0 : decide (0 ≤ r) = true := decide_eq_true h0
      have t1 : decide (r ≤ 4096) = true := decide_eq_true h1
      have HR : Hid (b = true) := Lib.hid (by rw [← HB.out]; exact may_iff.2 ⟨h0, h1⟩)
      go_enter Try.func25, Try.ntmps25
      go_wp2
      go_ret
      exact ⟨ret_bool HR.out.symm, rfl⟩
    · have t0 : decide (0 ≤ r) = true := decide_eq_true h0
      have t1 : decide (r ≤ 4096) = false := decide_eq_false h1
      have HR : Hid (b = false) := Lib.hid (by rw [← HB.out]; exact Bool.eq_false_iff.2 fun h => h1 (may_iff.1 h).2)
      go_enter Try.func25, Try.ntmps25
      go_wp2
      go_ret
      exact ⟨ret_bool HR.out.symm, rfl⟩
  · have t0 : decide (0 ≤ r) = false := decide_eq_false h0
    have HR : Hid (b = false) := Lib.hid (by rw [← HB.out]; exact Bool.eq_false_iff.2 fun h => h0 (may_iff.1 h).1)
    go_enter Try.func25, Try.ntmps25
    go_wp2
    go_ret
    exact ⟨ret_bool HR.out.symm, rfl⟩

set_option maxHeartbeats 1000000 in
theorem iright_any (r : Int) (cl : Bool) (T : List Tk) (A : Option Addr) (n c : Nat) (b : Bool) (hb : rightB ⟨r, cl, T⟩ = b) (w : World) (hn : T.length = n) :
    Calls Try.prog 19 #[.agg #[.int .i64 r, .bool cl, .slice A n c]] w fun e w' => e = .returned (.bool b) ∧ Below w.heap.size w w' := by
  obtain ⟨bm, hbm⟩ : ∃ bm, mayB r = bm := ⟨_, rfl⟩
  have HBM := Lib.hid hbm
  have HB := Lib.hid hb
  have HN := Lib.hid hn
  clear hb hbm hn
  go_enter Try.func19, Try.ntmps19
  go_upto_region 1 with (fail)
  obtain ⟨g, w1, hg, hw, hk, hbe⟩ := box_new w 24 #[.int .i64 r, .bool cl, .slice A n c]
  rw [← hw, ← hg]
  have HW := Lib.hid hbe
  obtain ⟨y0, y1, y2⟩ := blk3 hk
  clear hg hw hk hbe
  cases bm with
  | true =>
    by_cases h2 : (n : Int) ≤ r
    · have t2 : decide ((n : Int) ≤ r) = true := decide_eq_true h2
      have HR : Hid (b = true) := Lib.hid (by rw [← HB.out]; exact right_of (may_iff.1 HBM.out).1 (may_iff.1 HBM.out).2 (by rw [HN.out]; exact h2))
      go_wp2_with fail
      refine (may_any r true HBM.out _).mono ?_
      rintro e w' ⟨rfl, rfl⟩
      go_wp2_with fail
      go_ret
      exact ⟨ret_bool HR.out.symm, HW.out⟩
    · have t2 : decide ((n : Int) ≤ r) = false := decide_eq_false h2
      have HR : Hid (b = false) := Lib.hid (by rw [← HB.out]; exact Bool.eq_false_iff.2 fun h => h2 (by have := (right_iff.1 h).2.2; simp only [HN.out] at this; exact this))
      go_wp2_with fail
      refine (may_any r true HBM.out _).mono ?_
      rintro e w' ⟨rfl, rfl⟩
      go_wp2_with fail
      go_ret
      exact ⟨ret_bool HR.out.symm, HW.out⟩
  | false =>
    have HR : Hid (b = false) := Lib.hid (by rw [← HB.out]; exact Bool.eq_false_iff.2 fun h => by have := HBM.out; rw [may_iff.2 ⟨(right_iff.1 h).1, (right_iff.1 h).2.1⟩] at this; cases this)
    go_wp2_with fail
    refine (may_any r false HBM.out _).mono ?_
    rintro e w' ⟨rfl, rfl⟩
    go_wp2_with fail
    go_ret
    exact ⟨ret_bool HR.out.symm, HW.out⟩

set_option maxHeartbeats 1000000 in
theorem rright_any (r : Int) (cl : Bool) (T : List Tk) (A : Option Addr) (n c : Nat) (b : Bool) (hb : rightB ⟨r, cl, T⟩ = b) (w : World) (hn : T.length = n) :
    Calls Try.prog 20 #[.agg #[.int .i64 r, .bool cl, .slice A n c]] w fun e w' => e = .returned (.bool b) ∧ Below w.heap.size w w' := by
  have HB := Lib.hid hb
  have HN := Lib.hid hn
  clear hb hn
  go_enter Try.func20, Try.ntmps20
  go_upto_region 1 with (fail)
  obtain ⟨g, w1, hg, hw, hk, hbe⟩ := box_new w 24 #[.int .i64 r, .bool cl, .slice A n c]
  rw [← hw, ← hg]
  have HW := Lib.hid hbe
  obtain ⟨y0, y1, y2⟩ := blk3 hk
  clear hg hw hk hbe
  by_cases h0 : 0 ≤ r
  · have t0 : decide (0 ≤ r) = true := decide_eq_true h0
    by_cases h1 : r ≤ 4096
    · have t1 : decide (r ≤ 4096) = true := decide_eq_true h1
      by_cases h2 : (n : Int) ≤ r
      · have t2 : decide ((n : Int) ≤ r) = true := decide_eq_true h2
        have HR : Hid (b = true) := Lib.hid (by rw [← HB.out]; exact right_of h0 h1 (by rw [HN.out]; exact h2))
        go_wp2_with fail
        go_ret
        exact ⟨ret_bool HR.out.symm, HW.out⟩
      · have t2 : decide ((n : Int) ≤ r) = false := decide_eq_false h2
        have HR : Hid (b = false) := Lib.hid (by rw [← HB.out]; exact Bool.eq_false_iff.2 fun h => h2 (by have := (right_iff.1 h).2.2; simp only [HN.out] at this; exact this))
        go_wp2_with fail
        go_ret
        exact ⟨ret_bool HR.out.symm, HW.out⟩
    · have t1 : decide (r ≤ 4096) = false := decide_eq_false h1
      have HR : Hid (b = false) := Lib.hid (by rw [← HB.out]; exact Bool.eq_false_iff.2 fun h => h1 (right_iff.1 h).2.1)
      go_wp2_with fail
      go_ret
      exact ⟨ret_bool HR.out.symm, HW.out⟩
  · have t0 : decide (0 ≤ r) = false := decide_eq_false h0
    have HR : Hid (b = false) := Lib.hid (by rw [← HB.out]; exact Bool.eq_false_iff.2 fun h => h0 (right_iff.1 h).1)
    go_wp2_with fail
    go_ret
    exact ⟨ret_bool HR.out.symm, HW.out⟩

/-- what a New tells -/
def NewTold (q : Qu) (e0 : Int) (w : World) (e : Ending) (w' : World) : Prop :=
  e = .returned (.tuple #[.agg #[.int .i64 q.room, .bool q.closed, .slice none 0 0], .int .i64 e0]) ∧ q.tasks = [] ∧ Below w.heap.size w w'
theorem new_bad {r : Int} (h : mayB r = false) : newQ r = (zeroQ, 1) := by
  unfold newQ
  rw [if_neg (by simp [h])]
set_option maxHeartbeats 1000000 in
theorem inew_any (r : Int) (w : World) (q : Qu) (e0 : Int) (ht : newQ r = (q, e0)) :
    Calls Try.prog 8 #[.int .i64 r] w (NewTold q e0 w) := by
  obtain ⟨bm, hbm⟩ : ∃ bm, mayB r = bm := ⟨_, rfl⟩
  have HBM := Lib.hid hbm
  have HT := Lib.hid ht
  clear hbm ht
  go_enter Try.func8, Try.ntmps8
  go_upto_region 1 with (fail)
  obtain ⟨g, w1, hg, hw, hk, hbe⟩ := box_new w 24 #[.int .i64 0, .bool false, .slice none 0 0]
  rw [← hw, ← hg]
  have HG : Hid (w.heap.size ≤ g) := Lib.hid (by omega)
  have HW := Lib.hid hbe
  obtain ⟨y0, y1, y2⟩ := blk3 hk
  have z0 := Blk.frozen hk 0
  have z1 := Blk.frozen hk 1
  have z2 := Blk.frozen hk 2
  clear hg hw hk hbe
  cases bm with
  | true =>
    have HR : Hid (q = ⟨r, false, []⟩ ∧ e0 = 0) := Lib.hid (by
      have h := HT.out
      rw [new_ok (may_iff.1 HBM.out).1 (may_iff.1 HBM.out).2] at h
      injection h with h1 h2
      exact ⟨h1.symm, h2.symm⟩)
    go_wp2_with fail
    refine (may_any r true HBM.out _).mono ?_
    rintro e w' ⟨rfl, rfl⟩
    go_wp2_with fail
    refine bodyPost_ret (v := .tuple #[.agg #[.int .i64 r, .bool false, .slice none 0 0], .int .i64 0]) (by simp [results, Try.results8, go_sem, y0, y1, y2]) rfl ?_
    rw [HR.out.1, HR.out.2]
    exact ⟨rfl, rfl, ((HW.out.setCell HG.out _).setCell HG.out _).setCell HG.out _⟩
  | false =>
    have HR : Hid (q = zeroQ ∧ e0 = 1) := Lib.hid (by
      have h := HT.out
      rw [new_bad HBM.out] at h
      injection h with h1 h2
      exact ⟨h1.symm, h2.symm⟩)
    go_wp2_with fail
    refine (may_any r false HBM.out _).mono ?_
    rintro e w' ⟨rfl, rfl⟩
    go_wp2_with fail
    refine bodyPost_ret (v := .tuple #[.agg #[.int .i64 0, .bool false, .slice none 0 0], .int .i64 1]) (by simp [results, Try.results8, go_sem, y0, y1, y2]) rfl ?_
    rw [HR.out.1, HR.out.2]
    exact ⟨rfl, rfl, ((HW.out.setCell HG.out _).setCell HG.out _).setCell HG.out _⟩

set_option maxHeartbeats 1000000 in
theorem stay_any (r : Int) (cl : Bool) (A : Option Addr) (n c f t : Nat) (w : World) (h1 : f ≤ t) (h2 : t ≤ n) (h3 : n ≤ c) :
    Calls Try.prog 27 #[.agg #[.int .i64 r, .bool cl, .slice A n c], .int .i64 (f : Int), .int .i64 (t : Int)] w fun e w' => e = .returned (.slice (if t = f then A else A.map (·.add (f * 4))) (t - f) (t - f)) ∧ Below w.heap.size w w' := by
  go_enter Try.func27, Try.ntmps27
  go_upto_region 1 with (fail)
  obtain ⟨g, w1, hg, hw, hk, hbe⟩ := box_new w 24 #[.int .i64 r, .bool cl, .slice A n c]
  rw [← hw, ← hg]
  have HW := Lib.hid hbe
  obtain ⟨y0, y1, y2⟩ := blk3 hk
  clear hg hw hk hbe
  have t1 : ¬ (t : Int) < f := by omega
  have t2 : ¬ (n : Int) < t := by omega
  cases A with
  | none =>
    go_wp2_with fail
    go_ret
    exact ⟨by simp, HW.out⟩
  | some a =>
    by_cases e : t = f
    · go_wp2_with fail
      go_ret
      exact ⟨by simp, HW.out⟩
    · go_wp2_with fail
      go_ret
      exact ⟨by simp, HW.out⟩
theorem stay_all (r : Int) (cl : Bool) (A : Option Addr) (n c : Nat) (w : World) (h3 : n ≤ c) :
    Calls Try.prog 27 #[.agg #[.int .i64 r, .bool cl, .slice A n c], .int .i64 0, .int .i64 (n : Int)] w fun e w' => e = .returned (.slice A n n) ∧ Below w.heap.size w w' :=
  (stay_any r cl A n c 0 n w (Nat.zero_le _) (Nat.le_refl _) h3).mono fun e w' h => ⟨by
    have e1 : (if n = 0 then A else A.map (·.add (0 * 4))) = A := by cases A <;> simp [Addr.add]
    rw [e1, Nat.sub_zero] at h
    exact h.1, h.2⟩
theorem stay_none (r : Int) (cl : Bool) (A : Option Addr) (n c : Nat) (w : World) (h3 : n ≤ c) :
    Calls Try.prog 27 #[.agg #[.int .i64 r, .bool cl, .slice A n c], .int .i64 0, .int .i64 0] w fun e w' => e = .returned (.slice A 0 0) ∧ Below w.heap.size w w' :=
  (stay_any r cl A n c 0 0 w (Nat.le_refl _) (Nat.zero_le _) h3).mono fun e w' h => ⟨by
    rw [if_pos rfl] at h
    exact h.1, h.2⟩
theorem stay_tail (r : Int) (cl : Bool) (A : Option Addr) (T : List Tk) (n c : Nat) (w : World) (ha : TasksAt w A T) (hn : T.length = n) (h1 : 1 ≤ n) (h3 : n ≤ c) :
    Calls Try.prog 27 #[.agg #[.int .i64 r, .bool cl, .slice A n c], .int .i64 1, .int .i64 (n : Int)] w fun e w' => ∃ A', e = .returned (.slice A' (n - 1) (n - 1)) ∧ TasksAt w' A' (T.drop 1) ∧ Below w.heap.size w w' :=
  (stay_any r cl A n c 1 n w h1 (Nat.le_refl _) h3).mono fun e w' h => ⟨_, h.1, by
    have := (ha.take n).drop 1 n (by rw [List.length_take]; omega) (by rw [List.length_take]; omega)
    rw [List.take_of_length_le (by omega)] at this
    exact this.up h.2, h.2⟩

end Go.Proofs.Ytaelenjnjoeheaa
