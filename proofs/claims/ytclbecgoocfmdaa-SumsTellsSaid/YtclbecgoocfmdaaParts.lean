/-
  collatorlaw09.SumsParts: whatever the texts and numbers, it returns true.
-/
import Derived.Test.YtclbecgoocfmdaaAwake
import Derived.Lib.MinMax
namespace Go.Proofs.Ytclbecgoocfmdaa
open Go.RowKit Sm

theorem more_to (h n : Nat) (s : ByteArray) (w : Int) (W : World) (hh : h < M) (hs : s.size ≤ 4096) (e : low (run h s.data.toList) w = n) :
    Calls Try.prog 12 #[.int .u64 h, .string s, .int .i64 w] W fun e w' => e = .returned (.int .u64 n) ∧ W = w' := by
  subst e; exact more_any h s w W hh hs
theorem sum_to (n : Nat) (s : ByteArray) (w : Int) (W : World) (hs : s.size ≤ 4096) (e : low (run 0 s.data.toList) w = n) :
    Calls Try.prog 10 #[.string s, .int .i64 w] W fun e w' => e = .returned (.int .u64 n) ∧ W = w' := by
  subst e; exact sum_any s w W hs
theorem txt_app (a b : ByteArray) : (a ++ b).data.toList = a.data.toList ++ b.data.toList := by rw [ByteArray.data_append, Array.toList_append]
theorem size_app (a b : ByteArray) : (a ++ b).size = a.size + b.size := by
  rw [Lib.size_eq, txt_app, List.length_append, ← Lib.size_eq, ← Lib.size_eq]
theorem cut_size (s : ByteArray) (n : Nat) : (s.extract 0 (min (s.size : Int) n).toNat).size ≤ n := by
  rw [ByteArray.size_extract]; omega

theorem ne_beq {a b : Nat} (h : ¬ a = b) : ((a : Int) == (b : Int)) = false := by
  rw [beq_eq_false_iff_ne]; omega

set_option maxHeartbeats 4000000 in
set_option maxRecDepth 100000 in
theorem parts_walk (a b : ByteArray) (h g : Nat) (width : Int) (W : World) (ha : a.size ≤ 140737488355328) (hb : b.size ≤ 140737488355328) (hh : h < M) (hg : g < M) (h0 : -9223372036854775808 ≤ width) (h1 : width ≤ 9223372036854775807) :
    Calls Try.prog 5 #[.string a, .string b, .int .u64 h, .int .u64 g, .int .i64 width] W fun e w' => e = .returned (.bool true) ∧ Below W.heap.size W w' := by
  have hx : (a.extract 0 (min (a.size : Int) 100).toNat).size ≤ 100 := cut_size a 100
  have hy : (b.extract 0 (min (b.size : Int) 100).toNat).size ≤ 100 := cut_size b 100
  obtain ⟨w0, w1⟩ := pk_range width 65 (by omega)
  have HHh := Lib.hid hh
  have HHg := Lib.hid hg
  clear hh hg
  by_cases heq : h = g
  all_goals
    go_enter Try.func5, Try.ntmps5
    go_wp2_with fail
    refine (awake_any _).mono ?_
    rintro e W1 ⟨rfl, hb1⟩
    go_wp2_with fail
    refine (pick_any _ _ _ (by omega) (by omega) h0 h1).mono ?_
    rintro e w' ⟨rfl, rfl⟩
    go_wp2_with fail
    generalize a.extract 0 (min (a.size : Int) 100).toNat = x at *
    generalize b.extract 0 (min (b.size : Int) 100).toNat = y at *
    generalize pk width 65 = w at *
    have hxy := size_app x y
    obtain ⟨n1, e1⟩ : ∃ n1, low (run h x.data.toList) w = n1 := ⟨_, rfl⟩
    obtain ⟨n2, e2⟩ : ∃ n2, low (run n1 y.data.toList) w = n2 := ⟨_, rfl⟩
    obtain ⟨n3, e3⟩ : ∃ n3, low (run 0 (x ++ y).data.toList) w = n3 := ⟨_, rfl⟩
    obtain ⟨n4, e4⟩ : ∃ n4, low (run 0 x.data.toList) 64 = n4 := ⟨_, rfl⟩
    obtain ⟨n5, e5⟩ : ∃ n5, low (run h x.data.toList) 64 = n5 := ⟨_, rfl⟩
    obtain ⟨n6, e6⟩ : ∃ n6, low (run g x.data.toList) 64 = n6 := ⟨_, rfl⟩
    have q2 := Lib.hid (show low (run h (x ++ y).data.toList) w = n2 by rw [txt_app, run_append, ← e2, ← e1, low_run_low _ _ _ _ (Int.le_refl _)])
    have q4 := Lib.hid (show low (run n4 y.data.toList) w = n3 by rw [← e4, low_run_low _ _ _ _ (by omega), ← e3, txt_app, run_append])
    have q6 := Lib.hid (show n5 = n6 ↔ h = g by rw [← e5, ← e6]; exact low_run_inj HHh.out HHg.out _)
    have b1 := Lib.hid (show n1 < M by rw [← e1]; exact low_lt _ _)
    have b4 := Lib.hid (show n4 < M by rw [← e4]; exact low_lt _ _)
    have q1 := Lib.hid e1
    have q1' := Lib.hid e2
    have q3 := Lib.hid e3
    have q3' := Lib.hid e4
    have q5 := Lib.hid e5
    have q5' := Lib.hid e6
    clear e1 e2 e3 e4 e5 e6
    have hxy2 : (x ++ y).size ≤ 4096 := by omega
    clear hxy
  · have HE := Lib.hid heq
    subst heq
    have e56 : n5 = n6 := q6.out.2 rfl
    subst e56
    refine (more_to h n1 x w _ HHh.out (by omega) q1.out).mono ?_
    rintro e w' ⟨rfl, rfl⟩
    go_wp2_with fail
    refine (more_to n1 n2 y w _ b1.out (by omega) q1'.out).mono ?_
    rintro e w' ⟨rfl, rfl⟩
    go_wp2_with fail
    refine (more_to h n2 (x ++ y) w _ HHh.out hxy2 q2.out).mono ?_
    rintro e w' ⟨rfl, rfl⟩
    go_wp2_with fail
    refine (sum_to n3 (x ++ y) w _ hxy2 q3.out).mono ?_
    rintro e w' ⟨rfl, rfl⟩
    go_wp2_with fail
    refine (sum_to n4 x 64 _ (by omega) q3'.out).mono ?_
    rintro e w' ⟨rfl, rfl⟩
    go_wp2_with fail
    refine (more_to n4 n3 y w _ b4.out (by omega) q4.out).mono ?_
    rintro e w' ⟨rfl, rfl⟩
    go_wp2_with fail
    refine (more_to h n5 x 64 _ HHh.out (by omega) q5.out).mono ?_
    rintro e w' ⟨rfl, rfl⟩
    go_wp2_with fail
    refine (more_to h n5 x 64 _ HHh.out (by omega) q5.out).mono ?_
    rintro e w' ⟨rfl, rfl⟩
    go_wp2_with fail
    go_ret
    exact ⟨rfl, hb1⟩
  · have f1 := ne_beq heq
    have f2 := ne_beq (show ¬ n5 = n6 from fun e => heq (q6.out.1 e))
    clear heq
    refine (more_to h n1 x w _ HHh.out (by omega) q1.out).mono ?_
    rintro e w' ⟨rfl, rfl⟩
    go_wp2_with fail
    refine (more_to n1 n2 y w _ b1.out (by omega) q1'.out).mono ?_
    rintro e w' ⟨rfl, rfl⟩
    go_wp2_with fail
    refine (more_to h n2 (x ++ y) w _ HHh.out hxy2 q2.out).mono ?_
    rintro e w' ⟨rfl, rfl⟩
    go_wp2_with fail
    refine (sum_to n3 (x ++ y) w _ hxy2 q3.out).mono ?_
    rintro e w' ⟨rfl, rfl⟩
    go_wp2_with fail
    refine (sum_to n4 x 64 _ (by omega) q3'.out).mono ?_
    rintro e w' ⟨rfl, rfl⟩
    go_wp2_with fail
    refine (more_to n4 n3 y w _ b4.out (by omega) q4.out).mono ?_
    rintro e w' ⟨rfl, rfl⟩
    go_wp2_with fail
    refine (more_to h n5 x 64 _ HHh.out (by omega) q5.out).mono ?_
    rintro e w' ⟨rfl, rfl⟩
    go_wp2_with fail
    refine (more_to g n6 x 64 _ HHg.out (by omega) q5'.out).mono ?_
    rintro e w' ⟨rfl, rfl⟩
    go_wp2_with fail
    go_ret
    exact ⟨rfl, hb1⟩
end Go.Proofs.Ytclbecgoocfmdaa
