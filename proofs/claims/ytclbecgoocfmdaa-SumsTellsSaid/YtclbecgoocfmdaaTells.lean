/-
  collatorlaw09.SumsTells: whatever the texts, the number and the width, it returns true.
-/
import Derived.Test.YtclbecgoocfmdaaOne
namespace Go.Proofs.Ytclbecgoocfmdaa
open Go.RowKit Sm

theorem moreRef_to (h n : Nat) (s : ByteArray) (w : Int) (W : World) (hh : h < M) (hs : s.size ≤ 4096) (e : low (run h s.data.toList) w = n) :
    Calls Try.prog 13 #[.int .u64 h, .string s, .int .i64 w] W fun e w' => e = .returned (.int .u64 n) ∧ W = w' := by
  subst e; exact moreRef_any h s w W hh hs
theorem sumRef_to (n : Nat) (s : ByteArray) (w : Int) (W : World) (hs : s.size ≤ 4096) (e : low (run 0 s.data.toList) w = n) :
    Calls Try.prog 11 #[.string s, .int .i64 w] W fun e w' => e = .returned (.int .u64 n) ∧ W = w' := by
  subst e; exact sumRef_any s w W hs
theorem ofRef_to (n l : Nat) (s : ByteArray) (w : Int) (W : World) (hs : s.size ≤ 4096) (h : low (run 0 s.data.toList) w = n) (hl : s.size = l) :
    Calls Try.prog 15 #[.string s, .int .i64 w] W fun e w' => e = .returned (.agg #[.int .u64 n, .int .i64 l]) ∧ Below W.heap.size W w' := by
  subst h hl; exact ofRef_any s w W hs
theorem bothRef_to (n : Nat) (l : Int) (a b : ByteArray) (w : Int) (W : World) (ha : a.size ≤ 4096) (hb : b.size ≤ 4096) (h : low (two a.data.toList b.data.toList) w = n) (hl : (a.size : Int) + (b.size : Int) = l) :
    Calls Try.prog 17 #[.string a, .string b, .int .i64 w] W fun e w' => e = .returned (.agg #[.int .u64 n, .int .i64 l]) ∧ Below W.heap.size W w' := by
  subst h hl; exact bothRef_any a b w W ha hb
theorem lt_of_cell {w : World} {p : Addr} {v : Value} (h : w.cell? p = some v) : p.block < w.heap.size := by
  rcases Nat.lt_or_ge p.block w.heap.size with g | g
  · exact g
  · simp [World.cell?, Array.getElem?_eq_none g] at h
/-- the two widths that are tried, in memory -/
def Ws (w0 : World) (b : Nat) (wr : World) : Prop := (∀ k : Nat, k < 2 → ∃ z : Int, wr.cell? ⟨b, k, none⟩ = some (.int .i64 z)) ∧ Below w0.heap.size w0 wr
theorem Ws.step {w0 w w' : World} {b : Nat} (h : Ws w0 b w) (hb : Below w.heap.size w w') : Ws w0 b w' := ⟨fun k hk => by
  obtain ⟨z, hz⟩ := h.1 k hk
  exact ⟨z, by rw [hb.cell (p := ⟨b, k, none⟩) (lt_of_cell hz :)]; exact hz⟩, below_step h.2 hb⟩

set_option maxHeartbeats 4000000 in
set_option maxRecDepth 100000 in
theorem tells_walk (a b : ByteArray) (h : Nat) (width : Int) (W : World) (ha : a.size ≤ 140737488355328) (hb : b.size ≤ 140737488355328) (hh : h < M) (h0 : -9223372036854775808 ≤ width) (h1 : width ≤ 9223372036854775807) :
    Calls Try.prog 3 #[.string a, .string b, .int .u64 h, .int .i64 width] W fun e w' => e = .returned (.bool true) ∧ Below W.heap.size W w' := by
  have hx : (a.extract 0 (min (a.size : Int) 200).toNat).size ≤ 200 := cut_size a 200
  have hy : (b.extract 0 (min (b.size : Int) 200).toNat).size ≤ 200 := cut_size b 200
  have HH := Lib.hid hh
  clear hh
  go_enter Try.func3, Try.ntmps3
  go_wp2_with fail
  refine (awake_any _).mono ?_
  rintro e W1 ⟨rfl, hb1⟩
  go_wp2_with fail
  refine (pick_any _ _ _ (by omega) (by omega) h0 h1).mono ?_
  rintro e w' ⟨rfl, rfl⟩
  generalize a.extract 0 (min (a.size : Int) 200).toNat = x at *
  generalize b.extract 0 (min (b.size : Int) 200).toNat = y at *
  generalize pk width 66 = z2 at *
  have hxs : x.size ≤ 4096 := by omega
  have hys : y.size ≤ 4096 := by omega
  go_wp2_with fail
  have hW : Ws W W1.heap.size (W1.alloc (.cells #[.int .i64 width, .int .i64 z2] 3)) := by
    refine ⟨fun k hk => ?_, hb1.alloc hb1.size _⟩
    match k, hk with
    | 0, _ => exact ⟨width, by simp [go_sem]⟩
    | 1, _ => exact ⟨z2, by simp [go_sem]⟩
  generalize W1.alloc (.cells #[.int .i64 width, .int .i64 z2] 3) = W2 at *
  generalize W1.heap.size = blk at *
  go_loopw [30] (fun i wr => ∃ k : Nat, k ≤ 2 ∧ i = .int .i64 k ∧ Ws W blk wr) (fun i _ => 2 - (intOf i).toNat)
  case atStart => exact ⟨0, by omega, rfl, hW⟩
  case round =>
    obtain ⟨k, hk, rfl, hR⟩ := hrel
    by_cases hlt : k < 2
    · obtain ⟨z, hc⟩ := hR.1 k hlt
      clear hW
      obtain ⟨n1, e1⟩ : ∃ n, low (run 0 x.data.toList) z = n := ⟨_, rfl⟩
      obtain ⟨n2, e2⟩ : ∃ n, low (run h x.data.toList) z = n := ⟨_, rfl⟩
      obtain ⟨n3, e3⟩ : ∃ n, low (two x.data.toList y.data.toList) z = n := ⟨_, rfl⟩
      have q1 := Lib.hid e1
      have q2 := Lib.hid e2
      have q3 := Lib.hid e3
      clear e1 e2 e3
      go_wp2_with fail
      refine (sum_to n1 x _ _ hxs q1.out).mono ?_
      rintro e w' ⟨rfl, rfl⟩
      go_wp2_with fail
      refine (sumRef_to n1 x _ _ hxs q1.out).mono ?_
      rintro e w' ⟨rfl, rfl⟩
      go_wp2_with fail
      refine (more_to h n2 x _ _ HH.out hxs q2.out).mono ?_
      rintro e w' ⟨rfl, rfl⟩
      go_wp2_with fail
      refine (moreRef_to h n2 x _ _ HH.out hxs q2.out).mono ?_
      rintro e w' ⟨rfl, rfl⟩
      go_wp2_with fail
      refine (of_to n1 x.size x _ _ hxs q1.out rfl).mono ?_
      rintro e w3 ⟨rfl, hb3⟩
      replace hR := hR.step hb3
      clear hb3
      go_wp2_with fail
      refine (ofRef_to n1 x.size x _ _ hxs q1.out rfl).mono ?_
      rintro e w4 ⟨rfl, hb4⟩
      replace hR := hR.step hb4
      clear hb4
      go_wp2_with fail
      refine (both_to n3 ((x.size : Int) + (y.size : Int)) x y _ _ hxs hys q3.out rfl).mono ?_
      rintro e w5 ⟨rfl, hb5⟩
      replace hR := hR.step hb5
      clear hb5
      go_wp2_with fail
      refine (bothRef_to n3 ((x.size : Int) + (y.size : Int)) x y _ _ hxs hys q3.out rfl).mono ?_
      rintro e w6 ⟨rfl, hb6⟩
      replace hR := hR.step hb6
      clear hb6 hc
      go_wp2_with fail
      go_roundw
      case rel => exact ⟨k + 1, by omega, by go_num, hR⟩
      case measure => simp [intOf]; omega
    · clear hW
      go_wp2_with fail
      go_ret
      exact ⟨rfl, hR.2⟩
end Go.Proofs.Ytclbecgoocfmdaa
