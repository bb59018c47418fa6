/-
  collatorlaw09.SumsBoth: whatever the text and the byte, it returns true.
-/
import Derived.Test.YtclbecgoocfmdaaParts
import Derived.Laws.IdiomStrings
namespace Go.Proofs.Ytclbecgoocfmdaa
open Go.RowKit Sm

theorem both_to (n : Nat) (l : Int) (a b : ByteArray) (w : Int) (W : World) (ha : a.size ≤ 4096) (hb : b.size ≤ 4096) (h : low (two a.data.toList b.data.toList) w = n) (hl : (a.size : Int) + (b.size : Int) = l) :
    Calls Try.prog 16 #[.string a, .string b, .int .i64 w] W fun e w' => e = .returned (.agg #[.int .u64 n, .int .i64 l]) ∧ Below W.heap.size W w' := by
  subst h hl; exact both_any a b w W ha hb
/-- string([]byte{c}) -/
theorem one_byte (c : UInt8) (w : World) : (convert 35 9 (.slice (some ⟨w.heap.size, 0, none⟩) 1 1)).run Try.prog (w.alloc (.cells #[.int .u8 (c.toNat : Int)] 5)) = .ok (.string ⟨#[c]⟩) (w.alloc (.cells #[.int .u8 (c.toNat : Int)] 5)) :=
  run_convert_bytes_back _ 35 9 5 ⟨w.heap.size, 0, none⟩ 1 [c] (by kernel_rfl) (by kernel_rfl) (by kernel_rfl) (fun j hj => by
    have : j = 0 := by simp at hj; omega
    subst this
    simp [go_sem])

set_option maxHeartbeats 4000000 in
set_option maxRecDepth 100000 in
theorem both_walk (s : ByteArray) (c : Int) (W : World) (hs : s.size ≤ 140737488355328) (h0 : 0 ≤ c) (h1 : c < 256) :
    Calls Try.prog 7 #[.string s, .int .u8 c] W fun e w' => e = .returned (.bool true) ∧ Below W.heap.size W w' := by
  have hx : (s.extract 0 (min (s.size : Int) 100).toNat).size ≤ 100 := cut_size s 100
  obtain ⟨k, hk⟩ : ∃ k : UInt8, (k.toNat : Int) = c := ⟨UInt8.ofNat c.toNat, by rw [UInt8.toNat_ofNat']; omega⟩
  subst hk
  clear h0 h1
  have hk := k.toNat_lt
  go_enter Try.func7, Try.ntmps7
  go_wp2_with fail
  refine (awake_any _).mono ?_
  rintro e W1 ⟨rfl, hb1⟩
  go_wp2_with fail
  rw [one_byte k W1]
  go_wp2_with fail
  generalize s.extract 0 (min (s.size : Int) 100).toNat = x at *
  replace hb1 : Below W.heap.size W (W1.alloc (.cells #[.int .u8 (k.toNat : Int)] 5)) := hb1.alloc hb1.size _
  generalize W1.alloc (.cells #[.int .u8 (k.toNat : Int)] 5) = W2 at *
  have hx2 := size_app x ⟨#[k]⟩
  have hx3 : (⟨#[k]⟩ : ByteArray).size = 1 := rfl
  obtain ⟨y, ey⟩ : ∃ y, x ++ ⟨#[k]⟩ = y := ⟨_, rfl⟩
  rw [ey] at hx2 ⊢
  obtain ⟨P, eP⟩ : ∃ n, low (two y.data.toList x.data.toList) 64 = n := ⟨_, rfl⟩
  obtain ⟨Q, eQ⟩ : ∃ n, low (two x.data.toList y.data.toList) 64 = n := ⟨_, rfl⟩
  obtain ⟨R, eR⟩ : ∃ n, low (two x.data.toList x.data.toList) 64 = n := ⟨_, rfl⟩
  obtain ⟨H, eH⟩ : ∃ n, low (run 0 x.data.toList) 64 = n := ⟨_, rfl⟩
  obtain ⟨N, eN⟩ : ∃ n, low (run 0 y.data.toList) 64 = n := ⟨_, rfl⟩
  have qP := Lib.hid eP
  have qQ := Lib.hid eQ
  have qR := Lib.hid eR
  have qH := Lib.hid eH
  have qN := Lib.hid eN
  rw [low_all (two_lt _ _) (Int.le_refl _)] at eP eQ eR
  rw [low_all (run_lt M_pos _) (Int.le_refl _)] at eH eN
  have fP : IntKind.u64.wrap (IntKind.u64.wrap (37 * (N : Int)) + (H : Int)) = (P : Int) := by rw [← eP, ← eN, ← eH]; exact both_wrap _ _
  have fQ : IntKind.u64.wrap (IntKind.u64.wrap (37 * (H : Int)) + (N : Int)) = (Q : Int) := by rw [← eQ, ← eN, ← eH]; exact both_wrap _ _
  have fR : IntKind.u64.wrap (38 * (H : Int)) = (R : Int) := by
    rw [← eR, ← eH, IntKind.wrap_u64]
    unfold two M
    omega
  have fN : IntKind.u64.wrap (IntKind.u64.wrap (IntKind.u64.wrap (31 * (H : Int)) + IntKind.u64.wrap (k.toNat : Int)) + 1) = (N : Int) := by
    rw [step_wrap, ← eN, ← eH, ← ey, txt_app]
    exact congrArg _ (run_snoc 0 _ _).symm
  rw [IntWalk.u64_in (k.toNat : Int) (by omega)] at fN
  clear eP eQ eR eH eN
  have hxs : x.size ≤ 4096 := by omega
  have hys : y.size ≤ 4096 := by omega
  refine (both_to P (2 * (x.size : Int) + 1) y x 64 _ hys hxs qP.out (by omega)).mono ?_
  rintro e W3 ⟨rfl, hb3⟩
  replace hb1 := hb1.trans (hb3.mono hb1.size)
  clear hb3
  go_wp2_with fail
  refine (both_to Q (2 * (x.size : Int) + 1) x y 64 _ hxs hys qQ.out (by omega)).mono ?_
  rintro e W4 ⟨rfl, hb4⟩
  have c1 : W4.cell? ⟨W3.heap.size, 0, none⟩ = some (.int .u64 P) := by
    rw [hb4.cell (p := ⟨W3.heap.size, 0, none⟩) (by simp)]; simp [go_sem]
  have c2 : W4.cell? ⟨W3.heap.size, 1, none⟩ = some (.int .i64 (2 * (x.size : Int) + 1)) := by
    rw [hb4.cell (p := ⟨W3.heap.size, 1, none⟩) (by simp)]; simp [go_sem]
  have hs3 := hb1.size
  replace hb1 : Below W.heap.size W W4 := (hb1.alloc hs3 _).trans (hb4.mono (by simp; omega))
  have hz4 := hb4.size
  simp at hz4
  clear hb4
  generalize W3.heap.size = p at *
  go_wp2_with fail
  refine (both_to R (2 * (x.size : Int)) x x 64 _ hxs hxs qR.out (by omega)).mono ?_
  rintro e W5 ⟨rfl, hb5⟩
  have c3 : W5.cell? ⟨W4.heap.size, 0, none⟩ = some (.int .u64 Q) := by
    rw [hb5.cell (p := ⟨W4.heap.size, 0, none⟩) (by simp)]; simp [go_sem]
  have c4 : W5.cell? ⟨W4.heap.size, 1, none⟩ = some (.int .i64 (2 * (x.size : Int) + 1)) := by
    rw [hb5.cell (p := ⟨W4.heap.size, 1, none⟩) (by simp)]; simp [go_sem]
  have c1' : W5.cell? ⟨p, 0, none⟩ = some (.int .u64 P) := by
    rw [hb5.cell (p := ⟨p, 0, none⟩) (by simp; omega), World.cell?_alloc_lt _ _ _ (by simp; omega)]; exact c1
  have c2' : W5.cell? ⟨p, 1, none⟩ = some (.int .i64 (2 * (x.size : Int) + 1)) := by
    rw [hb5.cell (p := ⟨p, 1, none⟩) (by simp; omega), World.cell?_alloc_lt _ _ _ (by simp; omega)]; exact c2
  have hs4 := hb1.size
  replace hb1 : Below W.heap.size W W5 := (hb1.alloc hs4 _).trans (hb5.mono (by simp; omega))
  have hz5 := hb5.size
  simp at hz5
  clear hb5 c1 c2
  have hpq : p < W4.heap.size := by omega
  have hq5 : W4.heap.size < W5.heap.size := by omega
  generalize W4.heap.size = q at *
  clear hz4
  go_wp2_with fail
  have d1 : (W5.alloc (.cells #[.int .u64 R, .int .i64 (2 * (x.size : Int))] 29)).cell? ⟨p, 0, none⟩ = some (.int .u64 P) := by rw [World.cell?_alloc_lt _ _ _ (by simp; omega)]; exact c1'
  have d2 : (W5.alloc (.cells #[.int .u64 R, .int .i64 (2 * (x.size : Int))] 29)).cell? ⟨p, 1, none⟩ = some (.int .i64 (2 * (x.size : Int) + 1)) := by rw [World.cell?_alloc_lt _ _ _ (by simp; omega)]; exact c2'
  have d3 : (W5.alloc (.cells #[.int .u64 R, .int .i64 (2 * (x.size : Int))] 29)).cell? ⟨q, 0, none⟩ = some (.int .u64 Q) := by rw [World.cell?_alloc_lt _ _ _ (by simp; omega)]; exact c3
  have d4 : (W5.alloc (.cells #[.int .u64 R, .int .i64 (2 * (x.size : Int))] 29)).cell? ⟨q, 1, none⟩ = some (.int .i64 (2 * (x.size : Int) + 1)) := by rw [World.cell?_alloc_lt _ _ _ (by simp; omega)]; exact c4
  have d5 : (W5.alloc (.cells #[.int .u64 R, .int .i64 (2 * (x.size : Int))] 29)).cell? ⟨W5.heap.size, 0, none⟩ = some (.int .u64 R) := by simp [go_sem]
  have hs5 := hb1.size
  replace hb1 : Below W.heap.size W (W5.alloc (.cells #[.int .u64 R, .int .i64 (2 * (x.size : Int))] 29)) := hb1.alloc hs5 _
  generalize W5.heap.size = r at *
  generalize W5.alloc (.cells #[.int .u64 R, .int .i64 (2 * (x.size : Int))] 29) = W6 at *
  clear c1' c2' c3 c4 hpq hq5 hz5 hs3 hs4 hs5
  refine (sum_to H x 64 _ hxs qH.out).mono ?_
  rintro e w' ⟨rfl, rfl⟩
  go_wp2_with fail
  refine (sum_to N y 64 _ hys qN.out).mono ?_
  rintro e w' ⟨rfl, rfl⟩
  go_wp2_with fail
  go_ret
  exact ⟨rfl, hb1⟩
end Go.Proofs.Ytclbecgoocfmdaa
