/-
  collatorlaw09.SumsWidth: whatever the texts and raw widths, it returns true.
-/
import Derived.Test.YtclbecgoocfmdaaParts
import Derived.Deep.RegionHeld3
import Derived.Deep.DeepCutAuto
namespace Go.Proofs.Ytclbecgoocfmdaa
open Go.RowKit Sm

theorem both_to (n : Nat) (l : Int) (a b : ByteArray) (w : Int) (W : World) (ha : a.size ≤ 4096) (hb : b.size ≤ 4096) (h : low (two a.data.toList b.data.toList) w = n) (hl : (a.size : Int) + (b.size : Int) = l) :
    Calls Try.prog 16 #[.string a, .string b, .int .i64 w] W fun e w' => e = .returned (.agg #[.int .u64 n, .int .i64 l]) ∧ Below W.heap.size W w' := by
  subst h hl; exact both_any a b w W ha hb
theorem of_to (n l : Nat) (s : ByteArray) (w : Int) (W : World) (hs : s.size ≤ 4096) (h : low (run 0 s.data.toList) w = n) (hl : s.size = l) :
    Calls Try.prog 14 #[.string s, .int .i64 w] W fun e w' => e = .returned (.agg #[.int .u64 n, .int .i64 l]) ∧ Below W.heap.size W w' := by
  subst h hl; exact of_any s w W hs
theorem pow_wrap (v : Int) (h0 : 0 ≤ v) (h1 : v ≤ 63) : ∃ m : Nat, m = 2 ^ v.toNat ∧ IntKind.u64.wrap (2 ^ v.toNat) = (m : Int) ∧ 1 ≤ m ∧ m ≤ 9223372036854775808 := by
  have h2 : 2 ^ v.toNat ≤ 2 ^ 63 := Nat.pow_le_pow_right (by decide) (by omega)
  have h3 : 0 < 2 ^ v.toNat := Nat.pow_pos (by decide)
  refine ⟨_, rfl, ?_, h3, h2⟩
  have e : ((2 : Int) ^ v.toNat) = ((2 ^ v.toNat : Nat) : Int) := by simp
  rw [e, IntKind.wrap_u64]
  generalize 2 ^ v.toNat = p at *
  omega

theorem below_drewN {B : Nat} {a w : World} (h : Below B a w) (n : Nat) : Below B a (w.drewN n) := ⟨h.os, h.tape, h.output, h.size, h.block⟩
theorem below_step {v W w' : World} (h : Below v.heap.size v W) (h2 : Below W.heap.size W w') : Below v.heap.size v w' := h.trans (h2.mono h.size)
theorem lt_of_cell {w : World} {p : Addr} {v : Value} (h : w.cell? p = some v) : p.block < w.heap.size := by
  rcases Nat.lt_or_ge p.block w.heap.size with g | g
  · exact g
  · simp [World.cell?, Array.getElem?_eq_none g] at h
/-- what lies in the two boxes -/
def Boxes (w0 : World) (g b : Nat) (gx gy low far : Value) (W : World) : Prop :=
  W.cell? ⟨g, 0, none⟩ = some gx ∧ W.cell? ⟨g, 1, none⟩ = some gy ∧ W.cell? ⟨b, 0, none⟩ = some low ∧ W.cell? ⟨b, 1, none⟩ = some far ∧ Below w0.heap.size w0 W
theorem Boxes.below {w0 W w' : World} {g b : Nat} {gx gy low far : Value} (h : Boxes w0 g b gx gy low far W) (hb : Below W.heap.size W w') : Boxes w0 g b gx gy low far w' := by
  obtain ⟨h1, h2, h3, h4, h5⟩ := h
  refine ⟨?_, ?_, ?_, ?_, below_step h5 hb⟩
  · rw [hb.cell (p := ⟨g, 0, none⟩) (lt_of_cell h1 :)]; exact h1
  · rw [hb.cell (p := ⟨g, 1, none⟩) (lt_of_cell h2 :)]; exact h2
  · rw [hb.cell (p := ⟨b, 0, none⟩) (lt_of_cell h3 :)]; exact h3
  · rw [hb.cell (p := ⟨b, 1, none⟩) (lt_of_cell h4 :)]; exact h4
theorem Boxes.drew {w0 W : World} {g b : Nat} {gx gy low far : Value} (h : Boxes w0 g b gx gy low far W) : Boxes w0 g b gx gy low far W.drew :=
  ⟨h.1, h.2.1, h.2.2.1, h.2.2.2.1, below_drewN h.2.2.2.2 1⟩

set_option maxHeartbeats 4000000 in
set_option maxRecDepth 100000 in
theorem width_walk (a b : ByteArray) (one two_ : Int) (W : World) (ha : a.size ≤ 140737488355328) (hb : b.size ≤ 140737488355328) (h0 : -9223372036854775808 ≤ one) (h1 : one ≤ 9223372036854775807) (h2 : -9223372036854775808 ≤ two_) (h3 : two_ ≤ 9223372036854775807) :
    Calls Try.prog 4 #[.string a, .string b, .int .i64 one, .int .i64 two_] W fun e w' => e = .returned (.bool true) ∧ Below W.heap.size W w' := by
  have hx : (a.extract 0 (min (a.size : Int) 200).toNat).size ≤ 200 := cut_size a 200
  have hy : (b.extract 0 (min (b.size : Int) 200).toNat).size ≤ 200 := cut_size b 200
  obtain ⟨v0, v1⟩ := pk_range one 64 (by omega)
  obtain ⟨z0, z1⟩ := pk_range two_ 64 (by omega)
  go_enter Try.func4, Try.ntmps4
  go_wp2_with fail
  refine (awake_any _).mono ?_
  rintro e W1 ⟨rfl, hb1⟩
  go_wp2_with fail
  refine (pick_any _ _ _ (by omega) (by omega) h0 h1).mono ?_
  rintro e w' ⟨rfl, rfl⟩
  go_wp2_with fail
  refine (pick_any _ _ _ (by omega) (by omega) h2 h3).mono ?_
  rintro e w' ⟨rfl, rfl⟩
  generalize a.extract 0 (min (a.size : Int) 200).toNat = x at *
  generalize b.extract 0 (min (b.size : Int) 200).toNat = y at *
  generalize pk one 64 = v at *
  generalize pk two_ 64 = z at *
  obtain ⟨m, hm, hmw, hm1, hm2⟩ := pow_wrap v v0 (by omega)
  have HM := Lib.hid hm
  clear hm
  have hvw : v ≤ min (v + z) 64 := by omega
  have hw64 : min (v + z) 64 ≤ 64 := by omega
  go_wp2_with fail
  generalize min (v + z) 64 = w at *
  obtain ⟨P, eP⟩ : ∃ n, low (two x.data.toList y.data.toList) w = n := ⟨_, rfl⟩
  obtain ⟨Q, eQ⟩ : ∃ n, low (two x.data.toList y.data.toList) v = n := ⟨_, rfl⟩
  obtain ⟨S1, eS1⟩ : ∃ n, low (run 0 x.data.toList) v = n := ⟨_, rfl⟩
  obtain ⟨S2, eS2⟩ : ∃ n, low (run 0 x.data.toList) w = n := ⟨_, rfl⟩
  obtain ⟨S3, eS3⟩ : ∃ n, low (run 0 x.data.toList) 64 = n := ⟨_, rfl⟩
  obtain ⟨L, eL⟩ : ∃ n : Int, (x.size : Int) + (y.size : Int) = n := ⟨_, rfl⟩
  have fPQ : (P : Int) % (m : Int) = (Q : Int) := by
    have := low_mod (two x.data.toList y.data.toList) hvw v0 (by omega)
    rw [← HM.out, eP, eQ] at this
    exact_mod_cast this
  have fS : (S2 : Int) % (m : Int) = (S1 : Int) := by
    have := low_mod (run 0 x.data.toList) hvw v0 (by omega)
    rw [← HM.out, eS1, eS2] at this
    exact_mod_cast this
  have q1 := Lib.hid eP
  have q2 := Lib.hid eQ
  have q3 := Lib.hid eS1
  have q4 := Lib.hid eS2
  have q5 := Lib.hid eS3
  have q6 := Lib.hid eL
  have q7 := Lib.hid (show low (run 0 x.data.toList) (64 + v) = S3 by rw [← eS3, low_all (run_lt M_pos _) (by omega), low_all (run_lt M_pos _) (by omega)])
  clear eP eQ eS1 eS2 eS3 eL
  have HP := Lib.hid fPQ
  have HS := Lib.hid fS
  clear fPQ fS
  refine (both_to P L x y w _ (by omega) (by omega) q1.out q6.out).mono ?_
  rintro e W2 ⟨rfl, hb2⟩
  replace hb1 := hb1.trans (hb2.mono hb1.size)
  have hs2 := hb1.size
  clear hb2
  go_wp2_with fail
  refine (both_to Q L x y v _ (by omega) (by omega) q2.out q6.out).mono ?_
  rintro e W3 ⟨rfl, hb3⟩
  have hc : W3.cell? ⟨W2.heap.size, 0, none⟩ = some (.int .u64 P) := by
    rw [hb3.cell (p := ⟨W2.heap.size, 0, none⟩) (by simp)]; simp [go_sem]
  have hc' : W3.cell? ⟨W2.heap.size, 1, none⟩ = some (.int .i64 L) := by
    rw [hb3.cell (p := ⟨W2.heap.size, 1, none⟩) (by simp)]; simp [go_sem]
  have hb13 : Below W.heap.size W W3 := (hb1.alloc hs2 _).trans (hb3.mono (by simp; omega))
  have hz3 := hb3.size
  simp at hz3
  clear hb3
  go_wp2_with fail
  have h4 : Boxes W W2.heap.size W3.heap.size (.int .u64 P) (.int .i64 L) (.int .u64 Q) (.int .i64 L) (W3.alloc (.cells #[.int .u64 Q, .int .i64 L] 29)) := by
    refine ⟨?_, ?_, ?_, ?_, hb13.alloc hb13.size _⟩
    · rw [World.cell?_alloc_lt _ _ _ (by simp; omega)]; exact hc
    · rw [World.cell?_alloc_lt _ _ _ (by simp; omega)]; exact hc'
    · simp [go_sem]
    · simp [go_sem]
  generalize W2.heap.size = p at *
  generalize W3.heap.size = q at *
  generalize W3.alloc (.cells #[.int .u64 Q, .int .i64 L] 29) = W4 at *
  clear hc hc' hb13 hb1 hs2 hz3
  have hxs : x.size ≤ 4096 := by omega
  have hys : y.size ≤ 4096 := by omega
  have u1 : IntKind.i64.wrap (64 + v) = 64 + v := IntWalk.i64_in _ (by omega)
  have u2 : IntKind.i64.wrap (-v) = -v := IntWalk.i64_in _ (by omega)
  have r0 := Lib.hid (show low (run 0 x.data.toList) 0 = 0 from low_none _ (Int.le_refl _))
  have r1 := Lib.hid (show low (run 0 y.data.toList) 0 = 0 from low_none _ (Int.le_refl _))
  have r2 := Lib.hid (show low (run 0 x.data.toList) (-v) = 0 from low_none _ (by omega))
  have fS : (S2 : Int).tmod (m : Int) = (S1 : Int) := by rw [Int.tmod_eq_emod_of_nonneg (by omega)]; exact HS.out
  have fPQ : (P : Int).tmod (m : Int) = (Q : Int) := by rw [Int.tmod_eq_emod_of_nonneg (by omega)]; exact HP.out
  clear hvw hw64 z0 z1 HM hmw
  have hz1 : ((m : Int) == 0) = false := by rw [beq_eq_false_iff_ne]; omega
  have hz2 : ¬ (m : Int) = 0 := by omega
  have hz3 : ¬ m = 0 := by omega
  obtain ⟨c, ec⟩ : ∃ c : Bool, ((x.size : Int) == (y.size : Int)) = c := ⟨_, rfl⟩
  cases c
  all_goals
    obtain ⟨hc1, hc2, hc3, hc4, hB1⟩ := h4
    simp only [List.append]
    go_region_held3 (fun w1 => w1.cell? ⟨p, 0, none⟩ = some (.int .u64 P) ∧ w1.cell? ⟨p, 1, none⟩ = some (.int .i64 L) ∧ w1.cell? ⟨q, 0, none⟩ = some (.int .u64 Q) ∧ w1.cell? ⟨q, 1, none⟩ = some (.int .i64 L) ∧ Below W.heap.size W w1)
      (first | exact Boxes.drew (by go_split_ands; exact ⟨by assumption, by assumption, by assumption, by assumption, by assumption⟩) | (go_split_ands; refine Boxes.below ⟨?_, ?_, ?_, ?_, ?_⟩ hb <;> assumption))
      (first
        | ((with_reducible refine (sum_to S1 x v _ hxs q3.out).mono ?_); rintro e w' ⟨rfl, rfl⟩)
        | ((with_reducible refine (sum_to S2 x w _ hxs q4.out).mono ?_); rintro e w' ⟨rfl, rfl⟩)
        | ((with_reducible refine (sum_to 0 x 0 _ hxs r0.out).mono ?_); rintro e w' ⟨rfl, rfl⟩)
        | ((with_reducible refine (of_to 0 _ x 0 _ hxs r0.out rfl).mono ?_); rintro e w' ⟨rfl, hb⟩)
        | ((with_reducible refine (of_to 0 _ y 0 _ hys r1.out rfl).mono ?_); rintro e w' ⟨rfl, hb⟩)
        | ((with_reducible refine (of_to S3 _ x (64 + v) _ hxs q7.out rfl).mono ?_); rintro e w' ⟨rfl, hb⟩)
        | ((with_reducible refine (of_to S3 _ x 64 _ hxs q5.out rfl).mono ?_); rintro e w' ⟨rfl, hb⟩)
        | ((with_reducible refine (of_to 0 _ x (-v) _ hxs r2.out rfl).mono ?_); rintro e w' ⟨rfl, hb⟩))
    go_wp2_with fail
    go_ret
    refine ⟨rfl, ?_⟩
    go_split_ands
    first
      | assumption
      | exact below_step (by assumption) hb
end Go.Proofs.Ytclbecgoocfmdaa
