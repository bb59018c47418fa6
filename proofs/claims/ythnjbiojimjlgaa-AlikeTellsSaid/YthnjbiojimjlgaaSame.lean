/-
  collatorlaw07.AlikeSame: whatever the raw numbers, it returns true; nothing that was there is changed.
-/
import Derived.Test.YthnjbiojimjlgaaAwake
namespace Go.Proofs.Ythnjbiojimjlgaa
open Go.RowKit
open Al

theorem row_cap {W : World} {base : Nat} {e : TypeId} {A : Option Addr} {n c : Nat} {xs : List Value} (h : W.ownsRow base e 1 (.slice A n c) n xs) : n ≤ c := by
  obtain ⟨_, _, hv, hc, _⟩ := row_shape h
  injection hv with _ _ hv
  subst hv
  exact hc
theorem few_sizes : ∀ i, i < 5 → (few.getD i ⟨#[]⟩).size ≤ 5 := by decide
theorem fewAt_size (z : Int) : (fewAt z).size ≤ 5 := by
  have h := pickI_range z 5 (by omega)
  exact few_sizes _ (by omega)
theorem plain_size {m : Nat} {zs : List Int} {s : ByteArray} (h : s ∈ plainL m zs) : s.size ≤ 5 := by
  unfold plainL at h
  obtain ⟨z, _, rfl⟩ := List.mem_map.1 h
  exact fewAt_size z
theorem lines_size {m : Nat} {zs : List Int} {s : ByteArray} (h : s ∈ linesL m zs) : s.size ≤ 5 := by
  unfold linesL at h
  split at h
  · rcases List.mem_or_eq_of_mem_set h with h | h
    · exact plain_size h
    · subst h; decide
  · exact plain_size h
theorem lines_len (m : Nat) (zs : List Int) : (linesL m zs).length ≤ m := by rw [linesL_length, plainL_length]; omega
theorem lines_fit {m : Nat} (hm : m ≤ 1000) (zs : List Int) : Fit (linesL m zs) :=
  ⟨by have := lines_len m zs; omega, fun s hs => by have := lines_size hs; unfold maxLen; omega⟩
/-- Lines, of m at most -/
theorem lines_at (m : Nat) (mi : Int) (hmi : (m : Int) = mi) (hm0 : m ≤ 1000) (hm1 : 0 < m) (A : Option Addr) (zs : List Int) (c : Nat) (w : World) (ha : Ints w w.heap.size A zs) (h1 : zs.length ≤ 140737488355328) (hz : ∀ z ∈ zs, -9223372036854775808 ≤ z ∧ z ≤ 9223372036854775807) :
    Calls Try.prog 9 #[.slice A zs.length c, .int .i64 mi] w fun e w' => ∃ A' c', e = .returned (.slice A' (linesL m zs).length c') ∧ Strs w' w'.heap.size A' (linesL m zs) ∧ (linesL m zs).length ≤ c' ∧ Below w.heap.size w w' := by
  subst hmi
  refine (lines_any m hm0 hm1 A zs c w ha (by omega) hz).mono ?_
  rintro e w' ⟨A', c', rfl, ho, hb⟩
  exact ⟨A', c', rfl, Strs.of_own ho, row_cap ho, hb⟩

/-- the same lines so far, each as often -/
def sameB (a b : List ByteArray) (k : Nat) : Bool := decide (a.length = b.length) && (a.take k).all fun x => decide (cnt x a = cnt x b)
/-- is one of them in both -/
def sharB (a b : List ByteArray) (k : Nat) : Bool := (a.take k).any fun x => decide (0 < cnt x b)
theorem sameB_zero (a b : List ByteArray) : sameB a b 0 = decide (a.length = b.length) := by simp [sameB]
theorem sharB_zero (a b : List ByteArray) : sharB a b 0 = false := by simp [sharB]
theorem sameB_step {a b : List ByteArray} {k : Nat} {x : ByteArray} (hx : a[k]? = some x) : sameB a b (k + 1) = (sameB a b k && decide (cnt x a = cnt x b)) := by
  obtain ⟨hl, rfl⟩ := List.getElem?_eq_some_iff.1 hx
  unfold sameB
  rw [List.take_succ_eq_append_getElem hl, List.all_append]
  simp [Bool.and_assoc]
theorem sharB_step {a b : List ByteArray} {k : Nat} {x : ByteArray} (hx : a[k]? = some x) : sharB a b (k + 1) = (sharB a b k || decide (0 < cnt x b)) := by
  obtain ⟨hl, rfl⟩ := List.getElem?_eq_some_iff.1 hx
  unfold sharB
  rw [List.take_succ_eq_append_getElem hl, List.any_append]
  simp
theorem same_end {a b : List ByteArray} {k : Nat} (hk : a.length ≤ k) : sameB a b k = decide (score a b = 100) := by
  unfold sameB
  rw [List.take_of_length_le hk, Bool.eq_iff_iff]
  simp only [Bool.and_eq_true, decide_eq_true_eq, List.all_eq_true]
  rw [score_all]
  exact (same_iff a b).symm
theorem shar_end {a b : List ByteArray} {k : Nat} (hk : a.length ≤ k) : sharB a b k = !decide (cm a b = 0) := by
  unfold sharB
  rw [List.take_of_length_le hk, Bool.eq_iff_iff]
  simp only [List.any_eq_true, decide_eq_true_eq, Bool.not_eq_true', decide_eq_false_iff_not]
  exact shar_iff a b
/-- one of these holds -/
theorem or_end {a b : List ByteArray} (h0 : cm a b = 0) (h1 : ¬ score a b = 100) : score a b = 0 := by
  refine score_zero h0 fun e => h1 ?_
  unfold score
  rw [if_pos e]

/-- how the law's loop stands -/
def SameAt (w : World) (A B : Option Addr) (a b : List ByteArray) (k : Nat) (s8 s9 : Value) (wr : World) : Prop :=
  s8 = .bool (sameB a b k) ∧ s9 = .bool (sharB a b k) ∧ Strs wr wr.heap.size A a ∧ Strs wr wr.heap.size B b ∧ Below w.heap.size w wr

set_option maxHeartbeats 2000000 in
set_option maxRecDepth 100000 in
theorem same_walk (A B : Option Addr) (zs ts : List Int) (c d : Nat) (w : World) (ha : Ints w w.heap.size A zs) (hb : Ints w w.heap.size B ts) (h1 : zs.length ≤ 140737488355328) (h2 : ts.length ≤ 140737488355328)
    (hz : ∀ z ∈ zs, -9223372036854775808 ≤ z ∧ z ≤ 9223372036854775807) (ht : ∀ z ∈ ts, -9223372036854775808 ≤ z ∧ z ≤ 9223372036854775807) :
    Calls Try.prog 5 #[.slice A zs.length c, .slice B ts.length d] w fun e w' => e = .returned (.bool true) ∧ Below w.heap.size w w' := by
  have HZ := Lib.hid hz
  have HT := Lib.hid ht
  clear hz ht
  go_enter Try.func5, Try.ntmps5
  go_wp2_with fail
  refine (awake_any _).mono ?_
  rintro e w1 ⟨rfl, hb1⟩
  go_wp2_with fail
  refine (lines_at 30 30 rfl (by omega) (by omega) _ zs _ _ (ha.up hb1) h1 HZ.out).mono ?_
  rintro e w2 ⟨A2, c2, rfl, ho2, hc2, hb2⟩
  replace hb1 := hb1.trans (hb2.mono hb1.size)
  go_wp2_with fail
  refine (lines_at 30 30 rfl (by omega) (by omega) _ ts _ _ (hb.up hb1) h2 HT.out).mono ?_
  rintro e w3 ⟨A3, c3, rfl, ho3, hc3, hb3⟩
  replace hb1 := hb1.trans (hb3.mono hb1.size)
  replace ho2 := ho2.up hb3
  have hf2 := lines_fit (m := 30) (by omega) zs
  have hf3 := lines_fit (m := 30) (by omega) ts
  generalize linesL 30 zs = a at *
  generalize linesL 30 ts = b at *
  clear hb2 hb3 ha hb HZ HT
  obtain ⟨hl2, hs2⟩ := hf2
  obtain ⟨hl3, hs3⟩ := hf3
  have HS2 := Lib.hid hs2
  have HS3 := Lib.hid hs3
  clear hs2 hs3
  have h0 : ∃ r : Bool, r = decide (a.length = b.length) := ⟨_, rfl⟩
  obtain ⟨r, hr⟩ := h0
  have hr' : (((a.length : Int) == (b.length : Int)) : Bool) = r := by
    rw [hr, Bool.eq_iff_iff]
    simp
    omega
  have HR := Lib.hid hr
  clear hr
  go_wp2_with fail
  clear hr'
  go_loopw [8, 9, 10] (fun s8 s9 i wr => ∃ k : Nat, k ≤ a.length ∧ i = .int .i64 k ∧ SameAt w A2 A3 a b k s8 s9 wr) (fun _ _ i _ => a.length - (intOf i).toNat)
  case atStart => exact ⟨0, Nat.zero_le _, rfl, by rw [sameB_zero, HR.out], by rw [sharB_zero], ho2, ho3, hb1⟩
  case round =>
    obtain ⟨k, hk, rfl, rfl, rfl, ho2', ho3', hb1'⟩ := hrel
    clear ho2 ho3 hb1
    by_cases g1 : k < a.length
    · obtain ⟨ad, rfl, hab, hca0⟩ := ho2'.at_ g1
      obtain ⟨x, hx⟩ : ∃ x, x = a[k] := ⟨_, rfl⟩
      have hca : wr.cell? (ad.add k) = some (.string x) := by rw [hx]; exact hca0
      have hx' := at_getD g1 hx
      have HM := Lib.hid (sameB_step (b := b) hx')
      have HH := Lib.hid (sharB_step (b := b) hx')
      clear hca0 hx hx'
      generalize sameB a b k = sm at *
      generalize sharB a b k = sh at *
      cases sm with
      | true =>
        by_cases g2 : cnt x a = cnt x b
        · have e2 : (((cnt x a : Int) == (cnt x b : Int)) : Bool) = true := by rw [g2]; simp
          rw [decide_eq_true g2] at HM
          clear g2
          go_wp2_with fail
          go_quiet ((go_at_call 17; exact (times_any _ _ _ wr.heap.size _ _ (by first | exact ho2'.drewN _ | exact ho3'.drewN _) (by omega)).mono fun _ _ ⟨he, hm⟩ => ⟨he, _, hm.symm⟩))
          clear e2
          cases sh with
          | true =>
            go_wp2_with fail
            go_roundw
            case rel => exact ⟨k + 1, by omega, by go_num, by rw [HM.out]; rfl, by rw [HH.out]; rfl, ho2'.drewN nq, ho3'.drewN nq, below_drewN hb1' nq⟩
            case measure => simp [intOf]; omega
          | false =>
            go_wp2_with fail
            refine (times_any A3 b c3 wr.heap.size x _ (ho3'.drewN nq) (by omega)).mono ?_
            rintro e w5 ⟨rfl, rfl⟩
            go_wp2_with fail
            go_roundw
            case rel => exact ⟨k + 1, by omega, by go_num, by rw [HM.out]; rfl, by rw [HH.out]; simp, ho2'.drewN nq, ho3'.drewN nq, below_drewN hb1' nq⟩
            case measure => simp [intOf]; omega
        · have e2 : (((cnt x a : Int) == (cnt x b : Int)) : Bool) = false := by rw [beq_eq_false_iff_ne]; omega
          rw [decide_eq_false g2] at HM
          clear g2
          go_wp2_with fail
          go_quiet ((go_at_call 17; exact (times_any _ _ _ wr.heap.size _ _ (by first | exact ho2'.drewN _ | exact ho3'.drewN _) (by omega)).mono fun _ _ ⟨he, hm⟩ => ⟨he, _, hm.symm⟩))
          clear e2
          cases sh with
          | true =>
            go_wp2_with fail
            go_roundw
            case rel => exact ⟨k + 1, by omega, by go_num, by rw [HM.out]; rfl, by rw [HH.out]; rfl, ho2'.drewN nq, ho3'.drewN nq, below_drewN hb1' nq⟩
            case measure => simp [intOf]; omega
          | false =>
            go_wp2_with fail
            refine (times_any A3 b c3 wr.heap.size x _ (ho3'.drewN nq) (by omega)).mono ?_
            rintro e w5 ⟨rfl, rfl⟩
            go_wp2_with fail
            go_roundw
            case rel => exact ⟨k + 1, by omega, by go_num, by rw [HM.out]; rfl, by rw [HH.out]; simp, ho2'.drewN nq, ho3'.drewN nq, below_drewN hb1' nq⟩
            case measure => simp [intOf]; omega
      | false =>
        go_wp2_with fail
        go_quiet (fail)
        cases sh with
        | true =>
          go_wp2_with fail
          go_roundw
          case rel => exact ⟨k + 1, by omega, by go_num, by rw [HM.out]; rfl, by rw [HH.out]; rfl, ho2'.drewN nq, ho3'.drewN nq, below_drewN hb1' nq⟩
          case measure => simp [intOf]; omega
        | false =>
          go_wp2_with fail
          refine (times_any A3 b c3 wr.heap.size x _ (ho3'.drewN nq) (by omega)).mono ?_
          rintro e w5 ⟨rfl, rfl⟩
          go_wp2_with fail
          go_roundw
          case rel => exact ⟨k + 1, by omega, by go_num, by rw [HM.out]; rfl, by rw [HH.out]; simp, ho2'.drewN nq, ho3'.drewN nq, below_drewN hb1' nq⟩
          case measure => simp [intOf]; omega
    · have e1 := same_end (a := a) (b := b) (k := k) (by omega)
      have e2 := shar_end (a := a) (b := b) (k := k) (by omega)
      rw [e1, e2]
      clear e1 e2
      by_cases q1 : score a b = 100
      · have f1 : (((score a b : Int) == 100) : Bool) = true := by rw [q1]; rfl
        rw [decide_eq_true q1]
        clear q1
        by_cases q2 : cm a b = 0
        · have f2 : (((cm a b : Int) == 0) : Bool) = true := by rw [q2]; rfl
          rw [decide_eq_true q2]
          clear q2
          go_wp2_with fail
          refine (score_any A2 A3 a b c2 c3 _ ho2' ho3' hl2 hl3 HS2.out HS3.out).mono ?_
          rintro e w4 ⟨rfl, hb4⟩
          replace ho2' := ho2'.up hb4
          replace ho3' := ho3'.up hb4
          replace hb1' := hb1'.trans (hb4.mono hb1'.size)
          clear hb4
          go_wp2_with fail
          refine (common_any A2 A3 a b c2 c3 _ ho2' ho3' hl2 hl3 HS2.out HS3.out).mono ?_
          rintro e w5 ⟨rfl, hb4⟩
          replace ho2' := ho2'.up hb4
          replace ho3' := ho3'.up hb4
          replace hb1' := hb1'.trans (hb4.mono hb1'.size)
          clear hb4
          go_wp2_with fail
          refine (common_at A2 A2 a a a.length a.length c2 c2 a.length _ ho2' ho2' rfl rfl ⟨hl2, HS2.out⟩ ⟨hl2, HS2.out⟩ (by rw [cm_self])).mono ?_
          rintro e w7 ⟨rfl, hb4⟩
          go_wp2_with fail
          go_ret
          exact ⟨rfl, hb1'.trans (hb4.mono hb1'.size)⟩
        · have f2 : (((cm a b : Int) == 0) : Bool) = false := by rw [beq_eq_false_iff_ne]; omega
          rw [decide_eq_false q2]
          clear q2
          go_wp2_with fail
          refine (score_any A2 A3 a b c2 c3 _ ho2' ho3' hl2 hl3 HS2.out HS3.out).mono ?_
          rintro e w4 ⟨rfl, hb4⟩
          replace ho2' := ho2'.up hb4
          replace ho3' := ho3'.up hb4
          replace hb1' := hb1'.trans (hb4.mono hb1'.size)
          clear hb4
          go_wp2_with fail
          refine (common_any A2 A3 a b c2 c3 _ ho2' ho3' hl2 hl3 HS2.out HS3.out).mono ?_
          rintro e w5 ⟨rfl, hb4⟩
          replace ho2' := ho2'.up hb4
          replace ho3' := ho3'.up hb4
          replace hb1' := hb1'.trans (hb4.mono hb1'.size)
          clear hb4
          go_wp2_with fail
          refine (common_at A2 A2 a a a.length a.length c2 c2 a.length _ ho2' ho2' rfl rfl ⟨hl2, HS2.out⟩ ⟨hl2, HS2.out⟩ (by rw [cm_self])).mono ?_
          rintro e w7 ⟨rfl, hb4⟩
          go_wp2_with fail
          go_ret
          exact ⟨rfl, hb1'.trans (hb4.mono hb1'.size)⟩
      · have f1 : (((score a b : Int) == 100) : Bool) = false := by rw [beq_eq_false_iff_ne]; omega
        rw [decide_eq_false q1]
        by_cases q2 : cm a b = 0
        · have f2 : (((cm a b : Int) == 0) : Bool) = true := by rw [q2]; rfl
          have f3 : (((score a b : Int) == 0) : Bool) = true := by rw [or_end q2 q1]; rfl
          rw [decide_eq_true q2]
          clear q2 q1
          go_wp2_with fail
          refine (score_any A2 A3 a b c2 c3 _ ho2' ho3' hl2 hl3 HS2.out HS3.out).mono ?_
          rintro e w4 ⟨rfl, hb4⟩
          replace ho2' := ho2'.up hb4
          replace ho3' := ho3'.up hb4
          replace hb1' := hb1'.trans (hb4.mono hb1'.size)
          clear hb4
          go_wp2_with fail
          refine (common_any A2 A3 a b c2 c3 _ ho2' ho3' hl2 hl3 HS2.out HS3.out).mono ?_
          rintro e w5 ⟨rfl, hb4⟩
          replace ho2' := ho2'.up hb4
          replace ho3' := ho3'.up hb4
          replace hb1' := hb1'.trans (hb4.mono hb1'.size)
          clear hb4
          go_wp2_with fail
          refine (score_any A2 A3 a b c2 c3 _ ho2' ho3' hl2 hl3 HS2.out HS3.out).mono ?_
          rintro e w6 ⟨rfl, hb4⟩
          replace ho2' := ho2'.up hb4
          replace hb1' := hb1'.trans (hb4.mono hb1'.size)
          clear hb4
          go_wp2_with fail
          refine (common_at A2 A2 a a a.length a.length c2 c2 a.length _ ho2' ho2' rfl rfl ⟨hl2, HS2.out⟩ ⟨hl2, HS2.out⟩ (by rw [cm_self])).mono ?_
          rintro e w7 ⟨rfl, hb4⟩
          go_wp2_with fail
          go_ret
          exact ⟨rfl, hb1'.trans (hb4.mono hb1'.size)⟩
        · have f2 : (((cm a b : Int) == 0) : Bool) = false := by rw [beq_eq_false_iff_ne]; omega
          rw [decide_eq_false q2]
          clear q2 q1
          go_wp2_with fail
          refine (score_any A2 A3 a b c2 c3 _ ho2' ho3' hl2 hl3 HS2.out HS3.out).mono ?_
          rintro e w4 ⟨rfl, hb4⟩
          replace ho2' := ho2'.up hb4
          replace ho3' := ho3'.up hb4
          replace hb1' := hb1'.trans (hb4.mono hb1'.size)
          clear hb4
          go_wp2_with fail
          refine (common_any A2 A3 a b c2 c3 _ ho2' ho3' hl2 hl3 HS2.out HS3.out).mono ?_
          rintro e w5 ⟨rfl, hb4⟩
          replace ho2' := ho2'.up hb4
          replace ho3' := ho3'.up hb4
          replace hb1' := hb1'.trans (hb4.mono hb1'.size)
          clear hb4
          go_wp2_with fail
          refine (common_at A2 A2 a a a.length a.length c2 c2 a.length _ ho2' ho2' rfl rfl ⟨hl2, HS2.out⟩ ⟨hl2, HS2.out⟩ (by rw [cm_self])).mono ?_
          rintro e w7 ⟨rfl, hb4⟩
          go_wp2_with fail
          go_ret
          exact ⟨rfl, hb1'.trans (hb4.mono hb1'.size)⟩

end Go.Proofs.Ythnjbiojimjlgaa
