/-
  collatorlaw09.SumsOne: whatever the text, the place, the byte and the width, it returns true.
-/
import Derived.Test.YtclbecgoocfmdaaBoth
namespace Go.Proofs.Ytclbecgoocfmdaa
open Go.RowKit Sm

theorem one_byte_at (c : UInt8) (b : Nat) (w : World) (h : w.cell? ⟨b, 0, none⟩ = some (.int .u8 (c.toNat : Int))) : (convert 35 9 (.slice (some ⟨b, 0, none⟩) 1 1)).run Try.prog w = .ok (.string ⟨#[c]⟩) w :=
  run_convert_bytes_back _ 35 9 5 ⟨b, 0, none⟩ 1 [c] (by kernel_rfl) (by kernel_rfl) (by kernel_rfl) (fun j hj => by
    have : j = 0 := by simp at hj; omega
    subst this
    simpa [go_sem] using h)

theorem below_drewN {B : Nat} {a w : World} (h : Below B a w) (n : Nat) : Below B a (w.drewN n) := ⟨h.os, h.tape, h.output, h.size, h.block⟩
theorem below_step {v W w' : World} (h : Below v.heap.size v W) (h2 : Below W.heap.size W w') : Below v.heap.size v w' := h.trans (h2.mono h.size)
theorem of_to (n l : Nat) (s : ByteArray) (w : Int) (W : World) (hs : s.size ≤ 4096) (h : low (run 0 s.data.toList) w = n) (hl : s.size = l) :
    Calls Try.prog 14 #[.string s, .int .i64 w] W fun e w' => e = .returned (.agg #[.int .u64 n, .int .i64 l]) ∧ Below W.heap.size W w' := by
  subst h hl; exact of_any s w W hs
/-- a text, and the same with another byte in one place -/
theorem parted (x : ByteArray) (j : Nat) (hj : j < x.size) (k : UInt8) : ∃ (A B : List UInt8) (d : UInt8), x.data.toList = A ++ d :: B ∧ (x.extract 0 j ++ ⟨#[k]⟩ ++ x.extract (j + 1) x.size).data.toList = A ++ k :: B := by
  have hl : x.data.toList.length = x.size := by rw [Lib.size_eq]
  refine ⟨x.data.toList.take j, x.data.toList.drop (j + 1), x.data.toList[j]'(by omega), ?_, ?_⟩
  · rw [← List.drop_eq_getElem_cons (by omega), List.take_append_drop]
  · rw [txt_app, txt_app, ByteArray.data_extract, ByteArray.data_extract]
    have e1 : (x.data.extract 0 j).toList = x.data.toList.take j := by simp
    have e2 : (x.data.extract (j + 1) x.size).toList = x.data.toList.drop (j + 1) := by
      rw [Array.toList_extract, List.extract_eq_take_drop, List.take_of_length_le]
      rw [List.length_drop, hl]; omega
    rw [e1, e2]
    simp
theorem text_ext {x y : ByteArray} (h : x.data.toList = y.data.toList) : x = y := by
  cases x; cases y; congr 1; exact Array.ext' h

set_option maxHeartbeats 4000000 in
set_option maxRecDepth 100000 in
theorem one_walk (s : ByteArray) (at_ : Int) (c : Int) (width : Int) (W : World) (hs : s.size ≤ 140737488355328) (g0 : -9223372036854775808 ≤ at_) (g1 : at_ ≤ 9223372036854775807) (h0 : 0 ≤ c) (h1 : c < 256) (g2 : -9223372036854775808 ≤ width) (g3 : width ≤ 9223372036854775807) :
    Calls Try.prog 6 #[.string s, .int .i64 at_, .int .u8 c, .int .i64 width] W fun e w' => e = .returned (.bool true) ∧ Below W.heap.size W w' := by
  have hx : (s.extract 0 (min (s.size : Int) 200).toNat).size ≤ 200 := cut_size s 200
  obtain ⟨k, hk⟩ : ∃ k : UInt8, (k.toNat : Int) = c := ⟨UInt8.ofNat c.toNat, by rw [UInt8.toNat_ofNat']; omega⟩
  subst hk
  clear h0 h1
  have hk := k.toNat_lt
  obtain ⟨x, ex⟩ : ∃ x, s.extract 0 (min (s.size : Int) 200).toNat = x := ⟨_, rfl⟩
  rw [ex] at hx
  by_cases hz : x.size = 0
  · have hz' : ((x.size : Int) == 0) = true := by rw [hz]; rfl
    clear hz
    go_enter Try.func6, Try.ntmps6
    go_wp2_with fail
    refine (awake_any _).mono ?_
    rintro e W1 ⟨rfl, hb1⟩
    go_wp2_with fail
    go_ret
    exact ⟨rfl, hb1⟩
  · have hz' : ((x.size : Int) == 0) = false := by rw [beq_eq_false_iff_ne]; omega
    have hz2 : 1 ≤ x.size := by omega
    clear hz
    go_enter Try.func6, Try.ntmps6
    go_wp2_with fail
    refine (awake_any _).mono ?_
    rintro e W1 ⟨rfl, hb1⟩
    go_wp2_with fail
    clear hz' ex
    obtain ⟨q0, q1⟩ := pk_range at_ x.size (by omega)
    refine (pick_any _ _ _ (by omega) (by omega) g0 g1).mono ?_
    rintro e w' ⟨rfl, rfl⟩
    obtain ⟨j, hj⟩ : ∃ j : Nat, pk at_ x.size = j := ⟨_, (Int.toNat_of_nonneg q0).symm⟩
    rw [hj] at q0 q1 ⊢
    clear hj
    have u1 : IntKind.i64.wrap ((j : Int) + 1) = (j : Int) + 1 := IntWalk.i64_in _ (by omega)
    have u2 : ((j : Int) + 1).toNat = j + 1 := by omega
    have u3 : (0 : Int) ≤ (j : Int) + 1 := by omega
    have u4 : (j : Int) + 1 ≤ (x.size : Int) := by omega
    have u5 : (j : Int) ≤ (x.size : Int) := by omega
    have hrun : (convert 35 9 (.slice (some ⟨W1.heap.size, 0, none⟩) 1 1)).run Try.prog (W1.alloc (.cells #[.int .u8 (k.toNat : Int)] 5)).drew = .ok (.string ⟨#[k]⟩) (W1.alloc (.cells #[.int .u8 (k.toNat : Int)] 5)).drew := one_byte_at k _ _ (by simp [go_sem])
    go_wp2_with fail
    go_region
    all_goals
      clear hrun u1 u2 u3
      have hb2 : Below W.heap.size W (W1.alloc (.cells #[.int .u8 (k.toNat : Int)] 5)).drew := below_drewN (hb1.alloc hb1.size _) 1
      go_wp2_with fail
      obtain ⟨w0, w1⟩ := pk_range width 57 (by omega)
      refine (pick_any _ _ _ (by omega) (by omega) g2 g3).mono ?_
      rintro e w' ⟨rfl, rfl⟩
      generalize (W1.alloc (.cells #[.int .u8 (k.toNat : Int)] 5)).drew = W2 at *
      generalize pk width 57 = z at *
      obtain ⟨A, B, d, exl, eyl⟩ := parted x j (by omega) k
      generalize x.extract 0 j ++ ⟨#[k]⟩ ++ x.extract (j + 1) x.size = y at *
      have hsz : y.size = x.size := by rw [Lib.size_eq, Lib.size_eq, exl, eyl]; simp
      have hxy : x = y ↔ d = k := by
        constructor
        · intro e
          rw [e, eyl] at exl
          simpa using exl.symm
        · rintro rfl
          exact text_ext (by rw [exl, eyl])
      have hone := low_one 0 A B d k (w := 8 + z) (by omega)
      rw [← exl, ← eyl] at hone
      have htwo := low_two_first (a := x.data.toList) (a' := y.data.toList) (⟨#[113]⟩ : ByteArray).data.toList (8 + z)
      obtain ⟨n1, e1⟩ : ∃ n, low (run 0 x.data.toList) (8 + z) = n := ⟨_, rfl⟩
      obtain ⟨n2, e2⟩ : ∃ n, low (run 0 y.data.toList) (8 + z) = n := ⟨_, rfl⟩
      obtain ⟨m1, e3⟩ : ∃ n, low (two x.data.toList (⟨#[113]⟩ : ByteArray).data.toList) (8 + z) = n := ⟨_, rfl⟩
      obtain ⟨m2, e4⟩ : ∃ n, low (two y.data.toList (⟨#[113]⟩ : ByteArray).data.toList) (8 + z) = n := ⟨_, rfl⟩
      rw [e1, e2] at hone
      rw [e1, e2, e3, e4] at htwo
      have q1 := Lib.hid e1
      have q2 := Lib.hid e2
      have q3 := Lib.hid e3
      have q4 := Lib.hid e4
      have hl1 : (⟨#[113]⟩ : ByteArray).size = 1 := rfl
      have HL := Lib.hid hl1
      have HS := Lib.hid hsz
      have hxs : x.size ≤ 4096 := by omega
      have hys : y.size ≤ 4096 := by omega
      have HD := Lib.hid (show n1 = n2 ↔ x = y from hone.trans hxy.symm)
      have HD2 := Lib.hid (show m1 = m2 ↔ x = y from htwo.trans (hone.trans hxy.symm))
      clear e1 e2 e3 e4 hone htwo hxy exl eyl hl1 hsz
      by_cases he : x = y
      · have f1 : n1 = n2 := HD.out.2 he
        have f2 : m1 = m2 := HD2.out.2 he
        subst f1 f2 he
        go_wp2_with fail
        refine (sum_to n1 x _ _ hxs q1.out).mono ?_
        rintro e w' ⟨rfl, rfl⟩
        go_wp2_with fail
        refine (sum_to n1 x _ _ hxs q1.out).mono ?_
        rintro e w' ⟨rfl, rfl⟩
        go_wp2_with fail
        refine (of_to n1 _ x _ _ hxs q1.out rfl).mono ?_
        rintro e w3 ⟨rfl, hb3⟩
        replace hb2 := below_step hb2 hb3
        clear hb3
        go_wp2_with fail
        refine (of_to n1 _ x _ _ hxs q1.out rfl).mono ?_
        rintro e w4 ⟨rfl, hb4⟩
        replace hb2 := below_step hb2 hb4
        clear hb4
        go_wp2_with fail
        refine (both_to m1 ((x.size : Int) + 1) x ⟨#[113]⟩ _ _ hxs (by decide) q3.out rfl).mono ?_
        rintro e w5 ⟨rfl, hb5⟩
        replace hb2 := below_step hb2 hb5
        clear hb5
        go_wp2_with fail
        refine (both_to m1 ((x.size : Int) + 1) x ⟨#[113]⟩ _ _ hxs (by decide) q3.out rfl).mono ?_
        rintro e w6 ⟨rfl, hb6⟩
        replace hb2 := below_step hb2 hb6
        clear hb6
        go_wp2_with fail
        go_ret
        exact ⟨rfl, hb2⟩
      · have f1 := ne_beq (show ¬ n1 = n2 from fun e => he (HD.out.1 e))
        have f2 := ne_beq (show ¬ m1 = m2 from fun e => he (HD2.out.1 e))
        have f3 : (x.toList == y.toList) = false := by rw [Lib.toList_data, Lib.toList_data, beq_eq_false_iff_ne]; exact fun e => he (text_ext e)
        go_wp2_with fail
        refine (sum_to n1 x _ _ hxs q1.out).mono ?_
        rintro e w' ⟨rfl, rfl⟩
        go_wp2_with fail
        refine (sum_to n2 y _ _ hys q2.out).mono ?_
        rintro e w' ⟨rfl, rfl⟩
        go_wp2_with fail
        refine (of_to n1 x.size x _ _ hxs q1.out rfl).mono ?_
        rintro e w3 ⟨rfl, hb3⟩
        replace hb2 := below_step hb2 hb3
        clear hb3
        go_wp2_with fail
        refine (of_to n2 x.size y _ _ hys q2.out HS.out).mono ?_
        rintro e w4 ⟨rfl, hb4⟩
        replace hb2 := below_step hb2 hb4
        clear hb4
        go_wp2_with fail
        refine (both_to m1 ((x.size : Int) + 1) x ⟨#[113]⟩ _ _ hxs (by decide) q3.out rfl).mono ?_
        rintro e w5 ⟨rfl, hb5⟩
        replace hb2 := below_step hb2 hb5
        clear hb5
        go_wp2_with fail
        refine (both_to m2 ((x.size : Int) + 1) y ⟨#[113]⟩ _ _ hys (by decide) q4.out (by rw [HS.out]; rfl)).mono ?_
        rintro e w6 ⟨rfl, hb6⟩
        replace hb2 := below_step hb2 hb6
        clear hb6
        go_wp2_with fail
        go_ret
        exact ⟨rfl, hb2⟩
end Go.Proofs.Ytclbecgoocfmdaa
