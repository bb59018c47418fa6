/-
  collatorlaw15.awake returns true: the first calls, whose answers are fixed. Nothing that was there is changed.
-/
import Derived.Test.YtllkegonhghkcaaCon
namespace Go.Proofs.Ytllkegonhghkcaa
open Go.RowKit P15

set_option maxHeartbeats 8000000 in
set_option maxRecDepth 100000 in
theorem awake_any (w : World) : Calls Try.prog 8 #[] w fun e w' => e = .returned (.bool true) ∧ Below w.heap.size w w' := by
  obtain ⟨F1, hF1⟩ : ∃ F1 : List Fl, F1 = [⟨⟨#[97]⟩, ⟨#[98]⟩, 1, []⟩] := ⟨_, rfl⟩
  have FTF1 : Hid (FitF F1) := Lib.hid (by rw [hF1]; exact small_of (by decide +kernel))
  obtain ⟨F2, hF2⟩ : ∃ F2 : List Fl, F2 = [⟨⟨#[97]⟩, ⟨#[98]⟩, 1, [2]⟩] := ⟨_, rfl⟩
  have FTF2 : Hid (FitF F2) := Lib.hid (by rw [hF2]; exact small_of (by decide +kernel))
  obtain ⟨F3, hF3⟩ : ∃ F3 : List Fl, F3 = [⟨⟨#[97]⟩, ⟨#[98]⟩, 1, [2, 3]⟩] := ⟨_, rfl⟩
  have FTF3 : Hid (FitF F3) := Lib.hid (by rw [hF3]; exact small_of (by decide +kernel))
  obtain ⟨F4, hF4⟩ : ∃ F4 : List Fl, F4 = [⟨⟨#[97]⟩, ⟨#[98]⟩, 1, [3]⟩] := ⟨_, rfl⟩
  have FTF4 : Hid (FitF F4) := Lib.hid (by rw [hF4]; exact small_of (by decide +kernel))
  have E1 : Hid (beginF [] ⟨#[97]⟩ ⟨#[98]⟩ 1 = (true, F1, 0)) := Lib.hid (by rw [hF1]; decide +kernel)
  have E2 : Hid (beginF F1 ⟨#[97]⟩ ⟨#[98]⟩ 2 = (false, F2, 0)) := Lib.hid (by rw [hF1, hF2]; decide +kernel)
  have E3 : Hid (beginF F2 ⟨#[97]⟩ ⟨#[98]⟩ 3 = (false, F3, 0)) := Lib.hid (by rw [hF2, hF3]; decide +kernel)
  have E4 : Hid (leaveF F3 2 = (F4, 0)) := Lib.hid (by rw [hF3, hF4]; decide +kernel)
  have E5 : Hid (doneF F4 1 = ([3], [], 0)) := Lib.hid (by rw [hF4]; decide +kernel)
  have E6 : Hid (beginF F4 ⟨#[120]⟩ ⟨#[121]⟩ 3 = (false, [], 4)) := Lib.hid (by rw [hF4]; decide +kernel)
  have E7 : Hid (doneF F4 3 = ([], [], 10)) := Lib.hid (by rw [hF4]; decide +kernel)
  have E8 : Hid (leaveF F4 1 = ([], 10)) := Lib.hid (by rw [hF4]; decide +kernel)
  have E9 : Hid (beginF [⟨⟨#[]⟩, ⟨#[]⟩, 1, []⟩, ⟨⟨#[]⟩, ⟨#[]⟩, 2, []⟩] ⟨#[]⟩ ⟨#[]⟩ 4 = (false, [], 1)) := Lib.hid (by decide +kernel)
  have FT9 : Hid (FitF [⟨⟨#[]⟩, ⟨#[]⟩, 1, []⟩, ⟨⟨#[]⟩, ⟨#[]⟩, 2, []⟩]) := Lib.hid (small_of (by decide +kernel))
  have ER : Hid (rightB F4 = true) := Lib.hid (by rw [hF4]; decide +kernel)
  clear hF1 hF2 hF3 hF4
  have i1 : I64 1 := ⟨by omega, by omega⟩
  have i2 : I64 2 := ⟨by omega, by omega⟩
  have i3 : I64 3 := ⟨by omega, by omega⟩
  have i4 : I64 4 := ⟨by omega, by omega⟩
  have I1 := Lib.hid i1
  have I2 := Lib.hid i2
  have I3 := Lib.hid i3
  have I4 := Lib.hid i4
  clear i1 i2 i3 i4
  have HW : Hid (Below w.heap.size w w) := Lib.hid (Below.refl _ _)
  go_enter Try.func8, Try.ntmps8
  go_wp2_with fail
  refine (ibegin3 none [] 0 0 ⟨#[97]⟩ ⟨#[98]⟩ 1 _ F1 0 true E1.out FillsAt.nil rfl fit_nil I1.out (by decide) (by decide)).mono ?_
  rintro e w1 ⟨A1, n1, c1, rfl, hn, _, hf, hb⟩
  have HW := Lib.hid (below_step HW.out hb)
  have N1 := Lib.hid hn
  have H1 := Lib.hid hf
  clear hn hf hb
  go_wp2_with fail
  refine (ibegin3 A1 F1 n1 c1 ⟨#[97]⟩ ⟨#[98]⟩ 2 _ F2 0 false E2.out H1.out N1.out FTF1.out I2.out (by decide) (by decide)).mono ?_
  rintro e w2 ⟨A2, n2, c2, rfl, hn, _, hf, hb⟩
  have H1 := Lib.hid (H1.out.up hb)
  have HW := Lib.hid (below_step HW.out hb)
  have N2 := Lib.hid hn
  have H2 := Lib.hid hf
  clear hn hf hb
  go_wp2_with fail
  refine (ibegin3 A2 F2 n2 c2 ⟨#[97]⟩ ⟨#[98]⟩ 3 _ F3 0 false E3.out H2.out N2.out FTF2.out I3.out (by decide) (by decide)).mono ?_
  rintro e w3 ⟨A3, n3, c3, rfl, hn, _, hf, hb⟩
  have H1 := Lib.hid (H1.out.up hb)
  have H2 := Lib.hid (H2.out.up hb)
  have HW := Lib.hid (below_step HW.out hb)
  have N3 := Lib.hid hn
  have H3 := Lib.hid hf
  clear hn hf hb
  go_wp2_with fail
  refine (ileave3 A3 F3 n3 c3 2 _ F4 0 E4.out H3.out N3.out FTF3.out I2.out).mono ?_
  rintro e w4 ⟨A4, n4, c4, rfl, hn, _, hf, hb⟩
  have H1 := Lib.hid (H1.out.up hb)
  have H2 := Lib.hid (H2.out.up hb)
  have H3 := Lib.hid (H3.out.up hb)
  have HW := Lib.hid (below_step HW.out hb)
  have N4 := Lib.hid hn
  have H4 := Lib.hid hf
  clear hn hf hb
  go_wp2_with fail
  refine (idone3 A4 F4 n4 c4 1 _ [] 0 [3] E5.out H4.out N4.out FTF4.out I1.out).mono ?_
  rintro e w5 ⟨B5, m5, d5, A5, n5, c5, rfl, hm, _, hi, hn, _, hf, hb⟩
  have H1 := Lib.hid (H1.out.up hb)
  have H2 := Lib.hid (H2.out.up hb)
  have H3 := Lib.hid (H3.out.up hb)
  have H4 := Lib.hid (H4.out.up hb)
  have HW := Lib.hid (below_step HW.out hb)
  obtain rfl : m5 = 1 := hm.symm
  obtain rfl : n5 = 0 := hn.symm
  have T5 := Lib.hid hi
  clear hi hf hb
  go_wp2_with fail
  clear H1 H2 H3
  refine (ibegin3 A4 F4 n4 c4 ⟨#[120]⟩ ⟨#[121]⟩ 3 _ [] 4 false E6.out H4.out N4.out FTF4.out I3.out (by decide) (by decide)).mono ?_
  rintro e w6 ⟨A6, n6, c6, rfl, hn, _, hf, hb⟩
  have H4 := Lib.hid (H4.out.up hb)
  have T5 := Lib.hid (T5.out.up hb)
  have HW := Lib.hid (below_step HW.out hb)
  clear hn hf hb
  go_wp2_with fail
  refine (idone3 A4 F4 n4 c4 3 _ [] 10 [] E7.out H4.out N4.out FTF4.out I3.out).mono ?_
  rintro e w7 ⟨B7, m7, d7, A7, n7, c7, rfl, hm, _, hi, hn, _, hf, hb⟩
  have H4 := Lib.hid (H4.out.up hb)
  have T5 := Lib.hid (T5.out.up hb)
  have HW := Lib.hid (below_step HW.out hb)
  clear hm hi hn hf hb
  go_wp2_with fail
  refine (ileave3 A4 F4 n4 c4 1 _ [] 10 E8.out H4.out N4.out FTF4.out I1.out).mono ?_
  rintro e w8 ⟨A8, n8, c8, rfl, hn, _, hf, hb⟩
  have H4 := Lib.hid (H4.out.up hb)
  have T5 := Lib.hid (T5.out.up hb)
  have HW := Lib.hid (below_step HW.out hb)
  clear hn hf hb
  go_wp2_with fail
  obtain ⟨g9, v9, hg9, hv9, hb9, hbe9⟩ := box_new w8 28 #[.string ⟨#[]⟩, .string ⟨#[]⟩, .int .i64 1, .slice none 0 0, .string ⟨#[]⟩, .string ⟨#[]⟩, .int .i64 2, .slice none 0 0]
  rw [← hv9, ← hg9]
  have H9 : Hid (FillsAt v9 (some ⟨g9, 0, none⟩) [⟨⟨#[]⟩, ⟨#[]⟩, 1, []⟩, ⟨⟨#[]⟩, ⟨#[]⟩, 2, []⟩]) := Lib.hid ⟨[⟨⟨#[]⟩, ⟨#[]⟩, 1, [], none, 0⟩, ⟨⟨#[]⟩, ⟨#[]⟩, 2, [], none, 0⟩], rfl, RowAt.of_blk fw_len hb9, fun x hx => by simp at hx; rcases hx with rfl | rfl <;> exact ⟨RowAt.nil, Nat.le_refl _⟩⟩
  have H4 := Lib.hid (H4.out.up hbe9)
  have T5 := Lib.hid (T5.out.up hbe9)
  have HW := Lib.hid (below_step HW.out hbe9)
  clear hg9 hv9 hb9 hbe9
  refine (ibegin3 (some ⟨g9, 0, none⟩) [⟨⟨#[]⟩, ⟨#[]⟩, 1, []⟩, ⟨⟨#[]⟩, ⟨#[]⟩, 2, []⟩] 2 2 ⟨#[]⟩ ⟨#[]⟩ 4 _ [] 1 false E9.out H9.out rfl FT9.out I4.out (by decide) (by decide)).mono ?_
  rintro e w9 ⟨A9, n9, c9, rfl, hn, _, hf, hb⟩
  have H4 := Lib.hid (H4.out.up hb)
  have T5 := Lib.hid (T5.out.up hb)
  have HW := Lib.hid (below_step HW.out hb)
  clear hn hf hb H9
  go_wp2_with fail
  obtain ⟨g10, v10, hg10, hv10, hb10, hbe10⟩ := box_new w9 3 #[.int .i64 3]
  rw [← hv10, ← hg10]
  have T10 : Hid (IntsAt v10 (some ⟨g10, 0, none⟩) [3]) := Lib.hid (RowAt.of_blk i_len hb10)
  have H4 := Lib.hid (H4.out.up hbe10)
  have T5 := Lib.hid (T5.out.up hbe10)
  have HW := Lib.hid (below_step HW.out hbe10)
  clear hg10 hv10 hb10 hbe10
  refine (rints_any B5 (some ⟨g10, 0, none⟩) [3] [3] 1 1 d5 1 true (by decide) _ T5.out T10.out rfl rfl (by decide) (by decide)).mono ?_
  rintro e w10 ⟨rfl, q10, hq⟩
  have hb : Below v10.heap.size v10 w10 := by rw [hq]; exact below_drewN (Below.refl _ _) _
  have H4 := Lib.hid (H4.out.up hb)
  have T5 := Lib.hid (T5.out.up hb)
  have HW := Lib.hid (below_step HW.out hb)
  clear hq hb
  go_wp2_with fail
  refine (iright_any A4 F4 n4 c4 true ER.out _ H4.out N4.out FTF4.out).mono ?_
  rintro e w11 ⟨rfl, hb⟩
  have H4 := Lib.hid (H4.out.up hb)
  have T5 := Lib.hid (T5.out.up hb)
  have HW := Lib.hid (below_step HW.out hb)
  clear hb
  go_wp2_with fail
  go_ret
  exact ⟨rfl, HW.out⟩

end Go.Proofs.Ytllkegonhghkcaa
