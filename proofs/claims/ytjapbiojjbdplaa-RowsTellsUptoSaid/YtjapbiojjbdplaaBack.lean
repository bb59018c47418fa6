/-
  collatorlaw03.RowsBack: whatever the two texts, it returns true.
-/
import Derived.Test.YtjapbiojjbdplaaAppend
import Derived.Test.YtjapbiojjbdplaaMany
namespace Go.Proofs.Ytjapbiojjbdplaa
open Go.RowKit
open Pl

theorem lines_of (t : ByteArray) : ∃ ys : List ByteArray, txts ys = splitL (txt t) ∧ ys.length ≤ t.size ∧ total ys = t.size ∧ ∀ y ∈ ys, y.size ≤ t.size := by
  refine ⟨(splitL (txt t)).map ba, txts_ba _, ?_, total_of (txts_ba _), ?_⟩
  · have h := split_length (txt t)
    rw [txt, ← Lib.size_eq] at h
    simpa [txt] using h
  · intro y hy
    obtain ⟨j, hj⟩ := List.mem_iff_getElem?.1 hy
    have h1 := total_one hj
    have h2 := total_take ((splitL (txt t)).map ba) (j + 1)
    rw [total_of (txts_ba _)] at h2
    omega

theorem txt_app (a b : ByteArray) : txt (a ++ b) = txt a ++ txt b := by
  unfold txt
  rw [ByteArray.data_append, Array.toList_append]
theorem size_app (a b : ByteArray) : (a ++ b).size = a.size + b.size := by
  rw [Lib.size_eq, ← txt, txt_app, List.length_append, txt, txt, ← Lib.size_eq, ← Lib.size_eq]
theorem both_lines {a b : ByteArray} {y3 y1 y2 : List ByteArray} (h3 : txts y3 = splitL (txt (a ++ ⟨#[10]⟩ ++ b))) (h1 : txts y1 = splitL (txt (a ++ ⟨#[10]⟩))) (h2 : txts y2 = splitL (txt b)) : y3 = y1 ++ y2 := by
  refine txts_inj ?_
  rw [txts_append, h3, h1, h2, txt_app, txt_app]
  have h10 : txt ⟨#[10]⟩ = [10] := rfl
  rw [h10, List.append_assoc]
  exact split_append (txt a) (txt b)

set_option maxHeartbeats 4000000 in
set_option maxRecDepth 100000 in
theorem back_walk (s t : ByteArray) (w : World) (hs : s.size ≤ 140737488355328) (ht : t.size ≤ 140737488355328) :
    Calls Try.prog 4 #[.string s, .string t] w fun e w' => e = .returned (.bool true) ∧ Below w.heap.size w w' := by
  have hs2 := cut_size s
  have ht2 := cut_size t
  go_enter Try.func4, Try.ntmps4
  go_wp2_with fail
  refine (awake_any _).mono ?_
  rintro e w1 ⟨rfl, hb1⟩
  go_wp2_with fail
  generalize s.extract 0 (min (s.size : Int) 200).toNat = a at *
  generalize t.extract 0 (min (t.size : Int) 200).toNat = b at *
  obtain ⟨ys, hy1, hy2, hy3, hy4⟩ := lines_of a
  have HY4 := Lib.hid hy4
  have HY3 := Lib.hid hy3
  clear hy4 hy3
  refine (split_at a ys (by omega) hy1 _).mono ?_
  rintro e w2 ⟨A, c, rfl, hA, hc, hb⟩
  have HY1 := Lib.hid hy1
  clear hy1
  replace hb1 := hb1.trans (hb.mono hb1.size)
  clear hb
  go_wp2_with fail
  refine (join_at _ ys _ _ a _ hA rfl (by omega) (by rw [HY3.out]; omega) (by rw [HY1.out, join_split])).mono ?_
  rintro e w3 ⟨rfl, hb⟩
  replace hb1 := hb1.trans (hb.mono hb1.size)
  replace hA := (hA.below hb).more hb.size
  clear hb
  go_wp2_with fail
  refine (right_at _ ys _ _ _ true _ hA rfl (by omega) (fun y hy => by have := HY4.out y hy; omega) (by rw [HY1.out, right_split])).mono ?_
  rintro e w4 ⟨rfl, hb⟩
  replace hb1 := hb1.trans (hb.mono hb1.size)
  clear hb hA
  go_wp2_with fail
  -- the lines of both texts together
  have hx3 := size_app (a ++ ⟨#[10]⟩) b
  have hx1 := size_app a ⟨#[10]⟩
  have hone : (⟨#[10]⟩ : ByteArray).size = 1 := rfl
  obtain ⟨y3, h31, h32, _, _⟩ := lines_of (a ++ ⟨#[10]⟩ ++ b)
  obtain ⟨y1, h11, h12, _, _⟩ := lines_of (a ++ ⟨#[10]⟩)
  obtain ⟨y2, h21, h22, _, _⟩ := lines_of b
  have HE := Lib.hid (both_lines h31 h11 h21)
  have H31 := Lib.hid h31
  have H11 := Lib.hid h11
  have H21 := Lib.hid h21
  have l3 : y3.length ≤ 401 := by omega
  have l1 : y1.length ≤ 201 := by omega
  have l2 : y2.length ≤ 200 := by omega
  clear h31 h11 h21
  refine (split_at _ y3 (by omega) H31.out _).mono ?_
  rintro e w5 ⟨A3, c3, rfl, hA3, hc3, hb⟩
  replace hb1 := hb1.trans (hb.mono hb1.size)
  clear hb
  go_wp2_with fail
  refine (split_at _ y1 (by omega) H11.out _).mono ?_
  rintro e w6 ⟨A1, c1, rfl, hA1, hc1, hb⟩
  replace hb1 := hb1.trans (hb.mono hb1.size)
  replace hA3 := (hA3.below hb).more hb.size
  clear hb hx3 hx1 hone
  have hw6 := hb1.size
  obtain ⟨A7, c7, w7, hrun7, hown7, hg7⟩ := run_append_strs w6 w6.heap.size (.slice none 0 0) 0 [] (World.ownsRow_nil _ _ _ _) _ A1 y1.length c1 y1 hA1 rfl (by omega) (Nat.le_refl _)
  have HR7 := Lib.hid hrun7
  clear hrun7
  go_wp2_with (at_builtin; refine wpList_append_run rfl rfl (by simp [Region.wanted, yielded]) rfl rfl HR7.out ?_)
  simp only [Nat.zero_add, List.nil_append] at hown7
  have hb7 : Below w6.heap.size w6 w7 := (Below.refl _ _).grown hg7 (Nat.le_refl _) (by simp [Value.ownBlock])
  replace hb1 := hb1.trans (hb7.mono hb1.size)
  replace hA3 := hA3.below hb7
  have hz7 := hb7.size
  clear hg7 HR7 hA1 hb7
  refine (split_at _ y2 (by omega) H21.out _).mono ?_
  rintro e w8 ⟨A2, c2, rfl, hA2, hc2, hb⟩
  replace hb1 := hb1.trans (hb.mono hb1.size)
  replace hA3 := hA3.below (hb.mono hz7)
  have hz8 := hb.size
  have hown8 : w8.ownsRow w6.heap.size 9 1 (.slice A7 y1.length c7) y1.length (y1.map .string) := hown7.kept (grown_of_below hb none) (by cases (Value.slice A7 y1.length c7).ownBlock <;> simp)
  clear hb hown7
  obtain ⟨A9, c9, w9, hrun9, hown9, hg9⟩ := run_append_strs w8 w6.heap.size (.slice A7 y1.length c7) y1.length (y1.map .string) hown8 _ A2 y2.length c2 y2 hA2 rfl (by omega) (by omega)
  have HR9 := Lib.hid hrun9
  clear hrun9
  go_wp2_with (at_builtin; refine wpList_append_run rfl rfl (by simp [Region.wanted, yielded]) rfl rfl HR9.out ?_)
  have hb9 : Below w6.heap.size w8 w9 := (Below.refl _ _).grown hg9 (by omega) (fun k hk => (hown8.lt k hk).1)
  replace hA3 := (hA3.below hb9).more (Nat.le_trans (Nat.le_trans hz7 hz8) hb9.size)
  have hA9 : Strs w9 w9.heap.size A9 (y1 ++ y2) := Strs.of_own (base := w6.heap.size) (e := 9) (c := c9) (by simpa using hown9)
  have hb19 : Below w.heap.size w w9 := hb1.trans (hb9.mono hw6)
  refine (texts_at _ _ y3 (y1 ++ y2) _ _ _ _ _ true _ hA3 hA9 rfl (by simp) (by omega) (by rw [HE.out]; simp)).mono ?_
  rintro e w10 ⟨rfl, hb⟩
  replace hb19 := hb19.trans (hb.mono hb19.size)
  go_wp2_with fail
  go_ret
  exact ⟨rfl, hb19⟩

end Go.Proofs.Ytjapbiojjbdplaa
