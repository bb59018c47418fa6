/-
  The leaves of package rows: lineEnd, isLine, hasFeed, and strings.Clone: what each returns, at every text, and that nothing that was there is changed.
-/
import Derived.Test.YtjapbiojjbdplaaPlain
import Derived.Test.YtjapbiojjbdplaaShelf
import Derived.Test.YtjapbiojjbdplaaRows
import Derived.WalkKit
import Derived.Lib.Hide
import Derived.Lib.Strings
namespace Go.Proofs.Ytjapbiojjbdplaa
open Go.RowKit
open Pl

theorem indexByte_end (l : List UInt8) : (Lib.indexByte l 10 = -1 ∧ endL l = l.length) ∨ (0 ≤ Lib.indexByte l 10 ∧ Lib.indexByte l 10 + 1 = endL l) := by
  induction l with
  | nil => left; simp [Lib.indexByte, endL]
  | cons c cs ih =>
    unfold Lib.indexByte endL
    by_cases hc : c = 10
    · right; simp [hc]
    · rw [if_neg (by simpa using hc), if_neg hc]
      rcases ih with ⟨h1, h2⟩ | ⟨h1, h2⟩
      · left; simp [h1, h2]
      · right
        rw [if_neg (by simp; omega)]
        refine ⟨by omega, ?_⟩
        simp; omega

set_option maxHeartbeats 400000 in
theorem lineEnd_any (s : ByteArray) (w : World) (hs : s.size ≤ 140737488355328) :
    Calls Try.prog 31 #[.string s] w fun e w' => e = .returned (.int .i64 (endL s.data.toList)) ∧ w = w' := by
  have hle := endL_le s.data.toList
  have hsz : s.data.toList.length ≤ 140737488355328 := by rw [← Lib.size_eq]; exact hs
  rcases indexByte_end s.data.toList with ⟨h1, h2⟩ | ⟨h1, h2⟩
  · have H1 := Lib.hid h1
    have H2 := Lib.hid h2
    clear h1 h2
    go_enter Try.func31, Try.ntmps31
    go_wp2_with (go_at_call 36; refine (Try.strings_IndexByte _ _ _).mono ?_; rintro e w' ⟨rfl, rfl⟩; rw [show ((10 : Int).toNat.toUInt8) = 10 from rfl, H1.out])
    go_ret
    rw [H2.out]
    exact ⟨rfl, rfl⟩
  · obtain ⟨i, hi⟩ : ∃ i : Int, i = Lib.indexByte s.data.toList 10 := ⟨_, rfl⟩
    rw [← hi] at h1 h2
    have H1 := Lib.hid hi
    have H2 := Lib.hid h2
    have hb : i < 140737488355328 := by omega
    clear hi h2
    go_enter Try.func31, Try.ntmps31
    go_wp2_with (go_at_call 36; refine (Try.strings_IndexByte _ _ _).mono ?_; rintro e w' ⟨rfl, rfl⟩; rw [show ((10 : Int).toNat.toUInt8) = 10 from rfl, ← H1.out])
    go_ret
    rw [← H2.out]
    exact ⟨rfl, rfl⟩

theorem ret_bool {a b : Bool} (h : a = b) : Ending.returned (.bool a) = .returned (.bool b) := by rw [h]
theorem ret_int {k : IntKind} {a b : Int} (h : a = b) : Ending.returned (.int k a) = .returned (.int k b) := by rw [h]
theorem toList_data (s : ByteArray) : s.toList = s.data.toList := Lib.toList_data s
theorem cast_beq (a b : Nat) : (((a : Int) == (b : Int)) : Bool) = (a == b) := by
  rw [Bool.eq_iff_iff, beq_iff_eq, beq_iff_eq]; omega
theorem isLineB_false (l : List UInt8) (h : l = []) : isLineB l = false := by simp [h, isLineB]
theorem isLineB_eq (l : List UInt8) (h : l ≠ []) : isLineB l = (endL l == l.length) := by
  cases l with
  | nil => exact absurd rfl h
  | cons c cs => simp [isLineB]

set_option maxHeartbeats 400000 in
theorem isLine_any (s : ByteArray) (w : World) (hs : s.size ≤ 140737488355328) :
    Calls Try.prog 23 #[.string s] w fun e w' => e = .returned (.bool (isLineB s.data.toList)) ∧ w = w' := by
  go_enter Try.func23, Try.ntmps23
  go_wp2_with (go_at_call 31; refine (lineEnd_any _ _ hs).mono ?_; rintro e w' ⟨rfl, rfl⟩)
  · have h : s.toList = [] := by assumption
    have h' : s.data.toList = [] := by rw [← toList_data]; exact h
    go_ret
    rw [isLineB_false _ h']
    exact ⟨rfl, rfl⟩
  · have h : ¬ s.toList = [] := by assumption
    have h' : s.data.toList ≠ [] := by rw [← toList_data]; exact h
    go_ret
    rw [isLineB_eq _ h']
    refine ⟨ret_bool ?_, rfl⟩
    rw [toList_data, Lib.size_eq]
    rw [cast_beq]
    cases hl : s.data.toList with
    | nil => exact absurd hl h'
    | cons c cs => rfl

theorem hasFeed_eq (l : List UInt8) : Lib.hasSuffix l [10] = feedB l := by
  unfold Lib.hasSuffix feedB
  rw [Bool.eq_iff_iff]
  simp only [List.isSuffixOf_iff_suffix, beq_iff_eq]
  constructor
  · rintro ⟨t, rfl⟩; simp
  · intro h
    obtain ⟨t, ht⟩ := List.getLast?_eq_some_iff.1 h
    exact ⟨t, ht.symm⟩

set_option maxHeartbeats 400000 in
theorem hasFeed_any (s : ByteArray) (w : World) (hs : s.size ≤ 140737488355328) :
    Calls Try.prog 24 #[.string s] w fun e w' => e = .returned (.bool (feedB s.data.toList)) ∧ w = w' := by
  go_enter Try.func24, Try.ntmps24
  go_wp2_with (go_at_call 32; refine (Try.strings_HasSuffix _ _ _ (by omega)).mono ?_; rintro e w' ⟨rfl, rfl⟩)
  go_ret
  exact ⟨by rw [← hasFeed_eq]; rfl, rfl⟩

set_option maxHeartbeats 400000 in
theorem clone_any (s : ByteArray) (w : World) (hs : s.size ≤ 140737488355328) :
    Calls Try.prog 29 #[.string s] w fun e w' => e = .returned (.string s) ∧ Below w.heap.size w w' := by
  go_enter Try.func29, Try.ntmps29
  go_wp2_with (go_at_call 34; refine (Try.stringslite_Clone _ _ (by omega)).mono ?_; rintro e w' ⟨rfl, hb⟩)
  go_ret
  exact ⟨rfl, hb⟩

end Go.Proofs.Ytjapbiojjbdplaa
