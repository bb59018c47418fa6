/-
  The leaves of package rows: lineEnd, isLine, hasFeed, and strings.Clone: what each returns, at every text, and that nothing that was there is changed.
-/
import Derived.Test.YtdnckhagknlfhaaSpPlain
import Derived.Test.YtdnckhagknlfhaaShelf
import Derived.Test.YtdnckhagknlfhaaMem
import Derived.WalkKit
import Derived.Lib.Hide
import Derived.Lib.Strings
namespace Go.Proofs.Ytdnckhagknlfhaa.Sp
open Go.RowKit
open Pl

theorem indexByte_end (l : List UInt8) : (Lib.indexByte l 10 = -1 ∧ endL l = l.length) ∨ (0 ≤ Lib.indexByte l 10 ∧ Lib.indexByte l 10 + 1 = endL l) := by
  induction l with
  | nil => left; simp [Lib.indexByte, endL]
  | cons c cs ih =>
    unfold Lib.indexByte endL
    by_cases hc : c = 10
    · right; simp [hc]
    · rw [if_neg (by simpa using hc), if_neg hc]
      rcases ih with ⟨h1, h2⟩ | ⟨h1, h2⟩
      · left; simp [h1, h2]
      · right
        rw [if_neg (by simp; omega)]
        refine ⟨by omega, ?_⟩
        simp; omega

set_option maxHeartbeats 400000 in
theorem lineEnd_any (s : ByteArray) (w : World) (hs : s.size ≤ 140737488355328) :
    Calls Try.prog 55 #[.string s] w fun e w' => e = .returned (.int .i64 (endL s.data.toList)) ∧ w = w' := by
  have hle := endL_le s.data.toList
  have hsz : s.data.toList.length ≤ 140737488355328 := by rw [← Lib.size_eq]; exact hs
  rcases indexByte_end s.data.toList with ⟨h1, h2⟩ | ⟨h1, h2⟩
  · have H1 := Lib.hid h1
    have H2 := Lib.hid h2
    clear h1 h2
    go_enter Try.func55, Try.ntmps55
    go_wp2_with (go_at_call 69; refine (Try.strings_IndexByte _ _ _).mono ?_; rintro e w' ⟨rfl, rfl⟩; rw [show ((10 : Int).toNat.toUInt8) = 10 from rfl, H1.out])
    go_ret
    rw [H2.out]
    exact ⟨rfl, rfl⟩
  · obtain ⟨i, hi⟩ : ∃ i : Int, i = Lib.indexByte s.data.toList 10 := ⟨_, rfl⟩
    rw [← hi] at h1 h2
    have H1 := Lib.hid hi
    have H2 := Lib.hid h2
    have hb : i < 140737488355328 := by omega
    clear hi h2
    go_enter Try.func55, Try.ntmps55
    go_wp2_with (go_at_call 69; refine (Try.strings_IndexByte _ _ _).mono ?_; rintro e w' ⟨rfl, rfl⟩; rw [show ((10 : Int).toNat.toUInt8) = 10 from rfl, ← H1.out])
    go_ret
    rw [← H2.out]
    exact ⟨rfl, rfl⟩

def txt (s : ByteArray) : List UInt8 := s.data.toList
def txts (ss : List ByteArray) : List (List UInt8) := ss.map txt
theorem txts_length (ss : List ByteArray) : (txts ss).length = ss.length := by simp [txts]
theorem ret_bool {a b : Bool} (h : a = b) : Ending.returned (.bool a) = .returned (.bool b) := by rw [h]
theorem ret_int {k : IntKind} {a b : Int} (h : a = b) : Ending.returned (.int k a) = .returned (.int k b) := by rw [h]
theorem toList_data (s : ByteArray) : s.toList = s.data.toList := Lib.toList_data s
set_option maxHeartbeats 400000 in
theorem clone_any (s : ByteArray) (w : World) (hs : s.size ≤ 140737488355328) :
    Calls Try.prog 37 #[.string s] w fun e w' => e = .returned (.string s) ∧ Below w.heap.size w w' := by
  go_enter Try.func37, Try.ntmps37
  go_wp2_with (go_at_call 56; refine (Try.stringslite_Clone _ _ (by omega)).mono ?_; rintro e w' ⟨rfl, hb⟩)
  go_ret
  exact ⟨rfl, hb⟩

end Go.Proofs.Ytdnckhagknlfhaa.Sp
