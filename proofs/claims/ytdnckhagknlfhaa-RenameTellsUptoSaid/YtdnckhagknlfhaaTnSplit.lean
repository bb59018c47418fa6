/-
  collatorref03.Split: the document's own answer for lines: a new list that holds the lines of the text. Nothing that was there is changed.
-/
import Derived.Test.YtdnckhagknlfhaaRefC
import Derived.Test.YtdnckhagknlfhaaItems
namespace Go.Proofs.Ytdnckhagknlfhaa
open Go.RowKit
open Sp Sp.Pl

theorem endL_char {l : List UInt8} {j : Nat} (h : l[j]? = some 10) (hn : ∀ i, i < j → l[i]? ≠ some 10) : endL l = j + 1 := by
  induction l generalizing j with
  | nil => simp at h
  | cons c cs ih =>
    unfold endL
    cases j with
    | zero =>
      have h0 : c = 10 := by simpa using h
      rw [if_pos h0]
    | succ j =>
      have hc : c ≠ 10 := by have := hn 0 (by omega); simpa using this
      rw [if_neg hc, ih (by simpa using h) (fun i hi => by have := hn (i + 1) (by omega); simpa using this)]
theorem endL_all {l : List UInt8} (hn : ∀ i, i < l.length → l[i]? ≠ some 10) : endL l = l.length := by
  induction l with
  | nil => rfl
  | cons c cs ih =>
    have hc : c ≠ 10 := by have := hn 0 (by simp); simpa using this
    unfold endL
    rw [if_neg hc, ih (fun i hi => by have := hn (i + 1) (by simpa using hi); simpa using this)]
    simp
theorem txt_mid (s : ByteArray) (a b : Nat) : txt (s.extract a b) = ((txt s).drop a).take (b - a) := by
  simp only [txt, ByteArray.data_extract, Array.toList_extract]
/-- a line feed at k, none from f on till there -/
theorem split_here {s : ByteArray} {f k : Nat} {pre : List ByteArray} (hf : f ≤ k) (hpre : txts pre ++ splitL ((txt s).drop f) = splitL (txt s)) (h10 : (txt s)[k]? = some 10) (hn : ∀ j, f ≤ j → j < k → (txt s)[j]? ≠ some 10) :
    txts (pre ++ [s.extract f (k + 1)]) ++ splitL ((txt s).drop (k + 1)) = splitL (txt s) := by
  have he : endL ((txt s).drop f) = k - f + 1 := by
    refine endL_char ?_ (fun i hi => ?_)
    · rw [List.getElem?_drop, show f + (k - f) = k from by omega]; exact h10
    · rw [List.getElem?_drop]; exact hn _ (by omega) (by omega)
  have hne : (txt s).drop f ≠ [] := by
    intro e
    have := congrArg List.length e
    rw [List.length_drop] at this
    have h2 := (List.getElem?_eq_some_iff.1 h10).1
    simp at this
    omega
  rw [← hpre, split_step _ hne, he, txts_append, txts_one, txt_mid, List.append_assoc, List.drop_drop]
  rw [show k + 1 - f = k - f + 1 from by omega, show f + (k - f + 1) = k + 1 from by omega]
  rfl
theorem split_rest {s : ByteArray} {f : Nat} {pre : List ByteArray} (hf : f < s.size) (hpre : txts pre ++ splitL ((txt s).drop f) = splitL (txt s)) (hn : ∀ j, f ≤ j → j < s.size → (txt s)[j]? ≠ some 10) :
    txts (pre ++ [s.extract f s.size]) = splitL (txt s) := by
  have hl : (txt s).length = s.size := (Lib.size_eq s).symm
  have he : endL ((txt s).drop f) = ((txt s).drop f).length := endL_all (fun i hi => by rw [List.length_drop, hl] at hi; rw [List.getElem?_drop]; exact hn _ (by omega) (by omega))
  have hne : (txt s).drop f ≠ [] := by
    intro e
    have := congrArg List.length e
    rw [List.length_drop, hl] at this
    simp at this
    omega
  rw [← hpre, split_step _ hne, he, txts_append, txts_one, txt_drop, List.take_length, List.drop_length]
  rfl

theorem byte_ten (b : UInt8) : ((b.toNat : Int) == 10) = decide (b = 10) := by
  rw [Bool.eq_iff_iff, beq_iff_eq, decide_eq_true_eq]
  constructor
  · intro h
    apply UInt8.toNat_inj.1
    have e : (10 : UInt8).toNat = 10 := rfl
    omega
  · rintro rfl; rfl

set_option maxHeartbeats 4000000 in
set_option maxRecDepth 100000 in
theorem refSplit_any (s : ByteArray) (hs : s.size ≤ 1048576) (w : World) :
    Calls Try.prog 49 #[.string s] w fun e W' => ∃ (A : Option Addr) (c : Nat), e = .returned (.slice A (linesOf s).length c) ∧ Strs W' W'.heap.size A (linesOf s) ∧ (linesOf s).length ≤ c ∧ Below w.heap.size w W' := by
  go_enter Try.func49, Try.ntmps49
  go_wp2_with fail
  go_loopw [3, 4, 5] (fun v from_ i wr => ∃ (k f : Nat) (pre : List ByteArray), k ≤ s.size ∧ f ≤ k ∧ pre.length ≤ f ∧ i = .int .i64 k ∧ from_ = .int .i64 f ∧ Own w wr v pre ∧
      txts pre ++ splitL ((txt s).drop f) = splitL (txt s) ∧ ∀ j, f ≤ j → j < k → (txt s)[j]? ≠ some 10) (fun _ _ i _ => s.size - (intOf i).toNat)
  case atStart => exact ⟨0, 0, [], Nat.zero_le _, Nat.zero_le _, Nat.zero_le _, rfl, rfl, Own.nil w, rfl, fun j h1 h2 => absurd h2 (by omega)⟩
  case round =>
    obtain ⟨k, f, pre, hk, hfk, hpf, rfl, rfl, hown, hpre, hno⟩ := hrel
    have HPRE := Lib.hid hpre
    have HNO := Lib.hid hno
    have HOWN := Lib.hid hown
    clear hpre hno hown
    by_cases g : k < s.size
    · have hten := byte_ten (s[k]'g)
      have HG := Lib.hid (show (txt s)[k]? = some (s[k]'g) from by rw [List.getElem?_eq_getElem (by rw [txt, ← Lib.size_eq]; exact g)]; rfl)
      by_cases h10 : s[k]'g = 10
      · rw [decide_eq_true h10] at hten
        have HSP := Lib.hid (split_here hfk HPRE.out (by rw [HG.out, h10]) HNO.out)
        clear h10
        have hsl : ∀ W : World, (Instr.slice 9 (.string s) (some (.int .i64 (f : Int))) (some (.int .i64 ((k : Int) + 1))) none).run Try.prog W = .ok (.string (s.extract f (k + 1))) W := fun W => by
          have h := run_slice_string (P := Try.prog) W 9 s .i64 .i64 (f : Int) ((k : Int) + 1) Try.underlying9 (by omega) (by omega) (by omega)
          rw [show ((f : Int)).toNat = f from by omega, show ((k : Int) + 1).toNat = k + 1 from by omega] at h
          exact h
        obtain ⟨N, hN⟩ : ∃ N, pre.length + 1 = N := ⟨_, rfl⟩
        obtain ⟨A7, c7, W7, hrun7, hO7⟩ := HOWN.out.push (s.extract f (k + 1)) N hN (by omega)
        have HR7 := Lib.hid hrun7
        have HO7 : Hid (Own w W7 (.slice A7 N c7) (pre ++ [s.extract f (k + 1)])) := Lib.hid hO7
        clear hrun7 hO7
        go_wp2_with (at_builtin; refine wpList_append_run rfl rfl (by simp [Region.wanted]) rfl rfl HR7.out ?_)
        go_roundw
        case rel => exact ⟨k + 1, k + 1, pre ++ [s.extract f (k + 1)], by omega, by omega, by simp; omega, by go_num, by go_num, HO7.out, HSP.out, fun j h1 h2 => absurd h2 (by omega)⟩
        case measure => simp [intOf]; omega
      · rw [decide_eq_false h10] at hten
        have HN := Lib.hid h10
        clear h10
        go_wp2_with fail
        go_roundw
        case rel =>
          refine ⟨k + 1, f, pre, by omega, by omega, hpf, by go_num, rfl, HOWN.out, HPRE.out, fun j h1 h2 => ?_⟩
          rcases Nat.lt_or_ge j k with h | h
          · exact HNO.out j h1 h
          · obtain rfl : j = k := by omega
            rw [HG.out]; simpa using HN.out
        case measure => simp [intOf]; omega
    · obtain rfl : k = s.size := by omega
      by_cases gf : f < s.size
      · have HSP := Lib.hid (lines_of_txts (split_rest gf HPRE.out HNO.out))
        have gf' : decide (f < s.size) = true := by simpa using gf
        obtain ⟨N, hN⟩ : ∃ N, pre.length + 1 = N := ⟨_, rfl⟩
        obtain ⟨A7, c7, W7, hrun7, hO7⟩ := HOWN.out.push (s.extract f s.size) N hN (by omega)
        have HR7 := Lib.hid hrun7
        have HLN : Hid ((linesOf s).length = N) := Lib.hid (by rw [← HSP.out]; simp; omega)
        have HO7 : Hid (Own w W7 (.slice A7 N c7) (linesOf s)) := Lib.hid (by rw [← HSP.out]; exact hO7)
        clear hrun7 hO7
        go_wp2_with (at_builtin; refine wpList_append_run rfl rfl (by simp [Region.wanted]) rfl rfl HR7.out ?_)
        go_ret
        have ho := HO7.out.1
        rw [HLN.out] at ho
        obtain ⟨A8, c8, e8, hc8, _⟩ := row_shape ho
        injection e8 with _ _ e8
        refine ⟨A7, c7, by rw [HLN.out]; rfl, Strs.of_own (base := w.heap.size) (e := 9) (c := c7) (by rw [HLN.out]; exact ho), by rw [HLN.out, e8]; exact hc8, HO7.out.2⟩
      · have gf' : decide (f < s.size) = false := by simpa using gf
        have hl : (txt s).length = s.size := (Lib.size_eq s).symm
        have HP2 := Lib.hid (lines_of_txts (show txts pre = splitL (txt s) from by rw [← HPRE.out, List.drop_of_length_le (by omega), split_nil, List.append_nil]))
        clear hl
        obtain ⟨A8, c8, rfl, hc8, _⟩ := row_shape HOWN.out.1
        go_wp2_with fail
        go_ret
        rw [← HP2.out]
        exact ⟨A8, c8, rfl, Strs.of_own HOWN.out.1, hc8, HOWN.out.2⟩

end Go.Proofs.Ytdnckhagknlfhaa
