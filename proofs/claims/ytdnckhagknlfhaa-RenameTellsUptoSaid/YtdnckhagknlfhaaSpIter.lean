/-
  rows.lines and the function that it returns: which lines it hands out, one by one, and that nothing but its own variable is changed between them.
-/
import Derived.Test.YtdnckhagknlfhaaSpCalls
import Derived.Laws.Externs
import Derived.Lib.AppendStr
import Derived.Lib.Builder
import Derived.Lib.IndexBytes
import Derived.RangeFuncNested
import Derived.RangeFuncBound
import Derived.RangeFuncCalls
import Derived.RangeFuncLeaves
import Derived.Shelf.Abstract
import Derived.Shelf.RegionOpen
import Derived.OwnWalkIn
import Derived.TacticsInMore
import Derived.LoopNIn
import Derived.LoopIn
namespace Go.Proofs.Ytdnckhagknlfhaa.Sp
open Go.RowKit Go.Shelf
open Pl

attribute [local go_sem] Oper.semAt_some

set_option maxHeartbeats 1000000 in
theorem lines_in (n : Nat) (s : ByteArray) (w : World) :
    CallsIn Fence.wide n Try.prog 36 #[.string s] w fun e w' => e = .returned (.func (.func 54) #[] #[.pointer (some ⟨w.heap.size, 0, none⟩)]) ∧ w' = w.alloc (.cells #[.string s] 9) := by
  refine callsIn_of_wp Try.func36 rfl trivial ?_ rfl
  simp only [Try.ntmps36, List.size_toArray, List.length_cons, List.length_nil, Nat.reduceAdd, Nat.reduceSub, Array.replicate_succ, Array.replicate_zero, List.push_toArray, List.append_toArray, List.nil_append, List.cons_append]
  gi_wp2
  go_ret
  exact ⟨rfl, rfl⟩

theorem txt_take (r : ByteArray) (k : Nat) : txt (r.extract 0 k) = (txt r).take k := by
  simp [txt, ByteArray.data_extract]
theorem txt_drop (r : ByteArray) (k : Nat) : txt (r.extract k r.size) = (txt r).drop k := Lib.extract_to_end r k
theorem txts_append (a b : List ByteArray) : txts (a ++ b) = txts a ++ txts b := by simp [txts]
theorem txts_one (x : ByteArray) : txts [x] = [txt x] := rfl

theorem more_to_come {pre : List ByteArray} {r s : ByteArray} (h : txts pre ++ splitL (txt r) = splitL (txt s)) (hr : txt r ≠ []) : pre.length < (splitL (txt s)).length := by
  rw [← h, List.length_append, txts_length, split_step _ hr]
  simp

/-- how much of the text is still to come: what the iterator's own variable holds -/
def leftIn (W : World) (Bn : Nat) : Nat := match W.cell? ⟨Bn, 0, none⟩ with | some (.string r) => r.size | _ => 0
theorem leftIn_eq {W : World} {Bn : Nat} {r : ByteArray} (h : Boxed W Bn 9 (.string r)) : leftIn W Bn = r.size := by unfold leftIn; rw [h.cell]

set_option maxRecDepth 100000 in
set_option maxHeartbeats 1000000 in
theorem iter_in (n l Bn : Nat) (hn : 1 ≤ n) (s : ByteArray) (hs : s.size ≤ 140737488355328) (J : List ByteArray → World → Prop)
    (hset : ∀ pre W u, J pre W → J pre (W.setCell ⟨Bn, 0, none⟩ u))
    (hY : ∀ pre x r W, J pre W → Boxed W Bn 9 (.string r) → pre.length < (splitL (txt s)).length → x.size ≤ s.size → YieldAt Fence.wide (n - 1) Try.prog l #[.string x] W fun e W' => e = .returned (.bool true) ∧ J (pre ++ [x]) W' ∧ Boxed W' Bn 9 (.string r))
    (W : World) (hb : Boxed W Bn 9 (.string s)) (h0 : J [] W) :
    CallsIn Fence.wide n Try.prog 54 #[.func (.yield l) #[] #[], .pointer (some ⟨Bn, 0, none⟩)] W fun e W' => (∃ v, e = .returned v) ∧ ∃ ys, txts ys = splitL (txt s) ∧ J ys W' := by
  refine callsIn_of_wp Try.func54 rfl trivial ?_ rfl
  simp only [Try.ntmps54, List.size_toArray, List.length_cons, List.length_nil, Nat.reduceAdd, Nat.reduceSub, Array.replicate_succ, Array.replicate_zero, List.push_toArray, List.append_toArray, List.nil_append, List.cons_append]
  gi_wp2
  gi_loopw [3] (fun _ wr => ∃ (pre : List ByteArray) (r : ByteArray), Boxed wr Bn 9 (.string r) ∧ r.size ≤ s.size ∧ txts pre ++ splitL (txt r) = splitL (txt s) ∧ J pre wr)
    (fun _ wr => leftIn wr Bn)
  case atStart =>
    exact ⟨[], s, hb, Nat.le_refl _, rfl, h0⟩
  case round =>
    obtain ⟨pre, r, hbr, hrs0, hx, hJs⟩ := hrel
    have hrs : r.size ≤ 140737488355328 := by omega
    have hc := hbr.cell
    have HX := Lib.hid hx
    clear hx
    by_cases hr : r.toList = []
    · gi_wp2
      go_end0
      refine ⟨⟨_, rfl⟩, pre, ?_, hJs⟩
      rw [← HX.out]
      have : txt r = [] := by rw [txt, ← toList_data]; exact hr
      rw [this, split_nil, List.append_nil]
    · have hne : (!r.toList.isEmpty) = true := by simpa using hr
      have hle := endL_le r.data.toList
      have hlr : r.data.toList.length ≤ 140737488355328 := by rw [← Lib.size_eq]; exact hrs
      have hsz := Lib.size_eq r
      have hlt : endL r.data.toList ≤ r.size := by omega
      have HSZ := Lib.hid hsz
      clear hsz
      obtain ⟨fn, tmps, assign, body, hy, hR⟩ := hY pre (r.extract 0 (endL r.data.toList)) r wr hJs hbr (more_to_come HX.out (by rw [txt, ← toList_data]; exact hr)) (by rw [Lib.size_eq, ← txt, txt_take, List.length_take]; unfold txt; omega)
      gi_wp2_with (refine ⟨trivial, ?_⟩; gi_at_call 55; refine (callsIn_wide.2 (lineEnd_any _ _ hrs)).mono ?_; rintro e w' ⟨rfl, rfl⟩)
      refine hR.mono ?_
      rintro e W3 ⟨rfl, hJ3, hb3⟩
      have hc3 := hb3.cell
      have hf3 := hb3.frozen
      clear hy hR
      gi_wp2
      have hd : txt (r.extract (endL r.data.toList) r.size) = (txt r).drop (endL r.data.toList) := txt_drop r _
      have ht : txt (r.extract 0 (endL r.data.toList)) = (txt r).take (endL r.data.toList) := txt_take r _
      have hne' : txt r ≠ [] := by rw [txt, ← toList_data]; exact hr
      have hpos := endL_pos (txt r) hne'
      have hsd : (r.extract (endL r.data.toList) r.size).size + endL r.data.toList = r.size := by
        rw [Lib.size_eq, ← txt, hd, List.length_drop, txt, ← HSZ.out]; omega
      go_roundw
      case rel =>
        refine ⟨pre ++ [r.extract 0 (endL r.data.toList)], r.extract (endL r.data.toList) r.size, hb3.set _, by omega, ?_, hset _ _ _ hJ3⟩
        rw [hd, ← HX.out, split_step (txt r) hne', txts_append, List.append_assoc, txts_one, ht]
        rfl
      case measure =>
        rw [leftIn_eq hbr, leftIn_eq (hb3.set _)]
        unfold txt at hpos
        omega

end Go.Proofs.Ytdnckhagknlfhaa.Sp
