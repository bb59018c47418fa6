/-
  firstPlaces, numbers and numbered: the maps that a call makes, and two lists of lines as numbers.
-/
import Derived.Test.YtmonemgjgcfhlaaShare
import Derived.Test.YtmonemgjgcfhlaaNums
import Derived.Maps.Own
import Derived.Maps.OwnOps
import Derived.Maps.OwnSet
import Derived.Deep.OwnRows
namespace Go.Proofs.Ytmonemgjgcfhlaa
open Go.RowKit Go.Maps Go.WideMaps

instance memDec (s : ByteArray) (ss : List ByteArray) : Decidable (s ∈ ss) := @List.instDecidableMemOfLawfulBEq ByteArray instBEqOfDecidableEq _ s ss

theorem law9 : Keyed Try.prog 9 := string_keyed Try.underlying9
theorem zero3 (w : World) : (zeroValue 3).run Try.prog w = .ok (.int .i64 0) w := by kernel_rfl
/-- a line as a key -/
def keyS (s : ByteArray) : Lit := .string s.data.toList
theorem keyS_inj {s t : ByteArray} (h : keyS s = keyS t) : s = t := by
  unfold keyS at h
  injection h with h
  cases s; cases t
  simp at h
  subst h
  rfl
/-- a map that tells the first places of a list's lines -/
structure Places (ss : List ByteArray) (D : DataW Unit) : Prop where
  has_ : ∀ s, Maps.has D (keyS s) = decide (s ∈ ss)
  at_ : ∀ s, s ∈ ss → ∀ z, D.atKey (keyS s) z = .lit (.int .i64 (Pm.firstAt s ss))
theorem Places.nil : Places [] (.map []) := ⟨fun s => by simp [Maps.has], fun s h => by cases h⟩
theorem Places.old {ss : List ByteArray} {D : DataW Unit} {s : ByteArray} (h : Places ss D) (hs : s ∈ ss) : Places (ss ++ [s]) D :=
  ⟨fun t => by rw [h.has_ t]; by_cases e : t = s <;> simp [e, hs], fun t ht z => by
    have ht' : t ∈ ss := by
      rcases List.mem_append.1 ht with g | g
      · exact g
      · simp at g; rw [g]; exact hs
    rw [h.at_ t ht' z, Pm.firstAt_more _ ht']⟩
theorem Places.put {ss : List ByteArray} {D : DataW Unit} {s : ByteArray} (h : Places ss D) (hD : Maps.IsMap D) (hs : s ∉ ss) : Places (ss ++ [s]) (D.put (keyS s) (.lit (.int .i64 (ss.length : Int)))) := by
  refine ⟨fun t => ?_, fun t ht z => ?_⟩
  · by_cases e : t = s
    · subst e; rw [Maps.has_put_same hD (by simp [keyS, WideAt.IsKeyLit])]; simp
    · rw [Maps.has_put_other (fun e' => e (keyS_inj e')), h.has_ t]; simp [e]
  · by_cases e : t = s
    · subst e; rw [Maps.atKey_put_same hD (by simp [keyS, WideAt.IsKeyLit]), Pm.firstAt_new hs]
    · have ht' : t ∈ ss := by
        rcases List.mem_append.1 ht with g | g
        · exact g
        · simp at g; exact absurd g e
      rw [Maps.atKey_put_other (fun e' => e (keyS_inj e')), h.at_ t ht' z, Pm.firstAt_more _ ht']

set_option maxHeartbeats 2000000 in
set_option maxRecDepth 100000 in
theorem firstPlaces_any (A : Option Addr) (ss : List ByteArray) (c : Nat) (w : World) (ha : Strs w w.heap.size A ss) (h1 : ss.length ≤ 1073741) (hsz : ∀ s ∈ ss, s.size ≤ maxLen) :
    Calls Try.prog 41 #[.slice A ss.length c] w fun e w' => ∃ D : DataW Unit, e = .returned (.map (some w.heap.size)) ∧ w'.ownsMap Try.prog 9 (plainElem Try.prog 3) w.heap.size ss.length D ∧ Places ss D ∧ Below w.heap.size w w' := by
  have hmm := @run_makeMap Try.prog
  have HSZ := Lib.hid hsz
  clear hsz
  go_enter Try.func41, Try.ntmps41
  go_wp2_with fail
  go_loopw [11] (fun i wr => ∃ (k : Nat) (D : DataW Unit), k ≤ ss.length ∧ i = .int .i64 k ∧ wr.ownsMap Try.prog 9 (plainElem Try.prog 3) w.heap.size k D ∧ Places (ss.take k) D ∧ Below w.heap.size w wr) (fun i _ => ss.length - (intOf i).toNat)
  case atStart => exact ⟨0, .map [], Nat.zero_le _, rfl, World.ownsMap_made _ _ _ _, Places.nil, (Below.refl _ _).alloc (Nat.le_refl _) _⟩
  case round =>
    obtain ⟨k, D, hk, rfl, hown, hP, hB⟩ := hrel
    by_cases g1 : k < ss.length
    · obtain ⟨a, rfl, hab, hca0⟩ := (ha.below hB).at_ g1
      obtain ⟨s, hs⟩ : ∃ s, s = ss[k] := ⟨_, rfl⟩
      have hca : wr.cell? (a.add k) = some (.string s) := by rw [hs]; exact hca0
      have hkey : keyOf Try.prog 9 (.string s) = some (keyS s) := keyOf_string_mk Try.underlying9 (HSZ.out s (by rw [hs]; exact List.getElem_mem _))
      have hts : ss.take (k + 1) = ss.take k ++ [s] := by rw [hs, List.take_succ_eq_append_getElem g1]
      have hkl : (ss.take k).length = k := by rw [List.length_take]; omega
      have hh := hP.has_ s
      have HKEY := Lib.hid hkey
      have HTS := Lib.hid hts
      have HKL := Lib.hid hkl
      clear hkey hts hca0 hs hkl
      by_cases g2 : s ∈ ss.take k
      · have hhas : Maps.has D (keyS s) = true := by rw [hh]; simpa using g2
        have HH := Lib.hid hh
        clear hh
        go_wp2_with (first
          | (at_lookup; refine wpList_lookup_own_ok_int _ rfl _ _ 66 rfl 9 3 .i64 law9 Try.underlying66 Try.underlying3 (zero3 _) w.heap.size k D rfl hown _ _ rfl HKEY.out ?_; intro c hat hwc; have HAT := Lib.hid hat; clear hat)
          | go_in)
        go_roundw
        case rel => exact ⟨k + 1, D, by omega, by go_num, hown.mono (by omega), by rw [HTS.out]; exact hP.old g2, hB⟩
        case measure => simp [intOf]; omega
      · have hhas : Maps.has D (keyS s) = false := by rw [hh]; simpa using g2
        have HH := Lib.hid hh
        clear hh
        have hwf : (Lit.int .i64 (k : Int)).wf = true := WalkArith.wf_i64 (by omega)
        go_wp2_with (first
          | (at_lookup; refine wpList_lookup_own_ok_int _ rfl _ _ 66 rfl 9 3 .i64 law9 Try.underlying66 Try.underlying3 (zero3 _) w.heap.size k D rfl hown _ _ rfl HKEY.out ?_; intro c hat hwc; have HAT := Lib.hid hat; clear hat)
          | (at_mapUpdate; refine wpList_mapUpdate_own _ rfl _ _ _ 66 rfl 9 3 law9 Try.underlying66 _ w.heap.size k D rfl hown (by unfold maxLen; omega) _ _ _ rfl rfl HKEY.out _ [] (plainElem_int Try.underlying3 hwf) ?_; intro w1 hown1 hgrow1)
          | go_in)
        go_roundw
        case rel => exact ⟨k + 1, _, by omega, by go_num, hown1, by rw [HTS.out]; have := hP.put hown.isMap g2; rw [HKL.out] at this; exact this, hB.grown hgrow1 hB.size (fun j hj => by cases hj; exact Nat.le_refl _)⟩
        case measure => simp [intOf]; omega
    · have hkz : ss.take k = ss := List.take_of_length_le (by omega)
      have hke : k = ss.length := by omega
      rw [hkz] at hP
      have HKE := Lib.hid hke
      clear hkz hke
      go_wp2_with fail
      go_ret
      exact ⟨D, rfl, by rw [← HKE.out]; exact hown, hP, hB⟩

end Go.Proofs.Ytmonemgjgcfhlaa
