/-
  numbers and numbered: two lists of lines as numbers.
-/
import Derived.Test.YtmonemgjgcfhlaaPlaces
namespace Go.Proofs.Ytmonemgjgcfhlaa
open Go.RowKit Go.Maps Go.WideMaps

theorem info3' : (Try.prog.info? 3).map (fun i => (i.zero, i.size, i.bytes)) = some (some (.int .i64 0), 1, 8) := info3
theorem fill_step (xs : List Value) (z u : Value) (n k : Nat) (hx : xs.length = k) (hk : k < n) :
    ((xs ++ List.replicate (n - k) z).toArray.setIfInBounds k u) = (xs ++ [u] ++ List.replicate (n - (k + 1)) z).toArray := by
  have e : n - k = (n - (k + 1)) + 1 := by omega
  rw [e, List.replicate_succ]
  subst hx
  simp
theorem fill_at (xs : List Value) (z : Value) (n k : Nat) (hx : xs.length = k) (hk : k < n) : (xs ++ List.replicate (n - k) z).toArray[k]? = some z := by
  have e : n - k = (n - (k + 1)) + 1 := by omega
  rw [e, List.replicate_succ]
  subst hx
  simp
theorem made_row (n : Nat) : madeCells #[Value.int .i64 0] n = ([] ++ List.replicate (n - 0) (Value.int .i64 0)).toArray := by
  apply Array.toList_inj.1
  rw [toList_madeCells_one]
  simp
theorem numL_snoc {l a b : List ByteArray} {only : Int} {k : Nat} {s : ByteArray} (hs : l[k]? = some s) : Pm.numL (l.take (k + 1)) a b only = Pm.numL (l.take k) a b only ++ [if s ∈ a ∧ s ∈ b then (Pm.firstAt s a : Int) else only] := by
  obtain ⟨h, rfl⟩ := List.getElem?_eq_some_iff.1 hs
  rw [List.take_succ_eq_append_getElem h]
  unfold Pm.numL
  rw [List.map_append]
  rfl
/-- the list of numbers that is being filled -/
def Filled (w : World) (l a b : List ByteArray) (only : Int) (k : Nat) (wr : World) : Prop :=
  Blk wr w.heap.size 3 ((Pm.numL (l.take k) a b only).map (Value.int .i64) ++ List.replicate (l.length - k) (Value.int .i64 0)).toArray ∧ Below w.heap.size w wr
theorem Filled.set {w wr : World} {l a b : List ByteArray} {only : Int} {k : Nat} {s : ByteArray} (h : Filled w l a b only k wr) (hs : l[k]? = some s) (z : Int) (hz : z = if s ∈ a ∧ s ∈ b then (Pm.firstAt s a : Int) else only) :
    Filled w l a b only (k + 1) (wr.setCell ⟨w.heap.size, k, none⟩ (.int .i64 z)) := by
  obtain ⟨hk, _⟩ := List.getElem?_eq_some_iff.1 hs
  refine ⟨?_, h.2.setCell (p := ⟨w.heap.size, k, none⟩) (Nat.le_refl _) _⟩
  have := h.1.set_ k (.int .i64 z)
  rw [fill_step _ _ _ _ _ (by simp [Pm.numL]; omega) hk] at this
  rw [numL_snoc hs, List.map_append, ← hz]
  exact this
theorem Filled.cell {w wr : World} {l a b : List ByteArray} {only : Int} {k : Nat} (h : Filled w l a b only k wr) (hk : k < l.length) : wr.cell? ⟨w.heap.size, k, none⟩ = some (.int .i64 0) := by
  rw [h.1.cell k, fill_at _ _ _ _ (by simp [Pm.numL]; omega) hk]

set_option maxHeartbeats 2000000 in
set_option maxRecDepth 100000 in
theorem numbers_any (A : Option Addr) (l a b : List ByteArray) (c ba bb na nb : Nat) (Da Db : DataW Unit) (only : Int) (w : World) (ha : Strs w w.heap.size A l) (h1 : l.length ≤ 1073741) (hsz : ∀ s ∈ l, s.size ≤ maxLen)
    (hma : w.ownsMap Try.prog 9 (plainElem Try.prog 3) ba na Da) (hmb : w.ownsMap Try.prog 9 (plainElem Try.prog 3) bb nb Db) (hPa : Places a Da) (hPb : Places b Db) :
    Calls Try.prog 42 #[.slice A l.length c, .map (some ba), .map (some bb), .int .i64 only] w fun e w' => ∃ A' c', e = .returned (.slice A' l.length c') ∧ Ints w' w'.heap.size A' (Pm.numL l a b only) ∧ Below w.heap.size w w' := by
  have hmk := run_make_row' (P := Try.prog) 23 3 (.int .i64 0) 8 Try.underlying23 info3' rfl .i64 .i64 l.length (by omega) (by omega)
  have HSZ := Lib.hid hsz
  have HPA := Lib.hid hPa
  have HPB := Lib.hid hPb
  clear hsz hPa hPb
  go_enter Try.func42, Try.ntmps42
  go_wp2_with fail
  go_loopw [21] (fun i wr => ∃ (k : Nat), k ≤ l.length ∧ i = .int .i64 k ∧ Filled w l a b only k wr) (fun i _ => l.length - (intOf i).toNat)
  case atStart => exact ⟨0, Nat.zero_le _, rfl, by rw [made_row]; exact Blk.new _ _ _, (Below.refl _ _).alloc (Nat.le_refl _) _⟩
  case round =>
    obtain ⟨k, hk, rfl, hF⟩ := hrel
    have hB := hF.2
    by_cases g1 : k < l.length
    · obtain ⟨ad, rfl, hab, hca0⟩ := (ha.below hB).at_ g1
      obtain ⟨s, hs⟩ : ∃ s, s = l[k] := ⟨_, rfl⟩
      have hca : wr.cell? (ad.add k) = some (.string s) := by rw [hs]; exact hca0
      have hkey : keyOf Try.prog 9 (.string s) = some (keyS s) := keyOf_string_mk Try.underlying9 (HSZ.out s (by rw [hs]; exact List.getElem_mem _))
      have HS := Lib.hid (at_getD g1 hs)
      have hba := HPA.out.has_ s
      have hbb := HPB.out.has_ s
      have hma' := hma.kept (grown_of_below hB none) (by simp)
      have hmb' := hmb.kept (grown_of_below hB none) (by simp)
      have hcell := hF.cell g1
      have hfro := hF.1.frozen k
      have HKEY := Lib.hid hkey
      clear hkey hca0 hs
      by_cases g2 : s ∈ a <;> by_cases g3 : s ∈ b
      all_goals
        simp only [g2, g3, decide_true, decide_false] at hba hbb
        go_wp2_with (first
          | (at_lookup; refine wpList_lookup_own_ok_int _ rfl _ _ 66 rfl 9 3 .i64 law9 Try.underlying66 Try.underlying3 (zero3 _) ba na Da rfl hma' _ _ rfl HKEY.out ?_; intro c1 hat1 hwc1; have HAT := Lib.hid hat1; clear hat1)
          | (at_lookup; refine wpList_lookup_own_ok_int _ rfl _ _ 66 rfl 9 3 .i64 law9 Try.underlying66 Try.underlying3 (zero3 _) bb nb Db rfl hmb' _ _ rfl HKEY.out ?_; intro c2 hat2 hwc2; have HAT2 := Lib.hid hat2; clear hat2)
          | go_in)
        go_roundw
        case rel =>
          refine ⟨k + 1, by omega, by go_num, hF.set HS.out _ ?_⟩
          first
            | (rw [if_pos ⟨g2, g3⟩]; have := HAT.out; rw [HPA.out.at_ s g2] at this; injection this with this; injection this with _ this; exact this.symm)
            | (rw [if_neg (by simp [g2, g3])])
        case measure => simp [intOf]; omega
    · have hkz : l.take k = l := List.take_of_length_le (by omega)
      have hke : l.length - k = 0 := by omega
      have hb := hF.1
      rw [hkz, hke] at hb
      have HBB := Lib.hid hb
      clear hkz hke hb
      go_wp2_with fail
      go_ret
      refine ⟨_, _, rfl, ?_, hB⟩
      intro hn
      refine ⟨_, rfl, HBB.out.lt, fun j z hj => ?_⟩
      have he : ((⟨w.heap.size, 0, none⟩ : Addr).add j) = ⟨w.heap.size, j, none⟩ := by by_cases hj0 : j = 0 <;> simp [Addr.add, hj0]
      rw [he, HBB.out.cell j]
      simp [hj]

set_option maxHeartbeats 2000000 in
set_option maxRecDepth 100000 in
theorem numbered_any (A B : Option Addr) (a b : List ByteArray) (c d : Nat) (w : World) (ha : Strs w w.heap.size A a) (hb : Strs w w.heap.size B b) (h1 : a.length ≤ 1073741) (h2 : b.length ≤ 1073741) (hsa : ∀ s ∈ a, s.size ≤ maxLen) (hsb : ∀ s ∈ b, s.size ≤ maxLen) :
    Calls Try.prog 27 #[.slice A a.length c, .slice B b.length d] w fun e w' => ∃ X cx Y cy, e = .returned (.tuple #[.slice X a.length cx, .slice Y b.length cy]) ∧ Ints w' w'.heap.size X (Pm.numL a a b (-1)) ∧ Ints w' w'.heap.size Y (Pm.numL b a b (-2)) ∧ Below w.heap.size w w' := by
  have HSA := Lib.hid hsa
  have HSB := Lib.hid hsb
  clear hsa hsb
  go_enter Try.func27, Try.ntmps27
  go_wp2_with fail
  refine (firstPlaces_any A a c _ ha h1 HSA.out).mono ?_
  rintro e w1 ⟨Da, rfl, hma, hPa, hb1⟩
  have HPa := Lib.hid hPa
  clear hPa
  go_wp2_with fail
  refine (firstPlaces_any B b d _ ((hb.below hb1).more hb1.size) h2 HSB.out).mono ?_
  rintro e w2 ⟨Db, rfl, hmb, hPb, hb2⟩
  have HPb := Lib.hid hPb
  clear hPb
  have hB2 := below_step hb1 hb2
  have hma2 := hma.kept (grown_of_below hb2 none) (by simp)
  go_wp2_with fail
  refine (numbers_any A a a b c _ _ _ _ Da Db _ _ ((ha.below hB2).more hB2.size) h1 HSA.out hma2 hmb HPa.out HPb.out).mono ?_
  rintro e w3 ⟨X, cx, rfl, hX, hb3⟩
  have hB3 := below_step hB2 hb3
  have hma3 := hma2.kept (grown_of_below hb3 none) (by simp)
  have hmb3 := hmb.kept (grown_of_below hb3 none) (by simp)
  go_wp2_with fail
  refine (numbers_any B b a b d _ _ _ _ Da Db _ _ ((hb.below hB3).more hB3.size) h2 HSB.out hma3 hmb3 HPa.out HPb.out).mono ?_
  rintro e w4 ⟨Y, cy, rfl, hY, hb4⟩
  have hB4 := below_step hB3 hb4
  go_wp2_with fail
  go_ret2
  exact ⟨X, cx, Y, cy, rfl, (hX.below hb4).more hb4.size, hY, hB4⟩

end Go.Proofs.Ytmonemgjgcfhlaa
