/-
  Package flight: Done tells what doneF says, and whom it tells lies in a block of numbers.
-/
import Derived.Test.YtllkegonhghkcaaIdl
namespace Go.Proofs.Ytllkegonhghkcaa
open Go.RowKit Go.Maps P15

theorem intsT_nil {w : World} : IntsT w ⟨⟨#[]⟩, ⟨#[]⟩, 0, [], none, 0⟩ := ⟨fun h => absurd rfl h, Nat.le_refl _⟩
/-- what a Done tells, in new memory, those that wait in a block of numbers -/
def DonTyp (t : List Int × List Fl × Int) (w : World) (e : Ending) (w' : World) : Prop :=
  ∃ (B : Option Addr) (m d : Nat) (A : Option Addr) (n c : Nat), e = .returned (.tuple #[.slice B m d, .slice A n c, .int .i64 t.2.2]) ∧ t.1.length = m ∧ m ≤ d ∧ IntsT w' ⟨⟨#[]⟩, ⟨#[]⟩, 0, t.1, B, d⟩ ∧ t.2.1.length = n ∧ n ≤ c ∧ FillsNew w.heap.size w' A t.2.1 ∧ Below w.heap.size w w'
set_option maxHeartbeats 8000000 in
set_option maxRecDepth 100000 in
theorem idone_typ (A : Option Addr) (L : List Fl) (n c : Nat) (who : Int) (w : World) (t : List Int × List Fl × Int) (ht : doneF L who = t) (ha : FillsAt w A L) (hn : L.length = n) (hf : FitF L) (hw : I64 who) :
    Calls Try.prog 17 #[.slice A n c, .int .i64 who] w (DonTyp t w) := by
  subst hn
  obtain ⟨bo, hbo⟩ : ∃ bo, rightB L = bo := ⟨_, rfl⟩
  have HBO := Lib.hid hbo
  have HT := Lib.hid ht
  have HA := Lib.hid ha
  have HF := Lib.hid hf
  have HW := Lib.hid hw
  have hl := hf.len
  clear hbo ht ha hf hw
  go_enter Try.func17, Try.ntmps17
  go_upto_region 1 with (fail)
  obtain ⟨gw, w1, hgw, hw1, hbw, hbe1⟩ := box_new w 3 #[.int .i64 who]
  rw [← hw1, ← hgw]
  have HBE1 := Lib.hid hbe1
  have HBW := Lib.hid hbw
  clear hgw hw1 hbw hbe1
  go_wp2_with fail
  refine (look_any A L L.length c _ (HA.out.up HBE1.out) rfl HF.out).mono ?_
  rintro e w2 ⟨g, m, D, rfl, ho, hk, hbe⟩
  rw [HBO.out]
  have HWB := Lib.hid (Blk.below HBW.out hbe HBW.out.lt)
  have HBE2 : Hid (Below w.heap.size w w2) := Lib.hid (HBE1.out.trans (hbe.mono HBE1.out.size))
  have HO := Lib.hid ho
  have HK := Lib.hid hk
  clear HBW ho hk hbe
  cases bo with
  | false =>
    have HT2 : Hid (t = ([], [], 1)) := Lib.hid (by rw [← HT.out, doneF_wrong HBO.out])
    go_wp2_with fail
    go_ret3
    rw [HT2.out]
    exact ⟨none, 0, 0, none, 0, 0, rfl, rfl, Nat.le_refl _, intsT_nil, rfl, Nat.le_refl _, FillsNew.nil, HBE2.out⟩
  | true =>
    have hlk := lookup_a HO.out HK.out who HW.out
    obtain ⟨ab, hab⟩ : ∃ ab, abt (seats L) who = ab := ⟨_, rfl⟩
    rw [hab] at hlk
    have HAB := Lib.hid hab
    have u0 := Blk.cell HWB.out 0
    simp only [List.getElem?_toArray, List.getElem?_cons_zero] at u0
    clear hab
    by_cases g1 : ab = 1
    · have t1 : (ab != 1) = false := by simp [g1]
      have t2 : (ab == 1) = true := by simp [g1]
      have hnb : who ∈ bys L := (abt_one (rightB_iff.1 HBO.out)).1 (by rw [HAB.out, g1])
      obtain ⟨x, hx, hxb⟩ := mem_bys.1 hnb
      have HT2 : Hid (t = (x.wait, ended L who, 0)) := Lib.hid (by rw [← HT.out, doneF_some HBO.out hx hxb])
      have HTL : Hid (tellF L who = x.wait) := Lib.hid (tellF_right (rightB_iff.1 HBO.out) hx hxb)
      clear g1 hnb hx hxb
      go_upto_region 7 with (fail)
      obtain ⟨gt, w3, hgt, hw3, hbt, hbe3⟩ := box_new w2 26 #[.slice none 0 0]
      rw [← hw3, ← hgt]
      have HCAP : Hid (CapD w3 gw gt who (.slice none 0 0)) := Lib.hid ⟨Blk.below HWB.out hbe3 HWB.out.lt, hbt⟩
      have HBE3 : Hid (Below w.heap.size w w3) := Lib.hid (HBE2.out.trans (hbe3.mono HBE2.out.size))
      have HGT : Hid (w.heap.size ≤ gt) := Lib.hid (by rw [hgt]; exact HBE2.out.size)
      clear hlk t1 t2 u0 hgt hw3 hbt hbe3
      go_wp2_with fail
      refine (eachd_any A L L.length c w _ gw gt who HA.out rfl HF.out HBE3.out HCAP.out HGT.out).mono ?_
      rintro e w4 ⟨A4, n4, c4, R4, rfl, hn4, hown, T, tn, tc, hcap, hti, htl⟩
      have HOWN := Lib.hid hown
      have HN4 := Lib.hid hn4
      have HTI := Lib.hid hti
      have HTN := Lib.hid htl
      have u0 := Blk.cell hcap.told 0
      simp only [List.getElem?_toArray, List.getElem?_cons_zero] at u0
      clear hown hn4 hcap hti htl
      go_wp2_with fail
      go_ret3
      rw [HT2.out]
      have hi := HTI.out
      have hl2 := HTN.out
      have hc2 := HTI.out.cap
      rw [HTL.out] at hi hl2 hc2
      exact ⟨T, tn, tc, A4, n4, c4, rfl, hl2, by rw [← hl2]; exact hc2, hi, HN4.out, by rw [← HN4.out, ← HOWN.out.len]; exact (OwnR.cap HOWN.out.row).1, HOWN.out.fresh, HOWN.out.row.2⟩
    · have t1 : (ab != 1) = true := by simp [g1]
      have t2 : (ab == 1) = false := by simp [g1]
      have HT2 : Hid (t = ([], [], 10)) := Lib.hid (by
        rw [← HT.out, doneF_none HBO.out fun h => g1 (by rw [← HAB.out, (abt_one (rightB_iff.1 HBO.out)).2 h])])
      clear g1
      go_wp2_with fail
      go_ret3
      rw [HT2.out]
      exact ⟨none, 0, 0, none, 0, 0, rfl, rfl, Nat.le_refl _, intsT_nil, rfl, Nat.le_refl _, FillsNew.nil, HBE2.out⟩


end Go.Proofs.Ytllkegonhghkcaa
