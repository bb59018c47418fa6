/-
  Package flight: Right and Begin tell what rightB and beginF say. Nothing that was there is changed.
-/
import Derived.Test.YtllkegonhghkcaaEac
namespace Go.Proofs.Ytllkegonhghkcaa
open Go.RowKit Go.Maps P15

/-- what a Begin tells, in new memory -/
def BegNew (t : Bool × List Fl × Int) (w : World) (e : Ending) (w' : World) : Prop :=
  ∃ (A : Option Addr) (n c : Nat), e = .returned (.tuple #[.bool t.1, .slice A n c, .int .i64 t.2.2]) ∧ t.2.1.length = n ∧ n ≤ c ∧ FillsNew w.heap.size w' A t.2.1 ∧ Below w.heap.size w w'
set_option maxHeartbeats 1000000 in
theorem iright_any (A : Option Addr) (L : List Fl) (n c : Nat) (b : Bool) (hb : rightB L = b) (w : World) (ha : FillsAt w A L) (hn : L.length = n) (hf : FitF L) :
    Calls Try.prog 10 #[.slice A n c] w fun e w' => e = .returned (.bool b) ∧ Below w.heap.size w w' := by
  have HA := Lib.hid ha
  have HF := Lib.hid hf
  have HB := Lib.hid hb
  have HN := Lib.hid hn
  clear ha hf hb hn
  go_enter Try.func10, Try.ntmps10
  go_wp2_with fail
  refine (look_any A L n c _ HA.out HN.out HF.out).mono ?_
  rintro e w1 ⟨g, m, D, rfl, ho, hk, hbe⟩
  rw [HB.out]
  have HBE := Lib.hid hbe
  clear ho hk hbe
  go_wp2_with fail
  go_ret
  exact ⟨rfl, HBE.out⟩

set_option maxHeartbeats 8000000 in
set_option maxRecDepth 100000 in
theorem ibegin_any (A : Option Addr) (L : List Fl) (n c : Nat) (l r : ByteArray) (who : Int) (w : World) (t : Bool × List Fl × Int) (ht : beginF L l r who = t) (ha : FillsAt w A L) (hn : L.length = n) (hf : FitF L) (hw : I64 who) (h1 : l.size ≤ 140737488351232) (h2 : r.size ≤ 140737488351232) :
    Calls Try.prog 14 #[.slice A n c, .string l, .string r, .int .i64 who] w (BegNew t w) := by
  subst hn
  obtain ⟨bo, hbo⟩ : ∃ bo, rightB L = bo := ⟨_, rfl⟩
  have HBO := Lib.hid hbo
  have HT := Lib.hid ht
  have HA := Lib.hid ha
  have HF := Lib.hid hf
  have HW := Lib.hid hw
  have hl := hf.len
  have H1 := Lib.hid h1
  have H2 := Lib.hid h2
  clear hbo ht ha hf hw h1 h2
  go_enter Try.func14, Try.ntmps14
  go_upto_region 1 with (fail)
  obtain ⟨w1, hw1⟩ : ∃ w1, w1 = ((w.alloc (.cells #[.string l] 9)).alloc (.cells #[.string r] 9)).alloc (.cells #[.int .i64 who] 3) := ⟨_, rfl⟩
  have hbe1 : Below w.heap.size w w1 := by rw [hw1]; exact (((Below.refl _ _).alloc (Nat.le_refl _) _).alloc (by simp) _).alloc (by simp; omega) _
  have hbl : Blk w1 w.heap.size 9 #[.string l] := by rw [hw1]; exact ((Blk.new w _ _).alloc _).alloc _
  have hbr : Blk w1 (w.heap.size + 1) 9 #[.string r] := by
    have := (Blk.new (w.alloc (.cells #[.string l] 9)) 9 #[.string r]).alloc (.cells #[.int .i64 who] 3)
    rw [hw1]; simpa using this
  have hbw : Blk w1 (w.heap.size + 1 + 1) 3 #[.int .i64 who] := by
    have := Blk.new ((w.alloc (.cells #[.string l] 9)).alloc (.cells #[.string r] 9)) 3 #[.int .i64 who]
    rw [hw1]; simpa using this
  obtain ⟨gl, hgl⟩ : ∃ g, g = w.heap.size := ⟨_, rfl⟩
  obtain ⟨gr, hgr⟩ : ∃ g, g = w.heap.size + 1 := ⟨_, rfl⟩
  obtain ⟨gw, hgw⟩ : ∃ g, g = w.heap.size + 1 + 1 := ⟨_, rfl⟩
  rw [← hw1, ← hgw, ← hgr]
  rw [← hgw] at hbw
  rw [← hgr] at hbr
  rw [show (⟨w.heap.size, 0, none⟩ : Addr) = ⟨gl, 0, none⟩ from by rw [hgl]]
  rw [← hgl] at hbl
  have HBE1 := Lib.hid hbe1
  have HBL := Lib.hid hbl
  have HBR := Lib.hid hbr
  have HBW := Lib.hid hbw
  clear hw1 hbe1 hbl hbr hbw hgl hgr hgw
  go_wp2_with fail
  refine (look_any A L L.length c _ (HA.out.up HBE1.out) rfl HF.out).mono ?_
  rintro e w2 ⟨g, m, D, rfl, ho, hk, hbe⟩
  rw [HBO.out]
  have HL := Lib.hid (Blk.below HBL.out hbe HBL.out.lt)
  have HR := Lib.hid (Blk.below HBR.out hbe HBR.out.lt)
  have HWB := Lib.hid (Blk.below HBW.out hbe HBW.out.lt)
  have HBE2 : Hid (Below w.heap.size w w2) := Lib.hid (HBE1.out.trans (hbe.mono HBE1.out.size))
  have HO := Lib.hid ho
  have HK := Lib.hid hk
  clear HBL HBR HBW ho hk hbe
  cases bo with
  | false =>
    have HT2 : Hid (t = (false, [], 1)) := Lib.hid (by rw [← HT.out, beginF_wrong HBO.out])
    go_wp2_with fail
    go_ret3
    rw [HT2.out]
    exact ⟨none, 0, 0, rfl, rfl, Nat.le_refl _, FillsNew.nil, HBE2.out⟩
  | true =>
    have hlk := lookup_a HO.out HK.out who HW.out
    obtain ⟨ab, hab⟩ : ∃ ab, abt (seats L) who = ab := ⟨_, rfl⟩
    rw [hab] at hlk
    have HAB := Lib.hid hab
    have u0 := Blk.cell HWB.out 0
    simp only [List.getElem?_toArray, List.getElem?_cons_zero] at u0
    clear hab
    by_cases g1 : ab = 0
    · have t1 : (ab != 0) = false := by simp [g1]
      have t2 : (ab == 0) = true := by simp [g1]
      have HNI : Hid (who ∉ nums L) := Lib.hid (abt_zero.1 (by rw [HAB.out, g1]))
      clear g1
      go_upto_region 7 with (fail)
      obtain ⟨gf, w3, hgf, hw3, hbf, hbe3⟩ := box_new w2 4 #[.bool true]
      rw [← hw3, ← hgf]
      have hcap : CapB w3 gl gr gw gf l r who true := by
        refine ⟨Blk.below HL.out hbe3 HL.out.lt, Blk.below HR.out hbe3 HR.out.lt, Blk.below HWB.out hbe3 HWB.out.lt, hbf, ?_⟩
        have := HL.out.lt
        have := HR.out.lt
        have := HWB.out.lt
        omega
      have HCAP := Lib.hid hcap
      have HBE3 : Hid (Below w.heap.size w w3) := Lib.hid (HBE2.out.trans (hbe3.mono HBE2.out.size))
      have HGF : Hid (w.heap.size ≤ gf) := Lib.hid (by rw [hgf]; exact HBE2.out.size)
      clear hlk t1 t2 u0 hgf hw3 hbf hbe3 hcap
      go_wp2_with fail
      refine (eachb_any A L L.length c w _ gl gr gw gf l r who HA.out rfl HF.out HBE3.out HCAP.out HGF.out).mono ?_
      rintro e w4 ⟨A4, n4, c4, R4, rfl, hn4, hown, hcap⟩
      have HOWN := Lib.hid hown
      have HN4 := Lib.hid hn4
      have HC4 := Lib.hid hcap
      have u0 := Blk.cell hcap.first 0
      simp only [List.getElem?_toArray, List.getElem?_cons_zero] at u0
      clear hown hn4 hcap
      cases hh : hasT L l r with
      | true =>
        rw [hh] at u0
        have HT2 : Hid (t = (false, joined L l r who, 0)) := Lib.hid (by rw [← HT.out, beginF_join HBO.out HNI.out (hasT_iff.1 hh)])
        have u0 : w4.cell? ⟨gf, 0, none⟩ = some (.bool false) := u0
        clear hh
        go_wp2_with fail
        go_ret3
        rw [HT2.out]
        exact ⟨A4, n4, c4, rfl, HN4.out, by rw [← HN4.out, ← HOWN.out.len]; exact (OwnR.cap HOWN.out.row).1, HOWN.out.fresh, HOWN.out.row.2⟩
      | false =>
        rw [hh] at u0
        have HT2 : Hid (t = (true, L ++ [⟨l, r, who, []⟩], 0)) := Lib.hid (by rw [← HT.out, beginF_new HBO.out HNI.out (fun e => by rw [hasT_iff.2 e] at hh; cases hh)])
        have HJ : Hid (joined L l r who = L) := Lib.hid (by
          unfold joined
          exact (List.map_congr_left (g := id) (fun x hx => by rw [if_neg fun e => by rw [hasT_iff.2 (mem_txts.2 ⟨x, hx, e⟩)] at hh; cases hh]; rfl)).trans (List.map_id _))
        have u0 : w4.cell? ⟨gf, 0, none⟩ = some (.bool true) := u0
        have u1 := Blk.cell HC4.out.left 0
        have u2 := Blk.cell HC4.out.right 0
        have u3 := Blk.cell HC4.out.who 0
        simp only [List.getElem?_toArray, List.getElem?_cons_zero] at u1 u2 u3
        have HHT := Lib.hid hh
        clear hh
        go_wp2_with fail
        refine (own_any l r who [] none 0 0 w4 RowAt.nil rfl (by omega) (by have := H1.out; omega) (by have := H2.out; omega)).mono ?_
        rintro e w5 ⟨A5, c5, rfl, ho5⟩
        have how5 := HOWN.out.up ho5.2
        obtain ⟨A6, c6, w6, R6, hr6, ho6, hgr6, hty6⟩ := how5.push2 l r who [] A5 c5 (IntsT.of_own ho5 rfl rfl) (fun h => absurd rfl h) 0 rfl (n4 + 1) (by rw [HN4.out]) (by have := HN4.out; rw [HJ.out] at this; omega)
        have HR6 := Lib.hid hr6
        have HO6 : Hid (OwnF w w6 (.slice A6 (n4 + 1) c6) (L ++ [⟨l, r, who, []⟩]) R6) := Lib.hid (by rw [HJ.out] at ho6; exact ho6)
        have u9 := Blk.cell ((HC4.out.up ho5.2).grown hgr6 hty6).first 0
        rw [HHT.out] at u9
        have u9 : w6.cell? ⟨gf, 0, none⟩ = some (.bool true) := u9
        clear u0 u1 u2 u3 ho5 how5 hr6 ho6 hgr6 hty6
        go_wp2_with (at_builtin; refine wpList_append_run rfl rfl (by simp [Region.wanted]) rfl rfl HR6.out ?_; clear HR6)
        go_ret3
        rw [HT2.out]
        exact ⟨A6, n4 + 1, c6, rfl, HO6.out.len.symm.trans (by rw [HO6.out.len]; have := HN4.out; rw [HJ.out] at this; rw [List.length_append, this]; rfl), by have := (OwnR.cap HO6.out.row).1; rw [HO6.out.len, List.length_append, List.length_singleton] at this; have h2 := HN4.out; rw [HJ.out] at h2; omega, HO6.out.fresh, HO6.out.row.2⟩
    · have t1 : (ab != 0) = true := by simp [g1]
      have t2 : (ab == 0) = false := by simp [g1]
      have HNI : Hid (who ∈ nums L) := Lib.hid (Classical.byContradiction fun h => g1 (by rw [← HAB.out, abt_zero.2 h]))
      have HT2 : Hid (t = (false, [], 4)) := Lib.hid (by rw [← HT.out, beginF_twice HBO.out HNI.out])
      clear g1
      go_wp2_with fail
      go_ret3
      rw [HT2.out]
      exact ⟨none, 0, 0, rfl, rfl, Nat.le_refl _, FillsNew.nil, HBE2.out⟩

end Go.Proofs.Ytllkegonhghkcaa
