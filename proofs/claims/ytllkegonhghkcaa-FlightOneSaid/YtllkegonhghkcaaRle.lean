/-
  collatorref15.Leave tells what leaveF says. Nothing that was there is changed.
-/
import Derived.Test.YtllkegonhghkcaaRdo
namespace Go.Proofs.Ytllkegonhghkcaa
open Go.RowKit P15

/-- what a Leave tells -/
def LeaTold (t : List Fl × Int) (w : World) (e : Ending) (w' : World) : Prop :=
  ∃ (A : Option Addr) (n c : Nat), e = .returned (.tuple #[.slice A n c, .int .i64 t.2]) ∧ t.1.length = n ∧ n ≤ c ∧ FillsAt w' A t.1 ∧ Below w.heap.size w w'
theorem without_snoc_ne {l : List Int} {n who : Int} (h : n ≠ who) : without (l ++ [n]) who = without l who ++ [n] := by
  unfold without; rw [List.filter_append]; simp [h]
theorem without_snoc_eq {l : List Int} {n who : Int} (h : n = who) : without (l ++ [n]) who = without l who := by
  unfold without; rw [List.filter_append]; simp [h]
theorem without_len (l : List Int) (who : Int) : (without l who).length ≤ l.length := List.length_filter_le _ _
theorem not_waits_take {L : List Fl} {k : Nat} {x : Fl} {who : Int} (hx : L[k]? = some x) (h : who ∉ waits (L.take k)) (hw : who ∉ x.wait) : who ∉ waits (L.take (k + 1)) := by
  rw [take_snoc hx, waits_append]
  intro hm
  rcases List.mem_append.1 hm with hm | hm
  · exact h hm
  · exact hw (by simpa [waits] using hm)

set_option maxHeartbeats 8000000 in
set_option maxRecDepth 100000 in
theorem rleave_any (A : Option Addr) (L : List Fl) (n c : Nat) (who : Int) (w : World) (t : List Fl × Int) (ht : leaveF L who = t) (ha : FillsAt w A L) (hn : L.length = n) (hf : FitF L) :
    Calls Try.prog 20 #[.slice A n c, .int .i64 who] w (LeaTold t w) := by
  subst hn
  obtain ⟨bo, hbo⟩ : ∃ bo, rightB L = bo := ⟨_, rfl⟩
  have HBO := Lib.hid hbo
  have HT := Lib.hid ht
  have HA := Lib.hid ha
  have HF := Lib.hid hf
  have hl := hf.len
  clear hbo ht ha hf
  go_enter Try.func20, Try.ntmps20
  go_wp2_with fail
  refine (rright_any A L L.length c bo HBO.out _ HA.out rfl HF.out).mono ?_
  rintro e w1 ⟨rfl, hb⟩
  have HW1 := Lib.hid hb
  clear hb
  cases bo with
  | false =>
    have HT2 : Hid (t = ([], 1)) := Lib.hid (by rw [← HT.out, leaveF_wrong HBO.out])
    go_wp2_with fail
    go_ret2
    rw [HT2.out]
    exact ⟨none, 0, 0, rfl, rfl, Nat.le_refl _, FillsAt.nil, HW1.out⟩
  | true =>
    go_wp2_with fail
    go_loopw [7] (fun i wr => ∃ k : Nat, k ≤ L.length ∧ i = .int .i64 k ∧ Hid (who ∉ waits (L.take k)) ∧ Hid (Below w.heap.size w wr)) (fun i _ => L.length - (intOf i).toNat)
    case atStart => exact ⟨0, Nat.zero_le _, rfl, Lib.hid (by simp [waits]), HW1⟩
    case round =>
      obtain ⟨k, hk, rfl, HK, HW⟩ := hrel
      obtain ⟨v3, rfl⟩ : ∃ w3, w3 = wr := ⟨_, rfl⟩
      by_cases g1 : k < L.length
      · obtain ⟨x, hx⟩ : ∃ x, L[k]? = some x := ⟨_, List.getElem?_eq_getElem g1⟩
        obtain ⟨a, B, cw, rfl, hal, p0, p1, p2, p3, hi, hcw⟩ := (HA.out.up HW.out).at_ hx
        have HX := Lib.hid hx
        have HI := Lib.hid hi
        have hxw := (HF.out.each x (List.mem_of_getElem? hx)).1
        obtain ⟨ws, hws⟩ : ∃ ws, ws = x.wait := ⟨_, rfl⟩
        have HWS := Lib.hid hws
        rw [← hws] at p3 hcw hxw
        have HI : Hid (IntsAt v3 B ws) := Lib.hid (by rw [hws]; exact hi)
        clear hx hi hws
        go_upto_region 8 with (fail)
        obtain ⟨g4, w4, hg4, hw4, hb4, hbe4⟩ := box_new v3 28 #[.string x.left, .string x.right, .int .i64 x.by_, .slice B ws.length cw]
        rw [← hw4, ← hg4]
        have HB4 := Lib.hid hb4
        have HW4 := Lib.hid (HW.out.trans (hbe4.mono HW.out.size))
        have HG4 : Hid (v3.heap.size ≤ g4) := Lib.hid (by omega)
        have HI4 := Lib.hid (HI.out.up hbe4)
        clear p0 p1 p2 p3 hg4 hw4 hb4 hbe4
        obtain ⟨y0, y1, y2, y3⟩ := blk4 HB4.out
        obtain ⟨bi, hbi⟩ : ∃ bi, decide (who ∈ ws) = bi := ⟨_, rfl⟩
        have HBI := Lib.hid hbi
        clear hbi
        go_wp2_with fail
        refine (rin_any B ws ws.length cw who bi HBI.out _ HI4.out rfl (by omega)).mono ?_
        rintro e w5 ⟨rfl, rfl⟩
        cases bi with
        | false =>
          have HK2 : Hid (who ∉ waits (L.take (k + 1))) := Lib.hid (not_waits_take HX.out HK.out (by rw [← HWS.out]; exact of_decide_eq_false HBI.out))
          go_wp2_with fail
          go_roundw
          case rel => exact ⟨k + 1, by omega, by go_num, HK2, HW4⟩
          case measure => simp [intOf]; omega
        | true =>
          have HT2 : Hid (t = (L.set k ⟨x.left, x.right, x.by_, without ws who⟩, 0)) := Lib.hid (by
            have hm : who ∈ x.wait := by rw [← HWS.out]; exact of_decide_eq_true HBI.out
            rw [← HT.out, leaveF_some HBO.out (mem_waits.2 ⟨x, List.mem_of_getElem? HX.out, hm⟩), gone_set (rightB_iff.1 HBO.out).2 HX.out hm, HWS.out])
          clear y0 y1 y2 y3
          go_wp2_with fail
          go_loopw [9, 10] (fun v i wx => ∃ (j m : Nat) (Ao : Option Addr) (co : Nat), j ≤ ws.length ∧ v = .slice Ao m co ∧ i = .int .i64 j ∧ Hid (OwnI w4 wx (.slice Ao m co) (without (ws.take j) who)) ∧ Hid ((without (ws.take j) who).length = m)) (fun _ i _ => ws.length - (intOf i).toNat)
          case atStart => exact ⟨0, 0, none, 0, Nat.zero_le _, rfl, rfl, Lib.hid (OwnR.nil w4), Lib.hid rfl⟩
          case round =>
            obtain ⟨j, m, Ao, co, hj, rfl, rfl, HV, HM⟩ := hrel
            have hm1 : m ≤ j := by
              have h1 := without_len (ws.take j) who
              rw [HM.out, List.length_take] at h1
              omega
            have HB5 := Lib.hid (Blk.below HB4.out HV.out.2 HB4.out.lt)
            obtain ⟨y0, y1, y2, y3⟩ := blk4 HB5.out
            by_cases g2 : j < ws.length
            · obtain ⟨z, hz⟩ : ∃ z, ws[j]? = some z := ⟨_, List.getElem?_eq_getElem g2⟩
              obtain ⟨b, rfl, hbl, d0⟩ := ints_cell (HI4.out.up HV.out.2) hz
              have HZ := Lib.hid hz
              clear hz
              by_cases g3 : z = who
              · have t3 : (z != who) = false := by simp [g3]
                have t4 : (z == who) = true := by simp [g3]
                have HO : Hid (without (ws.take (j + 1)) who = without (ws.take j) who) := Lib.hid (by rw [take_snoc HZ.out, without_snoc_eq g3])
                clear g3
                go_wp2_with fail
                go_roundw
                case rel => exact ⟨j + 1, m, Ao, co, by omega, rfl, by go_num, Lib.hid (by rw [HO.out]; exact HV.out), Lib.hid (by rw [HO.out]; exact HM.out)⟩
                case measure => simp [intOf]; omega
              · have t3 : (z != who) = true := by simp [g3]
                have t4 : (z == who) = false := by simp [g3]
                have HO : Hid (without (ws.take (j + 1)) who = without (ws.take j) who ++ [z]) := Lib.hid (by rw [take_snoc HZ.out, without_snoc_ne g3])
                obtain ⟨A6, c6, w6, hr6, ho6, hgr6⟩ := int_push HV.out z (m + 1) (by rw [HM.out]) (by omega)
                have HR6 := Lib.hid hr6
                have HO6 := Lib.hid ho6
                clear hr6 ho6 hgr6 g3
                go_wp2_with (at_builtin; refine wpList_append_run rfl rfl (by simp [Region.wanted]) rfl rfl HR6.out ?_; clear HR6)
                go_roundw
                case rel => exact ⟨j + 1, m + 1, A6, c6, by omega, rfl, by go_num, Lib.hid (by rw [HO.out]; exact HO6.out), Lib.hid (by rw [HO.out, List.length_append, HM.out]; rfl)⟩
                case measure => simp [intOf]; omega
            · have HV2 : Hid (OwnI w4 wr (.slice Ao m co) (without ws who)) := Lib.hid (by have := HV.out; rwa [List.take_of_length_le (by omega)] at this)
              have HM2 : Hid ((without ws who).length = m) := Lib.hid (by have := HM.out; rwa [List.take_of_length_le (by omega)] at this)
              have q3 := Blk.frozen HB5.out 3
              have HW7 : Hid (Below w.heap.size w (wr.setCell ⟨g4, 3, none⟩ (.slice Ao m co))) := Lib.hid ((HW4.out.trans (HV.out.2.mono HW4.out.size)).setCell (Nat.le_trans HW.out.size HG4.out) _)
              clear HV HM
              go_wp2_with fail
              refine (rwith_any (some a) L L.length c k x.left x.right x.by_ (without ws who) Ao m co _ (HA.out.up HW7.out) rfl hl g1 (own_far HV2.out HB5.out (by decide) 3 _) HM2.out (by have := (OwnR.cap HV2.out).1; rw [HM2.out] at this; exact this)).mono ?_
              rintro e w8 ⟨A8, n8, c8, rfl, hn8, hc8, hfa, hb8⟩
              have HFA := Lib.hid hfa
              have HN8 := Lib.hid hn8
              have HW8 : Hid (Below w.heap.size w w8) := Lib.hid (HW7.out.trans (hb8.mono HW7.out.size))
              clear hfa hn8 hb8 y0 y1 y2 y3 q3
              go_wp2_with fail
              go_ret2
              rw [HT2.out]
              exact ⟨A8, n8, c8, rfl, HN8.out, hc8, HFA.out, HW8.out⟩
      · have HT2 : Hid (t = ([], 10)) := Lib.hid (by
          have := HK.out
          rw [List.take_of_length_le (by omega)] at this
          rw [← HT.out, leaveF_none HBO.out this])
        go_wp2_with fail
        go_ret2
        rw [HT2.out]
        exact ⟨none, 0, 0, rfl, rfl, Nat.le_refl _, FillsAt.nil, HW.out⟩

end Go.Proofs.Ytllkegonhghkcaa
