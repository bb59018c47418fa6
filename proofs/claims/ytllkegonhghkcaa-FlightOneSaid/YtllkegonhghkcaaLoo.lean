/-
  Package flight: look: the walk.
-/
import Derived.Test.YtllkegonhghkcaaLok
import Derived.Deep.DeepCutAuto
namespace Go.Proofs.Ytllkegonhghkcaa
open Go.RowKit Go.Maps P15

theorem FitF.num {L : List Fl} (h : FitF L) {k : Nat} {x : Fl} (hx : L[k]? = some x) : I64 x.by_ ∧ ∀ n ∈ x.wait, I64 n :=
  ⟨h.nums _ (mem_nums.2 ⟨x, List.mem_of_getElem? hx, .inl rfl⟩), fun n hn => h.nums n (mem_nums.2 ⟨x, List.mem_of_getElem? hx, .inr hn⟩)⟩
theorem seats_len (L : List Fl) : (seats L).length = (nums L).length := by rw [← seats_fst, List.length_map]

set_option maxHeartbeats 8000000 in
set_option maxRecDepth 100000 in
theorem look_any (A : Option Addr) (L : List Fl) (n c : Nat) (w : World) (ha : FillsAt w A L) (hn : L.length = n) (hf : FitF L) :
    Calls Try.prog 22 #[.slice A n c] w (LookTold L w) := by
  subst hn
  have HA := Lib.hid ha
  have HF := Lib.hid hf
  have hl := hf.len
  have hma := make_a
  have hmt := make_t
  clear ha hf
  go_enter Try.func22, Try.ntmps22
  go_upto_region 5 with (fail)
  obtain ⟨w5, hw5⟩ : ∃ w5, w5 = (((w.alloc (.map #[] 0)).alloc (.cells #[.map (some w.heap.size)] 52)).alloc (.map #[] 0)).alloc (.cells #[.bool true] 4) := ⟨_, rfl⟩
  have hI : LookIn w w5 (w.heap.size + 1 + 1 + 1) (w.heap.size + 1) w.heap.size (w.heap.size + 1 + 1) [] true [] 0 0 (.map []) (.map []) := by
    subst hw5
    have m1 : (w.alloc (.map #[] 0)).ownsMap Try.prog 3 (plainElem (H := Unit) Try.prog 3) w.heap.size 0 (.map []) := World.ownsMap_made _ _ _ _
    have b1 := Blk.new (w.alloc (.map #[] 0)) 52 #[.map (some w.heap.size)]
    have m2 : (((w.alloc (.map #[] 0)).alloc (.cells #[.map (some w.heap.size)] 52)).alloc (.map #[] 0)).ownsMap Try.prog 67 (plainElem (H := Unit) Try.prog 4) (w.heap.size + 1 + 1) 0 (.map []) := by
      have : (((w.alloc (.map #[] 0)).alloc (.cells #[.map (some w.heap.size)] 52)).alloc (.map #[] 0)).ownsMap Try.prog 67 (plainElem (H := Unit) Try.prog 4) ((w.alloc (.map #[] 0)).alloc (.cells #[.map (some w.heap.size)] 52)).heap.size 0 (.map []) := World.ownsMap_made _ _ _ _
      simpa using this
    have b3 := Blk.new (((w.alloc (.map #[] 0)).alloc (.cells #[.map (some w.heap.size)] 52)).alloc (.map #[] 0)) 4 #[.bool true]
    refine ⟨⟨by simpa using b3, ?_, (((m1.alloc _).alloc _).alloc _), KnownA.nil⟩, m2.alloc _, KnownT.nil, ((((Below.refl _ _).alloc (Nat.le_refl _) _).alloc (by simp) _).alloc (by simp; omega) _).alloc (by simp; omega) _, by simp, fun p hp => by cases hp⟩
    have b1' := (b1.alloc (.map #[] 0)).alloc (.cells #[.bool true] 4)
    simpa using b1'
  obtain ⟨g1, hg1⟩ : ∃ g1, g1 = w.heap.size := ⟨_, rfl⟩
  obtain ⟨ga, hga⟩ : ∃ ga, ga = w.heap.size + 1 := ⟨_, rfl⟩
  obtain ⟨g2, hg2⟩ : ∃ g2, g2 = w.heap.size + 1 + 1 := ⟨_, rfl⟩
  obtain ⟨gm, hgm⟩ : ∃ gm, gm = w.heap.size + 1 + 1 + 1 := ⟨_, rfl⟩
  have hG : LookAt w gm ga g1 g2 := ⟨by omega, by omega, by omega, by omega, by omega⟩
  rw [← hw5, ← hgm, ← hg2, ← hga]
  rw [← hgm, ← hg2, ← hga] at hI
  have hI : LookIn w w5 gm ga g1 g2 [] true [] 0 0 (.map []) (.map []) := by rw [hg1]; exact hI
  have HI0 := Lib.hid hI
  have HG := Lib.hid hG
  clear hma hmt hw5 hI hg1 hga hg2 hgm hG
  go_wp2_with fail
  go_loopw [22] (fun i wr => ∃ (k : Nat) (mb : Bool) (S : List (Int × Int)) (D D2 : DataW Unit), k ≤ L.length ∧ i = .int .i64 k ∧ Hid (LookIn w wr gm ga g1 g2 (txts (L.take k)) mb S k S.length D D2) ∧ Hid (S = seats (L.take k))) (fun i _ => L.length - (intOf i).toNat)
  case atStart => exact ⟨0, true, [], _, _, Nat.zero_le _, rfl, HI0, Lib.hid rfl⟩
  case round =>
    obtain ⟨k, mb, S, D, D2, hk, rfl, HV, HS⟩ := hrel
    obtain ⟨w6, rfl⟩ : ∃ w6, w6 = wr := ⟨_, rfl⟩
    by_cases g9 : k < L.length
    · obtain ⟨x, hx⟩ : ∃ x, L[k]? = some x := ⟨_, List.getElem?_eq_getElem g9⟩
      obtain ⟨a, B, cw, rfl, hal, q0, q1, q2, q3, hi, hcw⟩ := HA.out.at_ hx
      have p0 := (HV.out.below.cell (p := a.add (k * 4)) (by rw [add_block]; exact hal)).trans q0
      have p1 := (HV.out.below.cell (p := ⟨(a.add (k * 4)).block, (a.add (k * 4)).off + 1, none⟩) (by show (a.add (k * 4)).block < _; rw [add_block]; exact hal)).trans q1
      have p2 := (HV.out.below.cell (p := ⟨(a.add (k * 4)).block, (a.add (k * 4)).off + 2, none⟩) (by show (a.add (k * 4)).block < _; rw [add_block]; exact hal)).trans q2
      have p3 := (HV.out.below.cell (p := ⟨(a.add (k * 4)).block, (a.add (k * 4)).off + 3, none⟩) (by show (a.add (k * 4)).block < _; rw [add_block]; exact hal)).trans q3
      clear q0 q1 q2 q3
      have HX := Lib.hid hx
      have HI := Lib.hid hi
      have HN := Lib.hid (HF.out.num hx)
      have hxs := HF.out.each x (List.mem_of_getElem? hx)
      have HXS := Lib.hid hxs
      obtain ⟨m, hm⟩ : ∃ m, m = x.wait.length := ⟨_, rfl⟩
      have HM := Lib.hid hm
      have hm1 : m ≤ 1000 := by omega
      have HFK : Hid (FitK (x.left, x.right)) := Lib.hid ⟨hxs.2.1, hxs.2.2⟩
      rw [← hm] at p3 hcw
      clear hx hi hm hxs
      go_upto_region 8 with (fail)
      obtain ⟨g9, v7, hg9, hv7, hb9, hbe9⟩ := box_new w6 28 #[.string x.left, .string x.right, .int .i64 x.by_, .slice B m cw]
      rw [← hv7, ← hg9]
      have HV7 := Lib.hid (HV.out.up hbe9)
      have HB9 := Lib.hid hb9
      have HG9 : Hid (w.heap.size ≤ g9) := Lib.hid (by rw [hg9]; exact HV.out.below.size)
      have HBE9 := Lib.hid hbe9
      clear p0 p1 p2 p3 hg9 hv7 hb9 hbe9
      obtain ⟨y0, y1, y2, y3⟩ := blk4 HB9.out
      go_upto_region 9 with (fail)
      obtain ⟨g10, v8, hg10, hv8, hb10, hbe10⟩ := box_new v7 67 #[.string x.left, .string x.right]
      rw [← hv8, ← hg10]
      have HV8 := Lib.hid (HV7.out.up hbe10)
      have HB9 := Lib.hid (Blk.below HB9.out hbe10 HB9.out.lt)
      have HB10 := Lib.hid hb10
      have HBE8 := Lib.hid (HBE9.out.trans (hbe10.mono HBE9.out.size))
      clear y0 y1 y2 y3 hg10 hv8 hb10 hbe10
      obtain ⟨b, hb⟩ : ∃ b, (!hasT (L.take k) x.left x.right) = b := ⟨_, rfl⟩
      have HBB : Hid (b = true ↔ (x.left, x.right) ∉ txts (L.take k)) := Lib.hid (by
        rw [← hb, ← hasT_iff]
        cases hasT (L.take k) x.left x.right <;> simp)
      clear hb
      go_cut [] (fun wx => wx = v8.setCell ⟨gm, 0, none⟩ (.bool (mb && b)))
      case first =>
        have z0 := Blk.cell HB10.out 0
        have z1 := Blk.cell HB10.out 1
        have u0 := Blk.cell HV8.out.note.may 0
        have u1 := Blk.frozen HV8.out.note.may 0
        simp only [List.getElem?_toArray, List.getElem?_cons_zero, List.getElem?_cons_succ] at z0 z1 u0
        cases mb with
        | false =>
          go_wp2_with fail
          go_meet
          rfl
        | true =>
          cases b with
          | true =>
            have hlk := lookup_t HV8.out.own2 (x.left, x.right) HFK.out (HV8.out.known2.2 _ HFK.out (HBB.out.1 rfl))
            dsimp only at hlk
            go_wp2_with fail
            go_meet
            rfl
          | false =>
            have hlk := lookup_t HV8.out.own2 (x.left, x.right) HFK.out (HV8.out.known2.1 _ HFK.out (Classical.byContradiction fun hn => by have := HBB.out.2 hn; cases this))
            dsimp only at hlk
            go_wp2_with fail
            go_meet
            rfl
      case rest =>
        have HCUT := Lib.hid hcut
        have hO : Only (fun i => i = gm) v8 wc := by rw [hcut]; exact Only.set _ _ _ rfl
        have HO8 := Lib.hid hO
        have hw10 := Blk.only HB10.out hO (fun e => blk_ne HB10.out HV8.out.note.may (by decide) e)
        have HB10 := Lib.hid hw10
        have HB9 := Lib.hid (Blk.only HB9.out hO (fun e => blk_ne HB9.out HV8.out.note.may (by decide) e))
        have HOWN := Lib.hid (map_only HV8.out.own2 hO HG.out.ne.1)
        have HKR := Lib.hid (key_reads (x.left, x.right) HFK.out)
        have z0 := Blk.cell HB10.out 0
        have z1 := Blk.cell HB10.out 1
        simp only [List.getElem?_toArray, List.getElem?_cons_zero, List.getElem?_cons_succ] at z0 z1
        obtain ⟨mb1, hmb1⟩ : ∃ mb1, (mb && b) = mb1 := ⟨_, rfl⟩
        have HMB1 := Lib.hid hmb1
        clear hcut hO hw10 hmb1
        go_upto_region 11 with (at_mapUpdate; refine wpList_mapUpdate_own _ rfl _ _ _ 64 rfl 67 4 law_key Try.underlying64 _ g2 k D2 rfl HOWN.out (by unfold maxLen; omega) _ _ _ rfl rfl HKR.out _ [] (plainElem_bool Try.underlying4 true) ?_; intro w9 hown9 hgrow9)
        have hL9 : LookIn w w9 gm ga g1 g2 (txts (L.take (k + 1))) mb1 S (k + 1) S.length D (D2.put (keyL (x.left, x.right)) (.lit (.bool true))) := by
          rw [txts_take HX.out, ← HMB1.out]
          exact HV8.out.texts HG.out HFK.out HBB.out HCUT.out hown9 hgrow9
        have HL9 := Lib.hid hL9
        have hb9 := Blk.grown HB9.out hgrow9 (fun e => map_ne HOWN.out HB9.out (Option.some.inj e).symm)
        have HB9 := Lib.hid hb9
        obtain ⟨y0, y1, y2, y3⟩ := blk4 hb9
        clear hL9 hb9 hown9 hgrow9 z0 z1
        obtain ⟨mb2, hmb2⟩ : ∃ mb2, mb2 = (mb1 && decide (abt S x.by_ = 0)) := ⟨_, rfl⟩
        have HMB2 := Lib.hid hmb2
        have HSL : Hid (S.length ≤ 1001000) := Lib.hid (by rw [HS.out, seats_len]; exact HF.out.nums_len k)
        clear hmb2
        go_wp2_with fail
        refine (note_any w9 gm ga g1 mb1 S S.length D x.by_ 1 mb2 HL9.out.note HN.out.1 ⟨by omega, by omega⟩ (by have := HSL.out; omega) HMB2.out).mono ?_
        rintro e w10 ⟨rfl, D3, hn3, ho3⟩
        have hL10 : LookIn w w10 gm ga g1 g2 (txts (L.take (k + 1))) mb2 (S ++ [(x.by_, 1)]) (k + 1) (S.length + 1) D3 (D2.put (keyL (x.left, x.right)) (.lit (.bool true))) := by
          rw [HMB2.out] at hn3 ⊢
          exact HL9.out.more HG.out (by decide) hn3 ho3
        have HL10 := Lib.hid hL10
        have hb10 := Blk.only HB9.out ho3 (fun e => e.elim (fun e => blk_ne HB9.out HL9.out.note.may (by decide) e) (fun e => map_ne HL9.out.note.own HB9.out e.symm))
        clear y0 y1 y2 y3
        obtain ⟨y0, y1, y2, y3⟩ := blk4 hb10
        clear hn3 ho3 hL10 hb10
        obtain ⟨D4, hD4⟩ : ∃ D4, D4 = D2.put (keyL (x.left, x.right)) (.lit (.bool true)) := ⟨_, rfl⟩
        have HL10 : Hid (LookIn w w10 gm ga g1 g2 (txts (L.take (k + 1))) mb2 (S ++ [(x.by_, 1)]) (k + 1) (S.length + 1) D3 D4) := Lib.hid (by rw [hD4]; exact HL10.out)
        clear hD4
        go_wp2_with fail
        go_loopw [47] (fun i wr => ∃ (j : Nat) (mb3 : Bool) (S3 : List (Int × Int)) (D5 : DataW Unit), j ≤ m ∧ i = .int .i64 j ∧ Hid (LookIn w wr gm ga g1 g2 (txts (L.take (k + 1))) mb3 S3 (k + 1) S3.length D5 D4) ∧ Hid (S3 = S ++ [(x.by_, 1)] ++ (x.wait.take j).map fun n => (n, 2))) (fun i _ => m - (intOf i).toNat)
        case atStart => exact ⟨0, mb2, S ++ [(x.by_, 1)], D3, Nat.zero_le _, rfl, Lib.hid (by rw [List.length_append]; exact HL10.out), Lib.hid (by simp)⟩
        case round =>
          obtain ⟨j, mb3, S3, D5, hj, rfl, HV3, HS3⟩ := hrel
          by_cases g3 : j < m
          · obtain ⟨z, hz⟩ : ∃ z, x.wait[j]? = some z := ⟨_, List.getElem?_eq_getElem (by rw [← HM.out]; exact g3)⟩
            obtain ⟨bb, rfl, hbl, d0⟩ := ints_cell (HI.out.up HV3.out.below) hz
            have HZ := Lib.hid hz
            have HZ64 := Lib.hid (HN.out.2 z (List.mem_of_getElem? hz))
            obtain ⟨mb4, hmb4⟩ : ∃ mb4, mb4 = (mb3 && decide (abt S3 z = 0)) := ⟨_, rfl⟩
            have HMB4 := Lib.hid hmb4
            have HSL3 : Hid (S3.length ≤ 1003000) := Lib.hid (by
              rw [HS3.out, List.length_append, List.length_append, List.length_map, List.length_take]
              have := HSL.out
              simp only [List.length_cons, List.length_nil]
              omega)
            clear hz hmb4
            go_wp2_with fail
            refine (note_any wr gm ga g1 mb3 S3 S3.length D5 z 2 mb4 HV3.out.note HZ64.out ⟨by omega, by omega⟩ (by have := HSL3.out; omega) HMB4.out).mono ?_
            rintro e w11 ⟨rfl, D6, hn6, ho6⟩
            have hL11 : LookIn w w11 gm ga g1 g2 (txts (L.take (k + 1))) mb4 (S3 ++ [(z, 2)]) (k + 1) (S3 ++ [(z, 2)]).length D6 D4 := by
              rw [HMB4.out] at hn6 ⊢
              rw [List.length_append]
              exact HV3.out.more HG.out (by decide) hn6 ho6
            have HL11 := Lib.hid hL11
            clear hn6 ho6 hL11 d0
            go_wp2_with fail
            go_roundw
            case rel => exact ⟨j + 1, mb4, S3 ++ [(z, 2)], D6, by omega, by go_num, HL11, Lib.hid (by rw [HS3.out, take_snoc HZ.out, List.map_append, List.append_assoc]; rfl)⟩
            case measure => simp [intOf]; omega
          · have HS4 : Hid (S3 = seats (L.take (k + 1))) := Lib.hid (by
              rw [HS3.out, List.take_of_length_le (by rw [← HM.out]; omega), take_snoc HX.out, seats_append, HS.out]
              simp [seats, seat])
            go_wp2_with fail
            go_roundw
            case rel => exact ⟨k + 1, mb3, S3, D5, D4, by omega, by go_num, HV3, HS4⟩
            case measure => simp [intOf]; omega
    · have hmb : mb = rightB L := by
        rw [Bool.eq_iff_iff, HV.out.ok, HS.out, rightB_iff, List.take_of_length_le (by omega), seats_fst]
        exact Iff.rfl
      have u0 := Blk.cell HV.out.note.box 0
      have u1 := Blk.cell HV.out.note.may 0
      simp only [List.getElem?_toArray, List.getElem?_cons_zero] at u0 u1
      have HMB := Lib.hid hmb
      clear hmb
      go_wp2_with fail
      go_quiet (fail)
      go_wp2_with fail
      go_ret2
      have hd : Below w6.heap.size w6 (w6.drewN nq) := below_drewN (Below.refl _ _) _
      have hk2 := HV.out.note.known
      rw [HS.out, List.take_of_length_le (by omega)] at hk2
      rw [HMB.out]
      exact ⟨g1, S.length, D, rfl, (HV.out.up hd).note.own, hk2, HV.out.below.trans (hd.mono HV.out.below.size)⟩

end Go.Proofs.Ytllkegonhghkcaa
