/-
  collatorlaw16.QueueOrder returns true: tasks are taken in the order in which they were put, each once, but those that were dropped; there are never more than there is room for. Nothing that was there is changed.
-/
import Derived.Test.YtaelenjnjoeheaaWnt
import Derived.Test.YtaelenjnjoeheaaOpn
namespace Go.Proofs.Ytaelenjnjoeheaa
open Go.RowKit P16

theorem ints_cell {w : World} {A : Option Addr} {L : List Int} (h : IntsAt w A L) {k : Nat} {n : Int} (hk : L[k]? = some n) : ∃ a, A = some a ∧ a.block < w.heap.size ∧ w.cell? (a.add k) = some (.int .i64 n) := by
  obtain ⟨a, e, hb, hc⟩ := h.at_ hk
  have := hc 0 _ rfl
  rw [Nat.mul_one, Nat.add_zero] at this
  exact ⟨a, e, hb, this⟩
/-- the queue, and what it is held against -/
def OrdS (w3 : World) (gq R : Nat) (V : List Tk) (v : Value) (wx : World) : Prop :=
  ∃ (Aw A6 : Option Addr) (m cw c6 : Nat), v = .slice Aw m cw ∧ Want w3 wx (.slice Aw m cw) V ∧ Blk wx gq 24 #[.int .i64 (R : Int), .bool false, .slice A6 m c6] ∧ TasksAt wx A6 V ∧ m ≤ c6 ∧ V.length = m ∧ m ≤ R ∧ FitT V
theorem ord_right {R : Nat} {V : List Tk} (hR : R ≤ 4096) (hV : V.length ≤ R) : rightB ⟨(R : Int), false, V⟩ = true := right_of (by show (0 : Int) ≤ (R : Int); omega) (by show (R : Int) ≤ 4096; omega) (by show (V.length : Int) ≤ (R : Int); omega)

set_option maxHeartbeats 64000000 in
set_option maxRecDepth 100000 in
theorem order_any (A : Option Addr) (L : List Tri) (n c : Nat) (B : Option Addr) (Z : List Int) (nz cz : Nat) (room : Int) (w : World) (ha : TrisAt w A L) (hn : L.length = n) (hf : FitN L) (hz : IntsAt w B Z) (hnz : Z.length = nz) (hfz : ∀ z ∈ Z, I64 z) (hro : I64 room) :
    Calls Try.prog 4 #[.slice A n c, .slice B nz cz, .int .i64 room] w fun e w' => e = .returned (.bool true) ∧ Below w.heap.size w w' := by
  have HA := Lib.hid ha
  have HN := Lib.hid hn
  have HF := Lib.hid hf
  have HZ := Lib.hid hz
  have HNZ := Lib.hid hnz
  have HFZ := Lib.hid hfz
  have HRO := Lib.hid hro
  obtain ⟨p1, p2⟩ := pickI_range room 9 (by omega)
  obtain ⟨R, hkp⟩ := Int.eq_ofNat_of_zero_le p1
  have HRM := Lib.hid hkp
  have hR : R ≤ 8 := by omega
  clear ha hn hf hz hnz hfz hro hkp p1 p2
  go_enter Try.func4, Try.ntmps4
  go_wp2_with fail
  refine (awake_any _).mono ?_
  rintro e w1 ⟨rfl, hb⟩
  have HA := Lib.hid (HA.out.up hb)
  have HZ := Lib.hid (HZ.out.up hb)
  have HW := Lib.hid hb
  clear hb
  go_wp2_with fail
  refine (pick16_v room 9 R HRM.out _ HRO.out (by omega) (by omega)).mono ?_
  rintro e w' ⟨rfl, rfl⟩
  go_wp2_with fail
  refine (inew_any (R : Int) _ ⟨(R : Int), false, []⟩ 0 (new_ok (by omega) (by omega))).mono ?_
  rintro e w3 ⟨rfl, -, hb⟩
  have HA := Lib.hid (HA.out.up hb)
  have HZ := Lib.hid (HZ.out.up hb)
  have HW := Lib.hid (below_step HW.out hb)
  clear hb
  go_upto_region 4 with (fail)
  obtain ⟨gq, v0, hg, hv, hk, hbe⟩ := box_new w3 24 #[.int .i64 (R : Int), .bool false, .slice none 0 0]
  rw [← hv, ← hg]
  have HGQ : Hid (w3.heap.size ≤ gq) := Lib.hid (by omega)
  have HS0 : Hid (OrdS w3 gq R [] (.slice none 0 0) v0) := Lib.hid ⟨none, none, 0, 0, 0, rfl, Want.nil hbe, hk, RowAt.nil, Nat.le_refl _, rfl, Nat.zero_le _, FitT.nil⟩
  clear hg hv hk hbe
  go_wp2_with fail
  go_loopw [11, 12] (fun v i wr => ∃ (k : Nat) (V : List Tk), k ≤ 20 ∧ k ≤ n ∧ i = .int .i64 k ∧ Hid (OrdS w3 gq R V v wr)) (fun _ i _ => n - (intOf i).toNat)
  case atStart => exact ⟨0, [], Nat.zero_le _, Nat.zero_le _, rfl, HS0⟩
  case round =>
    obtain ⟨k, V, hk20, hkn, rfl, HS⟩ := hrel
    obtain ⟨v1, rfl⟩ : ∃ w3, w3 = wr := ⟨_, rfl⟩
    obtain ⟨Aw, A6, m, cw, c6, rfl, hW, hQ, hA6, hmc, hVm, hmR, hFV⟩ := HS.out
    have HWn := Lib.hid hW
    have HQ := Lib.hid hQ
    have HA6 := Lib.hid hA6
    have HC6 := Lib.hid hmc
    have HVm := Lib.hid hVm
    have HFV := Lib.hid hFV
    clear HS hW hQ hA6 hmc hVm hFV
    by_cases g1 : k < n
    · have t1 : decide ((k : Int) < (n : Int)) = true := decide_eq_true (by omega)
      by_cases g2 : k < 20
      · have t2 : decide ((k : Int) < 20) = true := decide_eq_true (by omega)
        obtain ⟨x, hx⟩ : ∃ x, L[k]? = some x := ⟨_, List.getElem?_eq_getElem (by rw [HN.out]; exact g1)⟩
        have HFX := Lib.hid (HF.out x (List.mem_of_getElem? hx))
        obtain ⟨a, rfl, hal, c0, c1, c2⟩ := tri_fields (HA.out.up HWn.out.1) hx
        obtain ⟨y, hy⟩ : ∃ y, tkOf x = y := ⟨_, rfl⟩
        have HY := Lib.hid hy
        have HFY : Hid (FitT [y]) := Lib.hid (fun z hz => by rw [List.mem_singleton.1 hz, ← hy]; exact tk_fit x)
        clear hx hal hy
        go_wp2_with fail
        refine (task_any x.n0 x.n1 x.n2 _ HFX.out.1 HFX.out.2.1 HFX.out.2.2 y HY.out).mono ?_
        rintro e v2 ⟨rfl, hb⟩
        have HWL1 : Hid (∀ g, blkOf (.slice Aw m cw) = some g → g < v1.heap.size) := Lib.hid HWn.out.lt
        have hv12 := hb.size
        have HWn := Lib.hid (HWn.out.up hb)
        have HQ := Lib.hid (HQ.out.below hb HQ.out.lt)
        have HA6 := Lib.hid (HA6.out.up hb)
        clear hb c0 c1 c2 t1 t2
        go_upto_region 11 with (fail)
        obtain ⟨gt, v3, hg, hv, hk, hbe⟩ := box_new v2 39 #[.int .i64 y.req, .int .i64 y.slot, .string y.left, .string y.right]
        rw [← hv, ← hg]
        have HBT := Lib.hid hk
        have HWT : Hid (∀ g, blkOf (.slice Aw m cw) = some g → g ≠ gt) := Lib.hid (fun g e => by have := HWL1.out g e; omega)
        have HWn := Lib.hid (HWn.out.up hbe)
        have HQ := Lib.hid (HQ.out.below hbe HQ.out.lt)
        have HA6 := Lib.hid (HA6.out.up hbe)
        clear hg hv hk hbe hv12
        obtain ⟨y0, y1, y2⟩ := blk3 HQ.out
        obtain ⟨x0, x1, x2, x3⟩ := blk4 HBT.out
        go_wp2_with fail
        obtain ⟨go, v4, hg, hv, hk, hbe⟩ := box_new v3 39 #[.int .i64 y.req, .int .i64 y.slot, .string y.left, .string y.right]
        rw [← hv, ← hg]
        have HLR : Hid (TasksAt v4 (some ⟨go, 0, none⟩) [y]) := Lib.hid (RowAt.of_blk (L := [y]) tk_len (by simpa [Tk.cells] using hk))
        have HWn := Lib.hid (HWn.out.up hbe)
        have HQ := Lib.hid (HQ.out.below hbe HQ.out.lt)
        have HA6 := Lib.hid (HA6.out.up hbe)
        have HBT := Lib.hid (HBT.out.below hbe HBT.out.lt)
        clear hg hv hk hbe y0 y1 y2 x0 x1 x2 x3
        obtain ⟨k0, hk0⟩ : ∃ k0, min 1 (R - m) = k0 := ⟨_, rfl⟩
        have HMIN : Hid (min (1 : Int) ((R : Int) - (m : Int)) = (k0 : Int)) := Lib.hid (by omega)
        have hk01 : k0 ≤ 1 := by omega
        have hmk0 : m + k0 ≤ R := by omega
        have HPU : Hid (putQ ⟨(R : Int), false, V⟩ [y] = (k0, ⟨(R : Int), false, V ++ [y].take k0⟩, 0)) := Lib.hid (by
          have hc : comes ⟨(R : Int), false, V⟩ [y].length = k0 := by unfold comes; simp only [HVm.out, Int.toNat_natCast, List.length_singleton]; exact hk0
          rw [put_ok (ord_right (by omega) (by rw [HVm.out]; exact hmR)) rfl, hc])
        obtain ⟨V2, hV2⟩ : ∃ V2, V ++ [y].take k0 = V2 := ⟨_, rfl⟩
        have HV2 := Lib.hid hV2
        have HV2n : Hid (V2.length = m + k0) := Lib.hid (by rw [← hV2, List.length_append, List.length_take, HVm.out, List.length_singleton]; omega)
        have HFV2 : Hid (FitT V2) := Lib.hid (by rw [← hV2]; exact HFV.out.append (HFY.out.take k0))
        rw [hV2] at HPU
        have HGV : Hid (gq < v4.heap.size) := Lib.hid HQ.out.lt
        have HWL : Hid (∀ g, blkOf (.slice Aw m cw) = some g → g < v4.heap.size) := Lib.hid HWn.out.lt
        clear hk0 hV2
        refine (iput_any (R : Int) false V [y] A6 (some ⟨go, 0, none⟩) m c6 1 1 _ k0 (R : Int) false V2 0 HPU.out HA6.out HVm.out HC6.out HFV.out HLR.out rfl (Nat.le_refl _) HFY.out).mono ?_
        rintro e v5 ⟨A7, n7, c7, rfl, hn7, hc7, ha7, hb⟩
        obtain rfl : n7 = m + k0 := by rw [← hn7, HV2n.out]
        have HA7 := Lib.hid ha7
        have HC7 := Lib.hid hc7
        have HWn := Lib.hid (HWn.out.up hb)
        have HQ := Lib.hid (HQ.out.below hb HQ.out.lt)
        have HBT := Lib.hid (HBT.out.below hb HBT.out.lt)
        clear hn7 hc7 ha7 hb HLR HA6
        go_upto_region 12 with (fail)
        obtain ⟨g15, v6, hg, hv, hk, hbe⟩ := box_new v5 24 #[.int .i64 (R : Int), .bool false, .slice A7 (m + k0) c7]
        rw [← hv, ← hg]
        have HB15 := Lib.hid hk
        have HA7 := Lib.hid (HA7.out.up hbe)
        have HWn := Lib.hid (HWn.out.up hbe)
        have HQ := Lib.hid (HQ.out.below hbe HQ.out.lt)
        have HBT := Lib.hid (HBT.out.below hbe HBT.out.lt)
        clear hg hv hk hbe
        obtain ⟨y0, y1, y2⟩ := blk3 HB15.out
        obtain ⟨z0, z1, z2⟩ := blk3 HQ.out
        have q0 := Blk.frozen HQ.out 0
        have q1 := Blk.frozen HQ.out 1
        have q2 := Blk.frozen HQ.out 2
        have hmin := HMIN.out
        go_upto_if 72 with (fail)
        obtain ⟨v7, hv7, hk7, hg7⟩ := box_set HQ.out (.int .i64 (R : Int)) (.bool false) (.slice A7 (m + k0) c7)
        rw [← hv7]
        have HWn := Lib.hid (HWn.out.far hg7 HQ.out (by decide) HGQ.out)
        have HBT := Lib.hid (HBT.out.grown hg7 (fun e => by injection e with e; exact blk_ne HBT.out HQ.out (by decide) e))
        have HA7 := Lib.hid (HA7.out.far hg7 HGV.out)
        have HQ := Lib.hid hk7
        clear hv7 hk7 hg7 y0 y1 y2 z0 z1 z2 q0 q1 q2 hmin HB15
        go_cut [11] (fun s11 wx => OrdS w3 gq R V2 s11 wx ∧ Blk wx gt 39 #[.int .i64 y.req, .int .i64 y.slot, .string y.left, .string y.right])
        case first =>
          by_cases h1 : k0 = 1
          · obtain rfl : k0 = 1 := h1
            have HVE : Hid (V ++ [y] = V2) := HV2
            obtain ⟨x0, x1, x2, x3⟩ := blk4 HBT.out
            obtain ⟨A8, c8, v8, hr8, ho8, hg8⟩ := HWn.out.push y (m + 1) (by rw [HVm.out]) (by omega)
            rw [HVE.out] at ho8
            have HR8 := Lib.hid hr8
            have HO8 := Lib.hid ho8
            have HQ8 := Lib.hid (HQ.out.grown hg8 (HWn.out.ne HQ.out (by decide)))
            have HT8 := Lib.hid (HBT.out.grown hg8 (fun e => HWT.out _ e.symm rfl))
            have HA8 := Lib.hid (HA7.out.grown hg8 HWL.out).at_
            have e11 : (((1 : Nat) : Int) == 1) = true := rfl
            clear hr8 ho8 hg8
            go_wp2_with (at_builtin; refine wpList_append_run rfl rfl (by simp [Region.wanted]) rfl rfl HR8.out ?_; clear HR8)
            go_meet
            exact ⟨⟨A8, A7, m + 1, c8, c7, rfl, HO8.out, HQ8.out, HA8.out, HC7.out, HV2n.out, hmk0, HFV2.out⟩, HT8.out⟩
          · obtain rfl : k0 = 0 := by omega
            have HVE : Hid (V = V2) := Lib.hid (by have := HV2.out; simpa using this)
            have e11 : (((0 : Nat) : Int) == 1) = false := rfl
            go_wp2_with fail
            go_meet
            exact ⟨⟨Aw, A7, m, cw, c7, rfl, by rw [← HVE.out]; exact HWn.out, HQ.out, HA7.out.at_, HC7.out, HV2n.out, hmR, HFV2.out⟩, HBT.out⟩
        case rest =>
        obtain ⟨hS, hkt⟩ := hcut
        obtain ⟨u1, rfl⟩ : ∃ w3, w3 = wc := ⟨_, rfl⟩
        obtain ⟨Ax, A9, p, cx, c9, rfl, hW, hQ, hA9, hpc, hVp, hpR, hFV⟩ := hS
        have HBT := Lib.hid hkt
        have HWn := Lib.hid hW
        have HQ := Lib.hid hQ
        have HA9 := Lib.hid hA9
        have HC9 := Lib.hid hpc
        have HVp := Lib.hid hVp
        clear hkt hW hQ hA9 hpc hVp hFV HWL HWT HWL1 HA7 HC7 HV2n HV2 HPU HMIN HC6 HVm HFV
        go_upto_if 80 with (fail)
        go_cut [17] (fun s17 wx => ∃ dd : Nat, dd < 8 ∧ s17 = .int .i64 (dd : Int) ∧ wx = u1)
        case first =>
          by_cases h1 : k < nz
          · have t1 : decide ((k : Int) < (nz : Int)) = true := decide_eq_true (by omega)
            obtain ⟨z, hz⟩ : ∃ z, Z[k]? = some z := ⟨_, List.getElem?_eq_getElem (by rw [HNZ.out]; exact h1)⟩
            have HFz := Lib.hid (HFZ.out z (List.mem_of_getElem? hz))
            obtain ⟨a, rfl, hal, c0⟩ := ints_cell (HZ.out.up HWn.out.1) hz
            obtain ⟨p1, p2⟩ := pickI_range z 8 (by omega)
            obtain ⟨dd, hdd⟩ := Int.eq_ofNat_of_zero_le p1
            have HDD := Lib.hid hdd
            have hd8 : dd < 8 := by omega
            clear hz hal p1 p2 hdd
            go_wp2_with fail
            refine (pick16_v z 8 dd HDD.out _ HFz.out (by omega) (by omega)).mono ?_
            rintro e w' ⟨rfl, rfl⟩
            go_wp2_with fail
            go_meet
            exact ⟨dd, hd8, rfl, rfl⟩
          · have t1 : decide ((k : Int) < (nz : Int)) = false := decide_eq_false (by omega)
            go_wp2_with fail
            go_meet
            exact ⟨0, by omega, rfl, rfl⟩
        case rest =>
        obtain ⟨dd, hd8, rfl, hu⟩ := hcut
        obtain rfl : u1 = wc := hu.symm
        by_cases h1 : dd = 1
        · have e1 : ((dd : Int) == 1) = true := by simp [h1]
          have e3 : ((dd : Int) == 3) = false := by simp [h1]
          clear h1
          cases V2 with
          | nil =>
            obtain rfl : p = 0 := HVp.out.symm
            obtain ⟨y0, y1, y2⟩ := blk3 HQ.out
            have HTK : Hid (takeQ ⟨(R : Int), false, []⟩ = (zeroT, ⟨0, false, []⟩, 10)) := Lib.hid (take_none (ord_right (by omega) (Nat.zero_le _)))
            go_wp2_with fail
            refine (itake_any (R : Int) false [] A9 0 c9 _ zeroT 0 false [] 10 HTK.out RowAt.nil rfl (Nat.zero_le _) FitT.nil).mono ?_
            rintro e u2 ⟨A10, n10, c10, rfl, -, -, -, hb⟩
            have HWn := Lib.hid (HWn.out.up hb)
            have HQ := Lib.hid (HQ.out.below hb HQ.out.lt)
            have HA9 := Lib.hid (HA9.out.up hb)
            clear hb y0 y1 y2
            go_upto_region 22 with (fail)
            obtain ⟨g18, g19, u3, hg1, hg2, hv, -, -, hbe, -⟩ := box_two u2 39 #[.int .i64 zeroT.req, .int .i64 zeroT.slot, .string zeroT.left, .string zeroT.right] 24 #[.int .i64 0, .bool false, .slice A10 n10 c10]
            rw [← hv, ← hg2, ← hg1]
            have HWn := Lib.hid (HWn.out.up hbe)
            have HQ := Lib.hid (HQ.out.below hbe HQ.out.lt)
            have HA9 := Lib.hid (HA9.out.up hbe)
            clear hg1 hg2 hv hbe
            refine wp_region_noPanic ?_
            refine wp_region_held_drew (S := fun W => Below u3.heap.size u3 W) (by kernel_rfl) ((Below.refl u3.heap.size u3).drew) (fun hS0 => ?_)
            change wpAnyH _ _ _ _ _ 17 #[false, false, false, false, false, false, false, false, false, false, false, false, false, false, false, false, false] _ (World.drew _)
            refine wpAnyH_take (i := 0) (v := .int .i64 10) rfl (by kernel_rfl) (by kernel_rfl) (by kernel_rfl) (fun _ _ _ h => h) (Or.inl ⟨by rfl, fun w' hS' => by go_simp⟩) hS0 ?_
            change wpAnyH _ _ _ _ _ _ _ (Act.put _ (some 98) (.int .i64 10)) _
            simp only [Act.put, List.setIfInBounds_toArray, List.set_cons_zero, List.set_cons_succ]
            refine wpAnyH_take (i := 1) (v := .bool false) rfl (by kernel_rfl) (by kernel_rfl) (by kernel_rfl) (fun _ _ _ h => h) (Or.inl ⟨by rfl, fun w' hS' => by go_simp⟩) hS0 ?_
            change wpAnyH _ _ _ _ _ _ _ (Act.put _ (some 99) (.bool false)) _
            simp only [Act.put, List.setIfInBounds_toArray, List.set_cons_zero, List.set_cons_succ]
            refine wpAnyH_take (i := 2) (v := .slice Ax 0 cx) rfl (by kernel_rfl) (by kernel_rfl) (by kernel_rfl) (fun _ _ _ h => h) (Or.inl ⟨by rfl, fun w' hS' => by go_simp⟩) hS0 ?_
            change wpAnyH _ _ _ _ _ _ _ (Act.put _ (some 100) (.slice Ax 0 cx)) _
            simp only [Act.put, List.setIfInBounds_toArray, List.set_cons_zero, List.set_cons_succ]
            refine wpAnyH_take (i := 3) (v := .int .i64 0) rfl (by kernel_rfl) (by kernel_rfl) (by kernel_rfl) (fun _ _ _ h => h) (Or.inl ⟨by rfl, fun w' hS' => by go_simp; try rfl⟩) hS0 ?_
            change wpAnyH _ _ _ _ _ _ _ (Act.put _ (some 101) (.int .i64 0)) _
            simp only [Act.put, List.setIfInBounds_toArray, List.set_cons_zero, List.set_cons_succ]
            refine wpAnyH_take (i := 4) (v := .bool false) rfl (by kernel_rfl) (by kernel_rfl) (by kernel_rfl) (fun _ _ _ h => h) (Or.inl ⟨by rfl, fun w' hS' => by go_simp⟩) hS0 ?_
            change wpAnyH _ _ _ _ _ _ _ (Act.put _ (some 102) (.bool false)) _
            simp only [Act.put, List.setIfInBounds_toArray, List.set_cons_zero, List.set_cons_succ]
            refine wpAnyH_take (i := 5) (v := .bool false) rfl (by kernel_rfl) (by kernel_rfl) (by kernel_rfl) (fun _ _ _ h => h) (Or.inl ⟨by rfl, fun w' hS' => by go_simp⟩) hS0 ?_
            change wpAnyH _ _ _ _ _ _ _ (Act.put _ (some 103) (.bool false)) _
            simp only [Act.put, List.setIfInBounds_toArray, List.set_cons_zero, List.set_cons_succ]
            refine wpAnyH_take (i := 6) (v := .bool false) rfl (by kernel_rfl) (by kernel_rfl) (by kernel_rfl) (fun _ _ _ h => h) (Or.inl ⟨by rfl, fun w' hS' => by go_simp⟩) hS0 ?_
            change wpAnyH _ _ _ _ _ _ _ (Act.put _ (some 104) (.bool false)) _
            simp only [Act.put, List.setIfInBounds_toArray, List.set_cons_zero, List.set_cons_succ]
            refine wpAnyH_take (i := 7) (v := .int .i64 10) rfl (by kernel_rfl) (by kernel_rfl) (by kernel_rfl) (fun _ _ _ h => h) (Or.inl ⟨by rfl, fun w' hS' => by go_simp⟩) hS0 ?_
            change wpAnyH _ _ _ _ _ _ _ (Act.put _ (some 105) (.int .i64 10)) _
            simp only [Act.put, List.setIfInBounds_toArray, List.set_cons_zero, List.set_cons_succ]
            refine wpAnyH_take (i := 8) (v := .bool false) rfl (by kernel_rfl) (by kernel_rfl) (by kernel_rfl) (fun _ _ _ h => h) (Or.inl ⟨by rfl, fun w' hS' => by go_simp⟩) hS0 ?_
            change wpAnyH _ _ _ _ _ _ _ (Act.put _ (some 106) (.bool false)) _
            simp only [Act.put, List.setIfInBounds_toArray, List.set_cons_zero, List.set_cons_succ]
            refine wpAnyH_take (i := 9) (v := .bool false) rfl (by kernel_rfl) (by kernel_rfl) (by kernel_rfl) (fun _ _ _ h => h) (Or.inl ⟨by rfl, fun w' hS' => by go_simp⟩) hS0 ?_
            change wpAnyH _ _ _ _ _ _ _ (Act.put _ (some 107) (.bool false)) _
            simp only [Act.put, List.setIfInBounds_toArray, List.set_cons_zero, List.set_cons_succ]
            refine wpAnyH_take (i := 10) (v := undef) rfl (by kernel_rfl) (by kernel_rfl) (by kernel_rfl) (fun _ _ _ h => h) (Or.inr ⟨by rfl, rfl⟩) hS0 ?_
            change wpAnyH _ _ _ _ _ _ _ (Act.put _ (some 108) (undef)) _
            simp only [Act.put, List.setIfInBounds_toArray, List.set_cons_zero, List.set_cons_succ]
            refine wpAnyH_take (i := 11) (v := undef) rfl (by kernel_rfl) (by kernel_rfl) (by kernel_rfl) (fun _ _ _ h => h) (Or.inr ⟨by rfl, rfl⟩) hS0 ?_
            change wpAnyH _ _ _ _ _ _ _ (Act.put _ (some 109) (undef)) _
            simp only [Act.put, List.setIfInBounds_toArray, List.set_cons_zero, List.set_cons_succ]
            refine wpAnyH_take (i := 12) (v := undef) rfl (by kernel_rfl) (by kernel_rfl) (by kernel_rfl) (fun _ _ _ h => h) (Or.inr ⟨by rfl, rfl⟩) hS0 ?_
            change wpAnyH _ _ _ _ _ _ _ (Act.put _ (some 110) (undef)) _
            simp only [Act.put, List.setIfInBounds_toArray, List.set_cons_zero, List.set_cons_succ]
            refine wpAnyH_take (i := 13) (v := undef) rfl (by kernel_rfl) (by kernel_rfl) (by kernel_rfl) (fun _ _ _ h => h) (Or.inr ⟨by rfl, rfl⟩) hS0 ?_
            change wpAnyH _ _ _ _ _ _ _ (Act.put _ (some 111) (undef)) _
            simp only [Act.put, List.setIfInBounds_toArray, List.set_cons_zero, List.set_cons_succ]
            refine wpAnyH_take (i := 14) (v := undef) rfl (by kernel_rfl) (by kernel_rfl) (by kernel_rfl) (fun _ _ _ h => h) (Or.inr ⟨by rfl, rfl⟩) hS0 ?_
            change wpAnyH _ _ _ _ _ _ _ (Act.put _ (some 112) (undef)) _
            simp only [Act.put, List.setIfInBounds_toArray, List.set_cons_zero, List.set_cons_succ]
            refine wpAnyH_take (i := 15) (v := .bool false) rfl (by kernel_rfl) (by kernel_rfl) (by kernel_rfl) (fun _ _ _ h => h) (Or.inl ⟨by rfl, fun w' hS' => by go_simp⟩) hS0 ?_
            change wpAnyH _ _ _ _ _ _ _ (Act.put _ (some 113) (.bool false)) _
            simp only [Act.put, List.setIfInBounds_toArray, List.set_cons_zero, List.set_cons_succ]
            refine wpAnyH_take (i := 16) (v := .bool false) rfl (by kernel_rfl) (by kernel_rfl) (by kernel_rfl) (fun _ _ _ h => h) (Or.inl ⟨by rfl, fun w' hS' => by go_simp⟩) hS0 ?_
            change wpAnyH _ _ _ _ _ _ _ (Act.put _ (some 114) (.bool false)) _
            simp only [Act.put, List.setIfInBounds_toArray, List.set_cons_zero, List.set_cons_succ]
            refine wpAnyH_done (by kernel_rfl) ?_ _
            refine NoPanic.normal ?_
            obtain ⟨u4, hu4⟩ : ∃ W, W = u3.drew := ⟨_, rfl⟩
            have hb4 : Below u3.heap.size u3 u4 := by rw [hu4]; exact (Below.refl _ _).drew
            rw [← hu4]
            clear hu4
            have HWn := Lib.hid (HWn.out.up hb4)
            have HQ := Lib.hid (HQ.out.below hb4 HQ.out.lt)
            have HA9 := Lib.hid (HA9.out.up hb4)
            clear hb4
            obtain ⟨y0, y1, y2⟩ := blk3 HQ.out
            have hmR' : 0 ≤ R := (Nat.zero_le _)
            have t7 : decide ((R : Int) < (0 : Int)) = false := decide_eq_false (by omega)
            go_wp2_with fail
            refine (rtasks_any A9 Ax [] [] 0 0 c9 cx true (decide_eq_true rfl) _ HA9.out HWn.out.at_.1 HVp.out HVp.out (by omega) (by omega)).mono ?_
            rintro e u8 ⟨rfl, hq⟩
            have hb := hq.below
            have HWn' := Lib.hid (HWn.out.up hb)
            have HQ' := Lib.hid (HQ.out.below hb HQ.out.lt)
            have HA' := Lib.hid (HA9.out.up hb)
            clear hq hb y0 y1 y2
            obtain ⟨y0, y1, y2⟩ := blk3 HQ'.out
            go_wp2_with fail
            refine (iright_any (R : Int) false [] A9 0 c9 true (ord_right (by omega) (by rw [HVp.out]; exact hmR')) _ HVp.out).mono ?_
            rintro e u9 ⟨rfl, hb⟩
            have HWn' := Lib.hid (HWn'.out.up hb)
            have HQ' := Lib.hid (HQ'.out.below hb HQ'.out.lt)
            have HA' := Lib.hid (HA'.out.up hb)
            clear hb y0 y1 y2 t7
            go_wp2_with fail
            go_roundw
            case rel => exact ⟨k + 1, [], by omega, by omega, by go_num, Lib.hid ⟨Ax, A9, 0, cx, c9, rfl, HWn'.out, HQ'.out, HA'.out, HC9.out, HVp.out, hmR', FitT.nil⟩⟩
            case measure => simp [intOf]; omega
          | cons x V3 =>
            have hp1 : 1 ≤ p := by have := HVp.out; simp only [List.length_cons] at this; omega
            have HP1 := Lib.hid hp1
            have HV3 : Hid (V3.length = p - 1) := Lib.hid (by have := HVp.out; simp only [List.length_cons] at this; omega)
            have HF3 : Hid (FitT V3) := Lib.hid (HFV2.out.sub fun z hz => by simp [hz])
            have HTK : Hid (takeQ ⟨(R : Int), false, x :: V3⟩ = (x, ⟨(R : Int), false, V3⟩, 0)) := Lib.hid (take_ok (ord_right (by omega) (by rw [HVp.out]; exact hpR)))
            obtain ⟨aw, rfl, hax⟩ := first_cells HWn.out.at_.1 (x := x) rfl
            have HAX := Lib.hid hax
            obtain ⟨y0, y1, y2⟩ := blk3 HQ.out
            have HGV : Hid (gq < u1.heap.size) := Lib.hid HQ.out.lt
            clear hax
            go_wp2_with fail
            refine (itake_any (R : Int) false (x :: V3) A9 p c9 _ x (R : Int) false V3 0 HTK.out HA9.out HVp.out HC9.out HFV2.out).mono ?_
            rintro e u2 ⟨A10, n10, c10, rfl, hn, hc, ha, hb⟩
            obtain rfl : n10 = p - 1 := by rw [← hn, HV3.out]
            have HA10 := Lib.hid ha
            have HC10 := Lib.hid hc
            have HAX : Hid (∀ W, Below u2.heap.size u2 W → W.cell? aw = some (.int .i64 x.req) ∧ W.cell? ⟨aw.block, aw.off + 1, none⟩ = some (.int .i64 x.slot) ∧ W.cell? ⟨aw.block, aw.off + 2, none⟩ = some (.string x.left) ∧ W.cell? ⟨aw.block, aw.off + 3, none⟩ = some (.string x.right)) := Lib.hid fun W hW => HAX.out W (below_step hb hW)
            have HWn := Lib.hid (HWn.out.up hb)
            have HQ := Lib.hid (HQ.out.below hb HQ.out.lt)
            clear hn hc ha hb y0 y1 y2
            go_upto_region 22 with (fail)
            obtain ⟨g18, g19, u3, hg1, hg2, hv, hk1, hk2, hbe, -⟩ := box_two u2 39 #[.int .i64 x.req, .int .i64 x.slot, .string x.left, .string x.right] 24 #[.int .i64 (R : Int), .bool false, .slice A10 (p - 1) c10]
            rw [← hv, ← hg2, ← hg1]
            have HB18 := Lib.hid hk1
            have HB19 := Lib.hid hk2
            have HA10 := Lib.hid (HA10.out.up hbe)
            have HAX : Hid (∀ W, Below u3.heap.size u3 W → W.cell? aw = some (.int .i64 x.req) ∧ W.cell? ⟨aw.block, aw.off + 1, none⟩ = some (.int .i64 x.slot) ∧ W.cell? ⟨aw.block, aw.off + 2, none⟩ = some (.string x.left) ∧ W.cell? ⟨aw.block, aw.off + 3, none⟩ = some (.string x.right)) := Lib.hid fun W hW => HAX.out W (below_step hbe hW)
            have H18 : Hid (∀ W, Below u3.heap.size u3 W → Blk W g18 39 #[.int .i64 x.req, .int .i64 x.slot, .string x.left, .string x.right]) := Lib.hid fun W hW => HB18.out.below hW HB18.out.lt
            have HWn := Lib.hid (HWn.out.up hbe)
            have HQ := Lib.hid (HQ.out.below hbe HQ.out.lt)
            clear hg1 hg2 hv hk1 hk2 hbe
            have HPP : Hid (decide ((0 : Int) < (p : Int)) = true) := Lib.hid (decide_eq_true (by omega))
            have HPQ : Hid (decide (0 < p) = true) := Lib.hid (decide_eq_true (by omega))
            refine wp_region_noPanic ?_
            refine wp_region_held_drew (S := fun W => Below u3.heap.size u3 W) (by kernel_rfl) ((Below.refl u3.heap.size u3).drew) (fun hS0 => ?_)
            change wpAnyH _ _ _ _ _ 17 #[false, false, false, false, false, false, false, false, false, false, false, false, false, false, false, false, false] _ (World.drew _)
            refine wpAnyH_take (i := 0) (v := .int .i64 0) rfl (by kernel_rfl) (by kernel_rfl) (by kernel_rfl) (fun _ _ _ h => h) (Or.inl ⟨by rfl, fun w' hS' => by go_simp⟩) hS0 ?_
            change wpAnyH _ _ _ _ _ _ _ (Act.put _ (some 98) (.int .i64 0)) _
            simp only [Act.put, List.setIfInBounds_toArray, List.set_cons_zero, List.set_cons_succ]
            refine wpAnyH_take (i := 1) (v := .bool true) rfl (by kernel_rfl) (by kernel_rfl) (by kernel_rfl) (fun _ _ _ h => h) (Or.inl ⟨by rfl, fun w' hS' => by go_simp⟩) hS0 ?_
            change wpAnyH _ _ _ _ _ _ _ (Act.put _ (some 99) (.bool true)) _
            simp only [Act.put, List.setIfInBounds_toArray, List.set_cons_zero, List.set_cons_succ]
            refine wpAnyH_take (i := 2) (v := .slice (some aw) p cx) rfl (by kernel_rfl) (by kernel_rfl) (by kernel_rfl) (fun _ _ _ h => h) (Or.inl ⟨by rfl, fun w' hS' => by go_simp⟩) hS0 ?_
            change wpAnyH _ _ _ _ _ _ _ (Act.put _ (some 100) (.slice (some aw) p cx)) _
            simp only [Act.put, List.setIfInBounds_toArray, List.set_cons_zero, List.set_cons_succ]
            refine wpAnyH_take (i := 3) (v := .int .i64 (p : Int)) rfl (by kernel_rfl) (by kernel_rfl) (by kernel_rfl) (fun _ _ _ h => h) (Or.inl ⟨by rfl, fun w' hS' => by go_simp⟩) hS0 ?_
            change wpAnyH _ _ _ _ _ _ _ (Act.put _ (some 101) (.int .i64 (p : Int))) _
            simp only [Act.put, List.setIfInBounds_toArray, List.set_cons_zero, List.set_cons_succ]
            refine wpAnyH_take (i := 4) (v := .bool true) rfl (by kernel_rfl) (by kernel_rfl) (by kernel_rfl) (fun _ _ _ h => h) (Or.inl ⟨by rfl, fun w' hS' => by have h1 := HPP.out; have h2 := HPQ.out; have h3 := HP1.out; go_simp; try omega⟩) hS0 ?_
            change wpAnyH _ _ _ _ _ _ _ (Act.put _ (some 102) (.bool true)) _
            simp only [Act.put, List.setIfInBounds_toArray, List.set_cons_zero, List.set_cons_succ]
            refine wpAnyH_take (i := 5) (v := .bool false) rfl (by kernel_rfl) (by kernel_rfl) (by kernel_rfl) (fun _ _ _ h => h) (Or.inl ⟨by rfl, fun w' hS' => by go_simp⟩) hS0 ?_
            change wpAnyH _ _ _ _ _ _ _ (Act.put _ (some 103) (.bool false)) _
            simp only [Act.put, List.setIfInBounds_toArray, List.set_cons_zero, List.set_cons_succ]
            refine wpAnyH_take (i := 6) (v := .bool false) rfl (by kernel_rfl) (by kernel_rfl) (by kernel_rfl) (fun _ _ _ h => h) (Or.inl ⟨by rfl, fun w' hS' => by go_simp⟩) hS0 ?_
            change wpAnyH _ _ _ _ _ _ _ (Act.put _ (some 104) (.bool false)) _
            simp only [Act.put, List.setIfInBounds_toArray, List.set_cons_zero, List.set_cons_succ]
            refine wpAnyH_take (i := 7) (v := .int .i64 0) rfl (by kernel_rfl) (by kernel_rfl) (by kernel_rfl) (fun _ _ _ h => h) (Or.inl ⟨by rfl, fun w' hS' => by go_simp⟩) hS0 ?_
            change wpAnyH _ _ _ _ _ _ _ (Act.put _ (some 105) (.int .i64 0)) _
            simp only [Act.put, List.setIfInBounds_toArray, List.set_cons_zero, List.set_cons_succ]
            refine wpAnyH_take (i := 8) (v := .bool true) rfl (by kernel_rfl) (by kernel_rfl) (by kernel_rfl) (fun _ _ _ h => h) (Or.inl ⟨by rfl, fun w' hS' => by go_simp⟩) hS0 ?_
            change wpAnyH _ _ _ _ _ _ _ (Act.put _ (some 106) (.bool true)) _
            simp only [Act.put, List.setIfInBounds_toArray, List.set_cons_zero, List.set_cons_succ]
            refine wpAnyH_take (i := 9) (v := .bool true) rfl (by kernel_rfl) (by kernel_rfl) (by kernel_rfl) (fun _ _ _ h => h) (Or.inl ⟨by rfl, fun w' hS' => by go_simp⟩) hS0 ?_
            change wpAnyH _ _ _ _ _ _ _ (Act.put _ (some 107) (.bool true)) _
            simp only [Act.put, List.setIfInBounds_toArray, List.set_cons_zero, List.set_cons_succ]
            refine wpAnyH_take (i := 10) (v := .agg #[.int .i64 x.req, .int .i64 x.slot, .string x.left, .string x.right]) rfl (by kernel_rfl) (by kernel_rfl) (by kernel_rfl) (fun _ _ _ h => h) (Or.inl ⟨by rfl, fun w' hS' => by obtain ⟨c0, c1, c2, c3⟩ := blk4 (H18.out w' hS'); go_simp⟩) hS0 ?_
            change wpAnyH _ _ _ _ _ _ _ (Act.put _ (some 108) (.agg #[.int .i64 x.req, .int .i64 x.slot, .string x.left, .string x.right])) _
            simp only [Act.put, List.setIfInBounds_toArray, List.set_cons_zero, List.set_cons_succ]
            refine wpAnyH_take (i := 11) (v := .slice (some aw) p cx) rfl (by kernel_rfl) (by kernel_rfl) (by kernel_rfl) (fun _ _ _ h => h) (Or.inl ⟨by rfl, fun w' hS' => by go_simp⟩) hS0 ?_
            change wpAnyH _ _ _ _ _ _ _ (Act.put _ (some 109) (.slice (some aw) p cx)) _
            simp only [Act.put, List.setIfInBounds_toArray, List.set_cons_zero, List.set_cons_succ]
            refine wpAnyH_take (i := 12) (v := .pointer (some aw)) rfl (by kernel_rfl) (by kernel_rfl) (by kernel_rfl) (fun _ _ _ h => h) (Or.inl ⟨by rfl, fun w' hS' => by have h3 := HP1.out; go_simp; try (intro h; exact absurd h (by omega))⟩) hS0 ?_
            change wpAnyH _ _ _ _ _ _ _ (Act.put _ (some 110) (.pointer (some aw))) _
            simp only [Act.put, List.setIfInBounds_toArray, List.set_cons_zero, List.set_cons_succ]
            refine wpAnyH_take (i := 13) (v := .agg #[.int .i64 x.req, .int .i64 x.slot, .string x.left, .string x.right]) rfl (by kernel_rfl) (by kernel_rfl) (by kernel_rfl) (fun _ _ _ h => h) (Or.inl ⟨by rfl, fun w' hS' => by obtain ⟨c0, c1, c2, c3⟩ := HAX.out w' hS'; go_simp⟩) hS0 ?_
            change wpAnyH _ _ _ _ _ _ _ (Act.put _ (some 111) (.agg #[.int .i64 x.req, .int .i64 x.slot, .string x.left, .string x.right])) _
            simp only [Act.put, List.setIfInBounds_toArray, List.set_cons_zero, List.set_cons_succ]
            refine wpAnyH_take (i := 14) (v := .bool false) rfl (by kernel_rfl) (by kernel_rfl) (by kernel_rfl) (fun _ _ _ h => h) (Or.inl ⟨by rfl, fun w' hS' => by go_simp⟩) hS0 ?_
            change wpAnyH _ _ _ _ _ _ _ (Act.put _ (some 112) (.bool false)) _
            simp only [Act.put, List.setIfInBounds_toArray, List.set_cons_zero, List.set_cons_succ]
            refine wpAnyH_take (i := 15) (v := .bool false) rfl (by kernel_rfl) (by kernel_rfl) (by kernel_rfl) (fun _ _ _ h => h) (Or.inl ⟨by rfl, fun w' hS' => by go_simp⟩) hS0 ?_
            change wpAnyH _ _ _ _ _ _ _ (Act.put _ (some 113) (.bool false)) _
            simp only [Act.put, List.setIfInBounds_toArray, List.set_cons_zero, List.set_cons_succ]
            refine wpAnyH_take (i := 16) (v := .bool false) rfl (by kernel_rfl) (by kernel_rfl) (by kernel_rfl) (fun _ _ _ h => h) (Or.inl ⟨by rfl, fun w' hS' => by go_simp⟩) hS0 ?_
            change wpAnyH _ _ _ _ _ _ _ (Act.put _ (some 114) (.bool false)) _
            simp only [Act.put, List.setIfInBounds_toArray, List.set_cons_zero, List.set_cons_succ]
            refine wpAnyH_done (by kernel_rfl) ?_ _
            refine NoPanic.normal ?_
            obtain ⟨u4, hu4⟩ : ∃ W, W = u3.drew := ⟨_, rfl⟩
            have hb4 : Below u3.heap.size u3 u4 := by rw [hu4]; exact (Below.refl _ _).drew
            rw [← hu4]
            clear hu4
            have HWn := Lib.hid (HWn.out.up hb4)
            have HQ := Lib.hid (HQ.out.below hb4 HQ.out.lt)
            have HA10 := Lib.hid (HA10.out.up hb4)
            have HB19 := Lib.hid (HB19.out.below hb4 HB19.out.lt)
            clear hb4 HAX H18
            obtain ⟨y0, y1, y2⟩ := blk3 HB19.out
            obtain ⟨z0, z1, z2⟩ := blk3 HQ.out
            have q0 := Blk.frozen HQ.out 0
            have q1 := Blk.frozen HQ.out 1
            have q2 := Blk.frozen HQ.out 2
            go_upto_region 26 with (fail)
            obtain ⟨u5, hu5, hk5, hg5⟩ := box_set HQ.out (.int .i64 (R : Int)) (.bool false) (.slice A10 (p - 1) c10)
            rw [← hu5]
            have HWn := Lib.hid (HWn.out.far hg5 HQ.out (by decide) HGQ.out)
            have HA10 := Lib.hid (HA10.out.far hg5 HGV.out).at_
            have HQ := Lib.hid hk5
            clear hu5 hk5 hg5 y0 y1 y2 z0 z1 z2 q0 q1 q2
            obtain ⟨aw', haw, hWt⟩ := HWn.out.tail
            obtain rfl : aw = aw' := by injection haw
            have HWt := Lib.hid hWt
            have hpx := HWn.out.at_.2.2
            have HPX := Lib.hid hpx
            clear haw hWt
            go_cut [11] (fun s11 wx => s11 = .slice (fromA aw cx 1) (p - 1) (cx - 1) ∧ wx = u5)
            case first =>
              have hpi : ¬ (p : Int) < 1 := by omega
              have hpj : (1 : Int) ≤ (p : Int) := by omega
              by_cases hcx : cx = 1
              · obtain rfl : p = 1 := by omega
                subst hcx
                go_wp2_with fail
                go_meet
                exact ⟨by simp [fromA], rfl⟩
              · have hcy : ¬ 1 = cx := fun e => hcx e.symm
                go_wp2_with fail
                go_meet
                exact ⟨by simp [fromA, hcx, Addr.add], rfl⟩
            case rest =>
              obtain ⟨rfl, hu⟩ := hcut
              obtain rfl : u5 = wc := hu.symm
              obtain ⟨y0, y1, y2⟩ := blk3 HQ.out
              have hmR' : (p - 1) ≤ R := (by omega)
              have t7 : decide ((R : Int) < ((p - 1) : Int)) = false := decide_eq_false (by omega)
              go_wp2_with fail
              refine (rtasks_any A10 (fromA aw cx 1) V3 V3 (p - 1) (p - 1) c10 (cx - 1) true (decide_eq_true rfl) _ HA10.out HWt.out.at_.1 HV3.out HV3.out (by omega) (by omega)).mono ?_
              rintro e u8 ⟨rfl, hq⟩
              have hb := hq.below
              have HWn' := Lib.hid (HWt.out.up hb)
              have HQ' := Lib.hid (HQ.out.below hb HQ.out.lt)
              have HA' := Lib.hid (HA10.out.up hb)
              clear hq hb y0 y1 y2
              obtain ⟨y0, y1, y2⟩ := blk3 HQ'.out
              go_wp2_with fail
              refine (iright_any (R : Int) false V3 A10 (p - 1) c10 true (ord_right (by omega) (by rw [HV3.out]; exact hmR')) _ HV3.out).mono ?_
              rintro e u9 ⟨rfl, hb⟩
              have HWn' := Lib.hid (HWn'.out.up hb)
              have HQ' := Lib.hid (HQ'.out.below hb HQ'.out.lt)
              have HA' := Lib.hid (HA'.out.up hb)
              clear hb y0 y1 y2 t7
              go_wp2_with fail
              go_roundw
              case rel => exact ⟨k + 1, V3, by omega, by omega, by go_num, Lib.hid ⟨(fromA aw cx 1), A10, (p - 1), (cx - 1), c10, rfl, HWn'.out, HQ'.out, HA'.out, HC10.out, HV3.out, hmR', HF3.out⟩⟩
              case measure => simp [intOf]; omega
        · have e1 : ((dd : Int) == 1) = false := by rw [beq_eq_false_iff_ne]; omega
          by_cases h2 : dd = 2
          · have e2 : ((dd : Int) == 2) = true := by simp [h2]
            have e3 : ((dd : Int) == 3) = false := by simp [h2]
            clear h1 h2
            cases V2 with
            | nil =>
              obtain rfl : p = 0 := HVp.out.symm
              obtain ⟨y0, y1, y2⟩ := blk3 HQ.out
              have HTK : Hid (takeQ ⟨(R : Int), false, []⟩ = (zeroT, ⟨0, false, []⟩, 10)) := Lib.hid (take_none (ord_right (by omega) (Nat.zero_le _)))
              go_wp2_with fail
              refine (itake_any (R : Int) false [] A9 0 c9 _ zeroT 0 false [] 10 HTK.out RowAt.nil rfl (Nat.zero_le _) FitT.nil).mono ?_
              rintro e u2 ⟨A10, n10, c10, rfl, -, -, -, hb⟩
              have HWn := Lib.hid (HWn.out.up hb)
              have HQ := Lib.hid (HQ.out.below hb HQ.out.lt)
              have HA9 := Lib.hid (HA9.out.up hb)
              clear hb y0 y1 y2
              go_upto_region 22 with (fail)
              obtain ⟨g18, g19, u3, hg1, hg2, hv, -, -, hbe, -⟩ := box_two u2 39 #[.int .i64 zeroT.req, .int .i64 zeroT.slot, .string zeroT.left, .string zeroT.right] 24 #[.int .i64 0, .bool false, .slice A10 n10 c10]
              rw [← hv, ← hg2, ← hg1]
              have HWn := Lib.hid (HWn.out.up hbe)
              have HQ := Lib.hid (HQ.out.below hbe HQ.out.lt)
              have HA9 := Lib.hid (HA9.out.up hbe)
              clear hg1 hg2 hv hbe
              refine wp_region_noPanic ?_
              refine wp_region_held_drew (S := fun W => Below u3.heap.size u3 W) (by kernel_rfl) ((Below.refl u3.heap.size u3).drew) (fun hS0 => ?_)
              change wpAnyH _ _ _ _ _ 17 #[false, false, false, false, false, false, false, false, false, false, false, false, false, false, false, false, false] _ (World.drew _)
              refine wpAnyH_take (i := 0) (v := .int .i64 10) rfl (by kernel_rfl) (by kernel_rfl) (by kernel_rfl) (fun _ _ _ h => h) (Or.inl ⟨by rfl, fun w' hS' => by go_simp⟩) hS0 ?_
              change wpAnyH _ _ _ _ _ _ _ (Act.put _ (some 98) (.int .i64 10)) _
              simp only [Act.put, List.setIfInBounds_toArray, List.set_cons_zero, List.set_cons_succ]
              refine wpAnyH_take (i := 1) (v := .bool false) rfl (by kernel_rfl) (by kernel_rfl) (by kernel_rfl) (fun _ _ _ h => h) (Or.inl ⟨by rfl, fun w' hS' => by go_simp⟩) hS0 ?_
              change wpAnyH _ _ _ _ _ _ _ (Act.put _ (some 99) (.bool false)) _
              simp only [Act.put, List.setIfInBounds_toArray, List.set_cons_zero, List.set_cons_succ]
              refine wpAnyH_take (i := 2) (v := .slice Ax 0 cx) rfl (by kernel_rfl) (by kernel_rfl) (by kernel_rfl) (fun _ _ _ h => h) (Or.inl ⟨by rfl, fun w' hS' => by go_simp⟩) hS0 ?_
              change wpAnyH _ _ _ _ _ _ _ (Act.put _ (some 100) (.slice Ax 0 cx)) _
              simp only [Act.put, List.setIfInBounds_toArray, List.set_cons_zero, List.set_cons_succ]
              refine wpAnyH_take (i := 3) (v := .int .i64 0) rfl (by kernel_rfl) (by kernel_rfl) (by kernel_rfl) (fun _ _ _ h => h) (Or.inl ⟨by rfl, fun w' hS' => by go_simp; try rfl⟩) hS0 ?_
              change wpAnyH _ _ _ _ _ _ _ (Act.put _ (some 101) (.int .i64 0)) _
              simp only [Act.put, List.setIfInBounds_toArray, List.set_cons_zero, List.set_cons_succ]
              refine wpAnyH_take (i := 4) (v := .bool false) rfl (by kernel_rfl) (by kernel_rfl) (by kernel_rfl) (fun _ _ _ h => h) (Or.inl ⟨by rfl, fun w' hS' => by go_simp⟩) hS0 ?_
              change wpAnyH _ _ _ _ _ _ _ (Act.put _ (some 102) (.bool false)) _
              simp only [Act.put, List.setIfInBounds_toArray, List.set_cons_zero, List.set_cons_succ]
              refine wpAnyH_take (i := 5) (v := .bool false) rfl (by kernel_rfl) (by kernel_rfl) (by kernel_rfl) (fun _ _ _ h => h) (Or.inl ⟨by rfl, fun w' hS' => by go_simp⟩) hS0 ?_
              change wpAnyH _ _ _ _ _ _ _ (Act.put _ (some 103) (.bool false)) _
              simp only [Act.put, List.setIfInBounds_toArray, List.set_cons_zero, List.set_cons_succ]
              refine wpAnyH_take (i := 6) (v := .bool false) rfl (by kernel_rfl) (by kernel_rfl) (by kernel_rfl) (fun _ _ _ h => h) (Or.inl ⟨by rfl, fun w' hS' => by go_simp⟩) hS0 ?_
              change wpAnyH _ _ _ _ _ _ _ (Act.put _ (some 104) (.bool false)) _
              simp only [Act.put, List.setIfInBounds_toArray, List.set_cons_zero, List.set_cons_succ]
              refine wpAnyH_take (i := 7) (v := .int .i64 10) rfl (by kernel_rfl) (by kernel_rfl) (by kernel_rfl) (fun _ _ _ h => h) (Or.inl ⟨by rfl, fun w' hS' => by go_simp⟩) hS0 ?_
              change wpAnyH _ _ _ _ _ _ _ (Act.put _ (some 105) (.int .i64 10)) _
              simp only [Act.put, List.setIfInBounds_toArray, List.set_cons_zero, List.set_cons_succ]
              refine wpAnyH_take (i := 8) (v := .bool false) rfl (by kernel_rfl) (by kernel_rfl) (by kernel_rfl) (fun _ _ _ h => h) (Or.inl ⟨by rfl, fun w' hS' => by go_simp⟩) hS0 ?_
              change wpAnyH _ _ _ _ _ _ _ (Act.put _ (some 106) (.bool false)) _
              simp only [Act.put, List.setIfInBounds_toArray, List.set_cons_zero, List.set_cons_succ]
              refine wpAnyH_take (i := 9) (v := .bool false) rfl (by kernel_rfl) (by kernel_rfl) (by kernel_rfl) (fun _ _ _ h => h) (Or.inl ⟨by rfl, fun w' hS' => by go_simp⟩) hS0 ?_
              change wpAnyH _ _ _ _ _ _ _ (Act.put _ (some 107) (.bool false)) _
              simp only [Act.put, List.setIfInBounds_toArray, List.set_cons_zero, List.set_cons_succ]
              refine wpAnyH_take (i := 10) (v := undef) rfl (by kernel_rfl) (by kernel_rfl) (by kernel_rfl) (fun _ _ _ h => h) (Or.inr ⟨by rfl, rfl⟩) hS0 ?_
              change wpAnyH _ _ _ _ _ _ _ (Act.put _ (some 108) (undef)) _
              simp only [Act.put, List.setIfInBounds_toArray, List.set_cons_zero, List.set_cons_succ]
              refine wpAnyH_take (i := 11) (v := undef) rfl (by kernel_rfl) (by kernel_rfl) (by kernel_rfl) (fun _ _ _ h => h) (Or.inr ⟨by rfl, rfl⟩) hS0 ?_
              change wpAnyH _ _ _ _ _ _ _ (Act.put _ (some 109) (undef)) _
              simp only [Act.put, List.setIfInBounds_toArray, List.set_cons_zero, List.set_cons_succ]
              refine wpAnyH_take (i := 12) (v := undef) rfl (by kernel_rfl) (by kernel_rfl) (by kernel_rfl) (fun _ _ _ h => h) (Or.inr ⟨by rfl, rfl⟩) hS0 ?_
              change wpAnyH _ _ _ _ _ _ _ (Act.put _ (some 110) (undef)) _
              simp only [Act.put, List.setIfInBounds_toArray, List.set_cons_zero, List.set_cons_succ]
              refine wpAnyH_take (i := 13) (v := undef) rfl (by kernel_rfl) (by kernel_rfl) (by kernel_rfl) (fun _ _ _ h => h) (Or.inr ⟨by rfl, rfl⟩) hS0 ?_
              change wpAnyH _ _ _ _ _ _ _ (Act.put _ (some 111) (undef)) _
              simp only [Act.put, List.setIfInBounds_toArray, List.set_cons_zero, List.set_cons_succ]
              refine wpAnyH_take (i := 14) (v := undef) rfl (by kernel_rfl) (by kernel_rfl) (by kernel_rfl) (fun _ _ _ h => h) (Or.inr ⟨by rfl, rfl⟩) hS0 ?_
              change wpAnyH _ _ _ _ _ _ _ (Act.put _ (some 112) (undef)) _
              simp only [Act.put, List.setIfInBounds_toArray, List.set_cons_zero, List.set_cons_succ]
              refine wpAnyH_take (i := 15) (v := .bool false) rfl (by kernel_rfl) (by kernel_rfl) (by kernel_rfl) (fun _ _ _ h => h) (Or.inl ⟨by rfl, fun w' hS' => by go_simp⟩) hS0 ?_
              change wpAnyH _ _ _ _ _ _ _ (Act.put _ (some 113) (.bool false)) _
              simp only [Act.put, List.setIfInBounds_toArray, List.set_cons_zero, List.set_cons_succ]
              refine wpAnyH_take (i := 16) (v := .bool false) rfl (by kernel_rfl) (by kernel_rfl) (by kernel_rfl) (fun _ _ _ h => h) (Or.inl ⟨by rfl, fun w' hS' => by go_simp⟩) hS0 ?_
              change wpAnyH _ _ _ _ _ _ _ (Act.put _ (some 114) (.bool false)) _
              simp only [Act.put, List.setIfInBounds_toArray, List.set_cons_zero, List.set_cons_succ]
              refine wpAnyH_done (by kernel_rfl) ?_ _
              refine NoPanic.normal ?_
              obtain ⟨u4, hu4⟩ : ∃ W, W = u3.drew := ⟨_, rfl⟩
              have hb4 : Below u3.heap.size u3 u4 := by rw [hu4]; exact (Below.refl _ _).drew
              rw [← hu4]
              clear hu4
              have HWn := Lib.hid (HWn.out.up hb4)
              have HQ := Lib.hid (HQ.out.below hb4 HQ.out.lt)
              have HA9 := Lib.hid (HA9.out.up hb4)
              clear hb4
              obtain ⟨y0, y1, y2⟩ := blk3 HQ.out
              have hmR' : 0 ≤ R := (Nat.zero_le _)
              have t7 : decide ((R : Int) < (0 : Int)) = false := decide_eq_false (by omega)
              go_wp2_with fail
              refine (rtasks_any A9 Ax [] [] 0 0 c9 cx true (decide_eq_true rfl) _ HA9.out HWn.out.at_.1 HVp.out HVp.out (by omega) (by omega)).mono ?_
              rintro e u8 ⟨rfl, hq⟩
              have hb := hq.below
              have HWn' := Lib.hid (HWn.out.up hb)
              have HQ' := Lib.hid (HQ.out.below hb HQ.out.lt)
              have HA' := Lib.hid (HA9.out.up hb)
              clear hq hb y0 y1 y2
              obtain ⟨y0, y1, y2⟩ := blk3 HQ'.out
              go_wp2_with fail
              refine (iright_any (R : Int) false [] A9 0 c9 true (ord_right (by omega) (by rw [HVp.out]; exact hmR')) _ HVp.out).mono ?_
              rintro e u9 ⟨rfl, hb⟩
              have HWn' := Lib.hid (HWn'.out.up hb)
              have HQ' := Lib.hid (HQ'.out.below hb HQ'.out.lt)
              have HA' := Lib.hid (HA'.out.up hb)
              clear hb y0 y1 y2 t7
              go_wp2_with fail
              go_roundw
              case rel => exact ⟨k + 1, [], by omega, by omega, by go_num, Lib.hid ⟨Ax, A9, 0, cx, c9, rfl, HWn'.out, HQ'.out, HA'.out, HC9.out, HVp.out, hmR', FitT.nil⟩⟩
              case measure => simp [intOf]; omega
            | cons x V3 =>
              have hp1 : 1 ≤ p := by have := HVp.out; simp only [List.length_cons] at this; omega
              have HP1 := Lib.hid hp1
              have HV3 : Hid (V3.length = p - 1) := Lib.hid (by have := HVp.out; simp only [List.length_cons] at this; omega)
              have HF3 : Hid (FitT V3) := Lib.hid (HFV2.out.sub fun z hz => by simp [hz])
              have HTK : Hid (takeQ ⟨(R : Int), false, x :: V3⟩ = (x, ⟨(R : Int), false, V3⟩, 0)) := Lib.hid (take_ok (ord_right (by omega) (by rw [HVp.out]; exact hpR)))
              obtain ⟨aw, rfl, hax⟩ := first_cells HWn.out.at_.1 (x := x) rfl
              have HAX := Lib.hid hax
              obtain ⟨y0, y1, y2⟩ := blk3 HQ.out
              have HGV : Hid (gq < u1.heap.size) := Lib.hid HQ.out.lt
              clear hax
              go_wp2_with fail
              refine (itake_any (R : Int) false (x :: V3) A9 p c9 _ x (R : Int) false V3 0 HTK.out HA9.out HVp.out HC9.out HFV2.out).mono ?_
              rintro e u2 ⟨A10, n10, c10, rfl, hn, hc, ha, hb⟩
              obtain rfl : n10 = p - 1 := by rw [← hn, HV3.out]
              have HA10 := Lib.hid ha
              have HC10 := Lib.hid hc
              have HAX : Hid (∀ W, Below u2.heap.size u2 W → W.cell? aw = some (.int .i64 x.req) ∧ W.cell? ⟨aw.block, aw.off + 1, none⟩ = some (.int .i64 x.slot) ∧ W.cell? ⟨aw.block, aw.off + 2, none⟩ = some (.string x.left) ∧ W.cell? ⟨aw.block, aw.off + 3, none⟩ = some (.string x.right)) := Lib.hid fun W hW => HAX.out W (below_step hb hW)
              have HWn := Lib.hid (HWn.out.up hb)
              have HQ := Lib.hid (HQ.out.below hb HQ.out.lt)
              clear hn hc ha hb y0 y1 y2
              go_upto_region 22 with (fail)
              obtain ⟨g18, g19, u3, hg1, hg2, hv, hk1, hk2, hbe, -⟩ := box_two u2 39 #[.int .i64 x.req, .int .i64 x.slot, .string x.left, .string x.right] 24 #[.int .i64 (R : Int), .bool false, .slice A10 (p - 1) c10]
              rw [← hv, ← hg2, ← hg1]
              have HB18 := Lib.hid hk1
              have HB19 := Lib.hid hk2
              have HA10 := Lib.hid (HA10.out.up hbe)
              have HAX : Hid (∀ W, Below u3.heap.size u3 W → W.cell? aw = some (.int .i64 x.req) ∧ W.cell? ⟨aw.block, aw.off + 1, none⟩ = some (.int .i64 x.slot) ∧ W.cell? ⟨aw.block, aw.off + 2, none⟩ = some (.string x.left) ∧ W.cell? ⟨aw.block, aw.off + 3, none⟩ = some (.string x.right)) := Lib.hid fun W hW => HAX.out W (below_step hbe hW)
              have H18 : Hid (∀ W, Below u3.heap.size u3 W → Blk W g18 39 #[.int .i64 x.req, .int .i64 x.slot, .string x.left, .string x.right]) := Lib.hid fun W hW => HB18.out.below hW HB18.out.lt
              have HWn := Lib.hid (HWn.out.up hbe)
              have HQ := Lib.hid (HQ.out.below hbe HQ.out.lt)
              clear hg1 hg2 hv hk1 hk2 hbe
              have HPP : Hid (decide ((0 : Int) < (p : Int)) = true) := Lib.hid (decide_eq_true (by omega))
              have HPQ : Hid (decide (0 < p) = true) := Lib.hid (decide_eq_true (by omega))
              refine wp_region_noPanic ?_
              refine wp_region_held_drew (S := fun W => Below u3.heap.size u3 W) (by kernel_rfl) ((Below.refl u3.heap.size u3).drew) (fun hS0 => ?_)
              change wpAnyH _ _ _ _ _ 17 #[false, false, false, false, false, false, false, false, false, false, false, false, false, false, false, false, false] _ (World.drew _)
              refine wpAnyH_take (i := 0) (v := .int .i64 0) rfl (by kernel_rfl) (by kernel_rfl) (by kernel_rfl) (fun _ _ _ h => h) (Or.inl ⟨by rfl, fun w' hS' => by go_simp⟩) hS0 ?_
              change wpAnyH _ _ _ _ _ _ _ (Act.put _ (some 98) (.int .i64 0)) _
              simp only [Act.put, List.setIfInBounds_toArray, List.set_cons_zero, List.set_cons_succ]
              refine wpAnyH_take (i := 1) (v := .bool true) rfl (by kernel_rfl) (by kernel_rfl) (by kernel_rfl) (fun _ _ _ h => h) (Or.inl ⟨by rfl, fun w' hS' => by go_simp⟩) hS0 ?_
              change wpAnyH _ _ _ _ _ _ _ (Act.put _ (some 99) (.bool true)) _
              simp only [Act.put, List.setIfInBounds_toArray, List.set_cons_zero, List.set_cons_succ]
              refine wpAnyH_take (i := 2) (v := .slice (some aw) p cx) rfl (by kernel_rfl) (by kernel_rfl) (by kernel_rfl) (fun _ _ _ h => h) (Or.inl ⟨by rfl, fun w' hS' => by go_simp⟩) hS0 ?_
              change wpAnyH _ _ _ _ _ _ _ (Act.put _ (some 100) (.slice (some aw) p cx)) _
              simp only [Act.put, List.setIfInBounds_toArray, List.set_cons_zero, List.set_cons_succ]
              refine wpAnyH_take (i := 3) (v := .int .i64 (p : Int)) rfl (by kernel_rfl) (by kernel_rfl) (by kernel_rfl) (fun _ _ _ h => h) (Or.inl ⟨by rfl, fun w' hS' => by go_simp⟩) hS0 ?_
              change wpAnyH _ _ _ _ _ _ _ (Act.put _ (some 101) (.int .i64 (p : Int))) _
              simp only [Act.put, List.setIfInBounds_toArray, List.set_cons_zero, List.set_cons_succ]
              refine wpAnyH_take (i := 4) (v := .bool true) rfl (by kernel_rfl) (by kernel_rfl) (by kernel_rfl) (fun _ _ _ h => h) (Or.inl ⟨by rfl, fun w' hS' => by have h1 := HPP.out; have h2 := HPQ.out; have h3 := HP1.out; go_simp; try omega⟩) hS0 ?_
              change wpAnyH _ _ _ _ _ _ _ (Act.put _ (some 102) (.bool true)) _
              simp only [Act.put, List.setIfInBounds_toArray, List.set_cons_zero, List.set_cons_succ]
              refine wpAnyH_take (i := 5) (v := .bool false) rfl (by kernel_rfl) (by kernel_rfl) (by kernel_rfl) (fun _ _ _ h => h) (Or.inl ⟨by rfl, fun w' hS' => by go_simp⟩) hS0 ?_
              change wpAnyH _ _ _ _ _ _ _ (Act.put _ (some 103) (.bool false)) _
              simp only [Act.put, List.setIfInBounds_toArray, List.set_cons_zero, List.set_cons_succ]
              refine wpAnyH_take (i := 6) (v := .bool false) rfl (by kernel_rfl) (by kernel_rfl) (by kernel_rfl) (fun _ _ _ h => h) (Or.inl ⟨by rfl, fun w' hS' => by go_simp⟩) hS0 ?_
              change wpAnyH _ _ _ _ _ _ _ (Act.put _ (some 104) (.bool false)) _
              simp only [Act.put, List.setIfInBounds_toArray, List.set_cons_zero, List.set_cons_succ]
              refine wpAnyH_take (i := 7) (v := .int .i64 0) rfl (by kernel_rfl) (by kernel_rfl) (by kernel_rfl) (fun _ _ _ h => h) (Or.inl ⟨by rfl, fun w' hS' => by go_simp⟩) hS0 ?_
              change wpAnyH _ _ _ _ _ _ _ (Act.put _ (some 105) (.int .i64 0)) _
              simp only [Act.put, List.setIfInBounds_toArray, List.set_cons_zero, List.set_cons_succ]
              refine wpAnyH_take (i := 8) (v := .bool true) rfl (by kernel_rfl) (by kernel_rfl) (by kernel_rfl) (fun _ _ _ h => h) (Or.inl ⟨by rfl, fun w' hS' => by go_simp⟩) hS0 ?_
              change wpAnyH _ _ _ _ _ _ _ (Act.put _ (some 106) (.bool true)) _
              simp only [Act.put, List.setIfInBounds_toArray, List.set_cons_zero, List.set_cons_succ]
              refine wpAnyH_take (i := 9) (v := .bool true) rfl (by kernel_rfl) (by kernel_rfl) (by kernel_rfl) (fun _ _ _ h => h) (Or.inl ⟨by rfl, fun w' hS' => by go_simp⟩) hS0 ?_
              change wpAnyH _ _ _ _ _ _ _ (Act.put _ (some 107) (.bool true)) _
              simp only [Act.put, List.setIfInBounds_toArray, List.set_cons_zero, List.set_cons_succ]
              refine wpAnyH_take (i := 10) (v := .agg #[.int .i64 x.req, .int .i64 x.slot, .string x.left, .string x.right]) rfl (by kernel_rfl) (by kernel_rfl) (by kernel_rfl) (fun _ _ _ h => h) (Or.inl ⟨by rfl, fun w' hS' => by obtain ⟨c0, c1, c2, c3⟩ := blk4 (H18.out w' hS'); go_simp⟩) hS0 ?_
              change wpAnyH _ _ _ _ _ _ _ (Act.put _ (some 108) (.agg #[.int .i64 x.req, .int .i64 x.slot, .string x.left, .string x.right])) _
              simp only [Act.put, List.setIfInBounds_toArray, List.set_cons_zero, List.set_cons_succ]
              refine wpAnyH_take (i := 11) (v := .slice (some aw) p cx) rfl (by kernel_rfl) (by kernel_rfl) (by kernel_rfl) (fun _ _ _ h => h) (Or.inl ⟨by rfl, fun w' hS' => by go_simp⟩) hS0 ?_
              change wpAnyH _ _ _ _ _ _ _ (Act.put _ (some 109) (.slice (some aw) p cx)) _
              simp only [Act.put, List.setIfInBounds_toArray, List.set_cons_zero, List.set_cons_succ]
              refine wpAnyH_take (i := 12) (v := .pointer (some aw)) rfl (by kernel_rfl) (by kernel_rfl) (by kernel_rfl) (fun _ _ _ h => h) (Or.inl ⟨by rfl, fun w' hS' => by have h3 := HP1.out; go_simp; try (intro h; exact absurd h (by omega))⟩) hS0 ?_
              change wpAnyH _ _ _ _ _ _ _ (Act.put _ (some 110) (.pointer (some aw))) _
              simp only [Act.put, List.setIfInBounds_toArray, List.set_cons_zero, List.set_cons_succ]
              refine wpAnyH_take (i := 13) (v := .agg #[.int .i64 x.req, .int .i64 x.slot, .string x.left, .string x.right]) rfl (by kernel_rfl) (by kernel_rfl) (by kernel_rfl) (fun _ _ _ h => h) (Or.inl ⟨by rfl, fun w' hS' => by obtain ⟨c0, c1, c2, c3⟩ := HAX.out w' hS'; go_simp⟩) hS0 ?_
              change wpAnyH _ _ _ _ _ _ _ (Act.put _ (some 111) (.agg #[.int .i64 x.req, .int .i64 x.slot, .string x.left, .string x.right])) _
              simp only [Act.put, List.setIfInBounds_toArray, List.set_cons_zero, List.set_cons_succ]
              refine wpAnyH_take (i := 14) (v := .bool false) rfl (by kernel_rfl) (by kernel_rfl) (by kernel_rfl) (fun _ _ _ h => h) (Or.inl ⟨by rfl, fun w' hS' => by go_simp⟩) hS0 ?_
              change wpAnyH _ _ _ _ _ _ _ (Act.put _ (some 112) (.bool false)) _
              simp only [Act.put, List.setIfInBounds_toArray, List.set_cons_zero, List.set_cons_succ]
              refine wpAnyH_take (i := 15) (v := .bool false) rfl (by kernel_rfl) (by kernel_rfl) (by kernel_rfl) (fun _ _ _ h => h) (Or.inl ⟨by rfl, fun w' hS' => by go_simp⟩) hS0 ?_
              change wpAnyH _ _ _ _ _ _ _ (Act.put _ (some 113) (.bool false)) _
              simp only [Act.put, List.setIfInBounds_toArray, List.set_cons_zero, List.set_cons_succ]
              refine wpAnyH_take (i := 16) (v := .bool false) rfl (by kernel_rfl) (by kernel_rfl) (by kernel_rfl) (fun _ _ _ h => h) (Or.inl ⟨by rfl, fun w' hS' => by go_simp⟩) hS0 ?_
              change wpAnyH _ _ _ _ _ _ _ (Act.put _ (some 114) (.bool false)) _
              simp only [Act.put, List.setIfInBounds_toArray, List.set_cons_zero, List.set_cons_succ]
              refine wpAnyH_done (by kernel_rfl) ?_ _
              refine NoPanic.normal ?_
              obtain ⟨u4, hu4⟩ : ∃ W, W = u3.drew := ⟨_, rfl⟩
              have hb4 : Below u3.heap.size u3 u4 := by rw [hu4]; exact (Below.refl _ _).drew
              rw [← hu4]
              clear hu4
              have HWn := Lib.hid (HWn.out.up hb4)
              have HQ := Lib.hid (HQ.out.below hb4 HQ.out.lt)
              have HA10 := Lib.hid (HA10.out.up hb4)
              have HB19 := Lib.hid (HB19.out.below hb4 HB19.out.lt)
              clear hb4 HAX H18
              obtain ⟨y0, y1, y2⟩ := blk3 HB19.out
              obtain ⟨z0, z1, z2⟩ := blk3 HQ.out
              have q0 := Blk.frozen HQ.out 0
              have q1 := Blk.frozen HQ.out 1
              have q2 := Blk.frozen HQ.out 2
              go_upto_region 26 with (fail)
              obtain ⟨u5, hu5, hk5, hg5⟩ := box_set HQ.out (.int .i64 (R : Int)) (.bool false) (.slice A10 (p - 1) c10)
              rw [← hu5]
              have HWn := Lib.hid (HWn.out.far hg5 HQ.out (by decide) HGQ.out)
              have HA10 := Lib.hid (HA10.out.far hg5 HGV.out).at_
              have HQ := Lib.hid hk5
              clear hu5 hk5 hg5 y0 y1 y2 z0 z1 z2 q0 q1 q2
              obtain ⟨aw', haw, hWt⟩ := HWn.out.tail
              obtain rfl : aw = aw' := by injection haw
              have HWt := Lib.hid hWt
              have hpx := HWn.out.at_.2.2
              have HPX := Lib.hid hpx
              clear haw hWt
              go_cut [11] (fun s11 wx => s11 = .slice (fromA aw cx 1) (p - 1) (cx - 1) ∧ wx = u5)
              case first =>
                have hpi : ¬ (p : Int) < 1 := by omega
                have hpj : (1 : Int) ≤ (p : Int) := by omega
                by_cases hcx : cx = 1
                · obtain rfl : p = 1 := by omega
                  subst hcx
                  go_wp2_with fail
                  go_meet
                  exact ⟨by simp [fromA], rfl⟩
                · have hcy : ¬ 1 = cx := fun e => hcx e.symm
                  go_wp2_with fail
                  go_meet
                  exact ⟨by simp [fromA, hcx, Addr.add], rfl⟩
              case rest =>
                obtain ⟨rfl, hu⟩ := hcut
                obtain rfl : u5 = wc := hu.symm
                obtain ⟨y0, y1, y2⟩ := blk3 HQ.out
                have hmR' : (p - 1) ≤ R := (by omega)
                have t7 : decide ((R : Int) < ((p - 1) : Int)) = false := decide_eq_false (by omega)
                go_wp2_with fail
                refine (rtasks_any A10 (fromA aw cx 1) V3 V3 (p - 1) (p - 1) c10 (cx - 1) true (decide_eq_true rfl) _ HA10.out HWt.out.at_.1 HV3.out HV3.out (by omega) (by omega)).mono ?_
                rintro e u8 ⟨rfl, hq⟩
                have hb := hq.below
                have HWn' := Lib.hid (HWt.out.up hb)
                have HQ' := Lib.hid (HQ.out.below hb HQ.out.lt)
                have HA' := Lib.hid (HA10.out.up hb)
                clear hq hb y0 y1 y2
                obtain ⟨y0, y1, y2⟩ := blk3 HQ'.out
                go_wp2_with fail
                refine (iright_any (R : Int) false V3 A10 (p - 1) c10 true (ord_right (by omega) (by rw [HV3.out]; exact hmR')) _ HV3.out).mono ?_
                rintro e u9 ⟨rfl, hb⟩
                have HWn' := Lib.hid (HWn'.out.up hb)
                have HQ' := Lib.hid (HQ'.out.below hb HQ'.out.lt)
                have HA' := Lib.hid (HA'.out.up hb)
                clear hb y0 y1 y2 t7
                go_wp2_with fail
                go_roundw
                case rel => exact ⟨k + 1, V3, by omega, by omega, by go_num, Lib.hid ⟨(fromA aw cx 1), A10, (p - 1), (cx - 1), c10, rfl, HWn'.out, HQ'.out, HA'.out, HC10.out, HV3.out, hmR', HF3.out⟩⟩
                case measure => simp [intOf]; omega
          · have e2 : ((dd : Int) == 2) = false := by rw [beq_eq_false_iff_ne]; omega
            by_cases h3 : dd = 3
            · have e3 : ((dd : Int) == 3) = true := by simp [h3]
              clear h1 h2 h3
              obtain ⟨D, hD⟩ : ∃ D, others V2 y.req = D := ⟨_, rfl⟩
              obtain ⟨q, hq⟩ : ∃ q, D.length = q := ⟨_, rfl⟩
              have hqp : q ≤ p := by have := others_len V2 y.req; rw [hD, hq, HVp.out] at this; exact this
              have HD := Lib.hid hD
              have HDQ := Lib.hid hq
              have HFD : Hid (FitT D) := Lib.hid (by rw [← hD]; exact HFV2.out.others y.req)
              obtain ⟨gn, hgn⟩ : ∃ gn, p - q = gn := ⟨_, rfl⟩
              have HDR : Hid (dropQ ⟨(R : Int), false, V2⟩ y.req = (gn, ⟨(R : Int), false, D⟩, 0)) := Lib.hid (by
                rw [drop_ok (ord_right (by omega) (by rw [HVp.out]; exact hpR))]
                simp only [hD, HVp.out, hq, hgn])
              have HGV : Hid (gq < u1.heap.size) := Lib.hid HQ.out.lt
              obtain ⟨y0, y1, y2⟩ := blk3 HQ.out
              obtain ⟨x0, x1, x2, x3⟩ := blk4 HBT.out
              clear hD hq hgn
              go_wp2_with fail
              refine (idrop_any (R : Int) false V2 A9 p c9 y.req _ gn (R : Int) false D 0 HDR.out HA9.out HVp.out HC9.out HFV2.out).mono ?_
              rintro e u2 ⟨A10, n10, c10, rfl, hn, hc, ha, hb⟩
              obtain rfl : n10 = q := by rw [← hn, HDQ.out]
              have HA10 := Lib.hid ha
              have HC10 := Lib.hid hc
              have HWn := Lib.hid (HWn.out.up hb)
              have HQ := Lib.hid (HQ.out.below hb HQ.out.lt)
              have HBT := Lib.hid (HBT.out.below hb HBT.out.lt)
              clear hn hc ha hb y0 y1 y2 x0 x1 x2 x3
              go_upto_region 29 with (fail)
              obtain ⟨g22, u3, hg, hv, hk, hbe⟩ := box_new u2 24 #[.int .i64 (R : Int), .bool false, .slice A10 n10 c10]
              rw [← hv, ← hg]
              have HB22 := Lib.hid hk
              have HA10 := Lib.hid (HA10.out.up hbe)
              have HWn := Lib.hid (HWn.out.up hbe)
              have HQ := Lib.hid (HQ.out.below hbe HQ.out.lt)
              have HBT := Lib.hid (HBT.out.below hbe HBT.out.lt)
              clear hg hv hk hbe
              obtain ⟨y0, y1, y2⟩ := blk3 HB22.out
              obtain ⟨z0, z1, z2⟩ := blk3 HQ.out
              have q0 := Blk.frozen HQ.out 0
              have q1 := Blk.frozen HQ.out 1
              have q2 := Blk.frozen HQ.out 2
              go_upto_region 32 with (fail)
              obtain ⟨u4, hu4, hk4, hg4⟩ := box_set HQ.out (.int .i64 (R : Int)) (.bool false) (.slice A10 n10 c10)
              rw [← hu4]
              have HWn := Lib.hid (HWn.out.far hg4 HQ.out (by decide) HGQ.out)
              have HBT := Lib.hid (HBT.out.grown hg4 (fun e => by injection e with e; exact blk_ne HBT.out HQ.out (by decide) e))
              have HA10 := Lib.hid (HA10.out.far hg4 HGV.out).at_
              have HQd := Lib.hid hk4
              clear hu4 hk4 hg4 y0 y1 y2 z0 z1 z2 q0 q1 q2 HB22
              have HWA : Hid (TasksAt u4 Ax V2) := Lib.hid HWn.out.at_.1
              have HU4 := Lib.hid HWn.out.1
              go_wp2_with fail
              go_loopw [24, 25] (fun v i wr => ∃ (j q2 cl : Nat) (Al : Option Addr), j ≤ p ∧ i = .int .i64 j ∧ v = .slice Al q2 cl ∧ Hid (OwnT u4 wr (.slice Al q2 cl) (others (V2.take j) y.req)) ∧ Hid ((others (V2.take j) y.req).length = q2)) (fun _ i _ => p - (intOf i).toNat)
              case atStart => exact ⟨0, 0, 0, none, Nat.zero_le _, rfl, rfl, Lib.hid (OwnR.nil u4), Lib.hid rfl⟩
              case round =>
                obtain ⟨j, q2, cl, Al, hj, rfl, rfl, HOL, HLN⟩ := hrel
                obtain ⟨u5, rfl⟩ : ∃ w3, w3 = wr := ⟨_, rfl⟩
                have hq2j : q2 ≤ j := by
                  have h1 := others_len (V2.take j) y.req
                  rw [HLN.out, List.length_take] at h1
                  omega
                obtain ⟨x0, x1, x2, x3⟩ := blk4 (HBT.out.below HOL.out.2 HBT.out.lt)
                by_cases g3 : j < p
                · have t8 : decide ((j : Int) < (p : Int)) = true := decide_eq_true (by omega)
                  obtain ⟨x, hx⟩ : ∃ x, V2[j]? = some x := ⟨_, List.getElem?_eq_getElem (by rw [HVp.out]; exact g3)⟩
                  have HX := Lib.hid hx
                  have HOT := Lib.hid (others_take hx y.req)
                  obtain ⟨a, rfl, hal, c0, c1, c2, c3⟩ := tasks_fields (HWA.out.up HOL.out.2) hx
                  clear hx hal
                  by_cases g4 : x.req = y.req
                  · have t0 : (x.req != y.req) = false := by simp [g4]
                    have HEQ : Hid (others (V2.take (j + 1)) y.req = others (V2.take j) y.req) := Lib.hid (by rw [HOT.out, if_pos g4])
                    clear g4
                    go_wp2_with fail
                    go_quiet (fail)
                    go_wp2_with fail
                    go_roundw
                    case rel => exact ⟨j + 1, q2, cl, Al, by omega, by go_num, rfl, Lib.hid (by rw [HEQ.out]; exact HOL.out.up (below_drewN (Below.refl _ _) _)), Lib.hid (by rw [HEQ.out]; exact HLN.out)⟩
                    case measure => simp [intOf]; omega
                  · have t0 : (x.req != y.req) = true := by simp [g4]
                    have HEQ : Hid (others (V2.take (j + 1)) y.req = others (V2.take j) y.req ++ [x]) := Lib.hid (by rw [HOT.out, if_neg g4])
                    clear g4
                    go_wp2_with fail
                    go_quiet (fail)
                    obtain ⟨wd, hwd⟩ : ∃ wd, wd = u5.drewN nq := ⟨_, rfl⟩
                    have hd : Below u5.heap.size u5 wd := by rw [hwd]; exact below_drewN (Below.refl _ _) _
                    obtain ⟨A12, c12, u6, hr12, ho12, _⟩ := push_task (HOL.out.up hd) x (q2 + 1) (by rw [HLN.out]) (by omega)
                    have HR12 := Lib.hid hr12
                    have HO12 : Hid (OwnT u4 u6 (.slice A12 (q2 + 1) c12) (others (V2.take (j + 1)) y.req)) := Lib.hid (by rw [HEQ.out]; exact ho12)
                    have HL12 : Hid ((others (V2.take (j + 1)) y.req).length = q2 + 1) := Lib.hid (by rw [HEQ.out, List.length_append, HLN.out]; rfl)
                    rw [← hwd]
                    clear c0 c1 c2 c3 x0 x1 x2 x3
                    obtain ⟨a', ea, _, c0, c1, c2, c3⟩ := tasks_fields ((HWA.out.up HOL.out.2).up hd) HX.out
                    injection ea with ea
                    subst ea
                    clear hwd hr12 ho12 hd
                    go_wp2_with (at_builtin; refine wpList_append_run rfl rfl (by simp [Region.wanted]) rfl rfl HR12.out ?_; clear HR12)
                    go_roundw
                    case rel => exact ⟨j + 1, q2 + 1, c12, A12, by omega, by go_num, rfl, HO12, HL12⟩
                    case measure => simp [intOf]; omega
                · obtain rfl : j = p := by omega
                  have t8 : decide ((j : Int) < (j : Int)) = false := decide_eq_false (by omega)
                  have hV2j : V2.take j = V2 := List.take_of_length_le (by rw [HVp.out]; omega)
                  have HQE : Hid (q2 = n10) := Lib.hid (by rw [← HLN.out, hV2j, HD.out, HDQ.out])
                  have HWt : Hid (Want w3 u5 (.slice Al q2 cl) D) := Lib.hid (Want.of_own (by have := HOL.out; rwa [hV2j, HD.out] at this) (below_step HU4.out HOL.out.2) HU4.out.size)
                  have HQd := Lib.hid (HQd.out.below HOL.out.2 HQd.out.lt)
                  have HA10 := Lib.hid (HA10.out.up HOL.out.2)
                  clear hV2j x0 x1 x2 x3
                  obtain rfl : q2 = n10 := HQE.out
                  obtain ⟨y0, y1, y2⟩ := blk3 HQd.out
                  have hmR' : q2 ≤ R := (by omega)
                  have t7 : decide ((R : Int) < (q2 : Int)) = false := decide_eq_false (by omega)
                  go_wp2_with fail
                  refine (rtasks_any A10 Al D D q2 q2 c10 cl true (decide_eq_true rfl) _ HA10.out HWt.out.at_.1 HDQ.out HDQ.out (by omega) (by omega)).mono ?_
                  rintro e u8 ⟨rfl, hq⟩
                  have hb := hq.below
                  have HWn' := Lib.hid (HWt.out.up hb)
                  have HQ' := Lib.hid (HQd.out.below hb HQd.out.lt)
                  have HA' := Lib.hid (HA10.out.up hb)
                  clear hq hb y0 y1 y2
                  obtain ⟨y0, y1, y2⟩ := blk3 HQ'.out
                  go_wp2_with fail
                  refine (iright_any (R : Int) false D A10 q2 c10 true (ord_right (by omega) (by rw [HDQ.out]; exact hmR')) _ HDQ.out).mono ?_
                  rintro e u9 ⟨rfl, hb⟩
                  have HWn' := Lib.hid (HWn'.out.up hb)
                  have HQ' := Lib.hid (HQ'.out.below hb HQ'.out.lt)
                  have HA' := Lib.hid (HA'.out.up hb)
                  clear hb y0 y1 y2 t7
                  go_wp2_with fail
                  go_roundw
                  case rel => exact ⟨k + 1, D, by omega, by omega, by go_num, Lib.hid ⟨Al, A10, q2, cl, c10, rfl, HWn'.out, HQ'.out, HA'.out, HC10.out, HDQ.out, hmR', HFD.out⟩⟩
                  case measure => simp [intOf]; omega
            · have e3 : ((dd : Int) == 3) = false := by rw [beq_eq_false_iff_ne]; omega
              clear h1 h2 h3
              obtain ⟨y0, y1, y2⟩ := blk3 HQ.out
              have hmR' : p ≤ R := hpR
              have t7 : decide ((R : Int) < (p : Int)) = false := decide_eq_false (by omega)
              go_wp2_with fail
              refine (rtasks_any A9 Ax V2 V2 p p c9 cx true (decide_eq_true rfl) _ HA9.out HWn.out.at_.1 HVp.out HVp.out (by omega) (by omega)).mono ?_
              rintro e u8 ⟨rfl, hq⟩
              have hb := hq.below
              have HWn' := Lib.hid (HWn.out.up hb)
              have HQ' := Lib.hid (HQ.out.below hb HQ.out.lt)
              have HA' := Lib.hid (HA9.out.up hb)
              clear hq hb y0 y1 y2
              obtain ⟨y0, y1, y2⟩ := blk3 HQ'.out
              go_wp2_with fail
              refine (iright_any (R : Int) false V2 A9 p c9 true (ord_right (by omega) (by rw [HVp.out]; exact hmR')) _ HVp.out).mono ?_
              rintro e u9 ⟨rfl, hb⟩
              have HWn' := Lib.hid (HWn'.out.up hb)
              have HQ' := Lib.hid (HQ'.out.below hb HQ'.out.lt)
              have HA' := Lib.hid (HA'.out.up hb)
              clear hb y0 y1 y2 t7
              go_wp2_with fail
              go_roundw
              case rel => exact ⟨k + 1, V2, by omega, by omega, by go_num, Lib.hid ⟨Ax, A9, p, cx, c9, rfl, HWn'.out, HQ'.out, HA'.out, HC9.out, HVp.out, hmR', HFV2.out⟩⟩
              case measure => simp [intOf]; omega
      · obtain rfl : k = 20 := by omega
        have t2 : decide (((20 : Nat) : Int) < 20) = false := decide_eq_false (by omega)
        have t3 : decide ((20 : Int) < 20) = false := decide_eq_false (by omega)
        go_wp2_with fail
        go_ret
        exact ⟨rfl, below_step HW.out HWn.out.1⟩
    · have t1 : decide ((k : Int) < (n : Int)) = false := decide_eq_false (by omega)
      go_wp2_with fail
      go_ret
      exact ⟨rfl, below_step HW.out HWn.out.1⟩

end Go.Proofs.Ytaelenjnjoeheaa
