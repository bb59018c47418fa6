/-
  collatorlaw16.QueueTells returns true: which queues may be, and what is put, taken, dropped and closed, is as the document says. Nothing that was there is changed.
-/
import Derived.Test.YtaelenjnjoeheaaLw
namespace Go.Proofs.Ytaelenjnjoeheaa
open Go.RowKit P16

theorem put_small {q q1 : Qu} {L : List Tk} {k : Nat} {e : Int} (h : putQ q L = (k, q1, e)) : q1.tasks.length ≤ q.tasks.length + L.length := by
  cases hb : rightB q with
  | false =>
    rw [put_bad hb] at h
    injection h with _ h
    injection h with h _
    rw [← h]; exact Nat.zero_le _
  | true =>
    cases hc : q.closed with
    | true =>
      rw [put_closed hb hc] at h
      injection h with _ h
      injection h with h _
      rw [← h]; exact Nat.zero_le _
    | false =>
      rw [put_ok hb hc] at h
      injection h with _ h
      injection h with h _
      rw [← h]
      show (q.tasks ++ _).length ≤ _
      rw [List.length_append, List.length_take]
      omega
theorem take_small {q q1 : Qu} {x : Tk} {e : Int} (h : takeQ q = (x, q1, e)) : q1.tasks.length ≤ q.tasks.length := by
  cases hb : rightB q with
  | false =>
    rw [take_bad hb] at h
    injection h with _ h
    injection h with h _
    rw [← h]; exact Nat.zero_le _
  | true =>
    obtain ⟨r, c, T⟩ := q
    cases T with
    | nil =>
      rw [take_none hb] at h
      injection h with _ h
      injection h with h _
      rw [← h]; exact Nat.zero_le _
    | cons y T =>
      rw [take_ok hb] at h
      injection h with _ h
      injection h with h _
      rw [← h]
      show T.length ≤ (y :: T).length
      rw [List.length_cons]
      omega
theorem drop_small {q q1 : Qu} {r : Int} {k : Nat} {e : Int} (h : dropQ q r = (k, q1, e)) : q1.tasks.length ≤ q.tasks.length := by
  cases hb : rightB q with
  | false =>
    rw [drop_bad hb] at h
    injection h with _ h
    injection h with h _
    rw [← h]; exact Nat.zero_le _
  | true =>
    rw [drop_ok hb] at h
    injection h with _ h
    injection h with h _
    rw [← h]
    exact others_len _ _
theorem close_small {q q1 : Qu} {e : Int} (h : closeQ q = (q1, e)) : q1.tasks.length ≤ q.tasks.length := by
  cases hb : rightB q with
  | false =>
    rw [close_bad hb] at h
    injection h with h _
    rw [← h]; exact Nat.zero_le _
  | true =>
    rw [close_ok hb] at h
    injection h with h _
    rw [← h]
    exact Nat.le_refl _
/-- tasks of a queue, or to be put, few enough -/
structure QIn (w : World) (A : Option Addr) (n c : Nat) (T : List Tk) : Prop where
  row : TasksAt w A T
  len : T.length = n
  cap : n ≤ c
  fit : FitT T
  small : n ≤ 40
theorem QIn.up {w w' : World} {A : Option Addr} {n c : Nat} {T : List Tk} (h : QIn w A n c T) (hb : Below w.heap.size w w') : QIn w' A n c T := ⟨h.row.up hb, h.len, h.cap, h.fit, h.small⟩
theorem op_storeI {g j : Nat} {s0 s : Int} {t : TypeId} {cs : Array Value} {W : World} {o : Oper} {a : Act} {p q : Operand} (hb : Blk W g t cs) (hj : cs[j]? = some (.int .i64 s0)) (ho : o.op = Op.store 3 p q) (hp : a.eval p = .pointer (some ⟨g, j, none⟩)) (hq : a.eval q = .int .i64 s) :
    (execOp a.eval o).run Try.prog W = .ok .skip (W.setCell ⟨g, j, none⟩ (.int .i64 s)) := by
  have y := (Blk.cell hb j).trans hj
  have z := Blk.frozen hb j
  simp only [execOp, ho, hp, hq]
  go_simp
theorem op_lists2 (A : Option Addr) (n c : Nat) (B : Option Addr) (m d : Nat) (W : World) : ∃ g W1, (∀ (o : Oper) (a : Act) (p q : Nat), o.op = Op.buildSlice 34 2 #[(0, .tmp p), (1, .tmp q)] → a.eval (.tmp p) = .slice A n c → a.eval (.tmp q) = .slice B m d → (execOp a.eval o).run Try.prog W = .ok (.value (.slice (some ⟨g, 0, none⟩) 2 2)) W1) ∧
    Blk W1 g 22 #[.slice A n c, .slice B m d] ∧ Below W.heap.size W W1 := by
  refine ⟨W.heap.size, W.alloc (.cells #[.slice A n c, .slice B m d] 22), fun o a p q ho hp hq => ?_, Blk.new _ _ _, (Below.refl _ _).alloc (Nat.le_refl _) _⟩
  have hp' : a.tmps[p]?.getD undef = .slice A n c := by simpa [Act.eval] using hp
  have hq' : a.tmps[q]?.getD undef = .slice B m d := by simpa [Act.eval] using hq
  simp only [execOp, ho]
  go_simp

set_option maxHeartbeats 64000000 in
set_option maxRecDepth 100000 in
theorem tells_any (u : Int) (b0 : Bool) (A0 : Option Addr) (S : List Tk) (n0 c0 : Nat) (room : Int) (cl : Bool) (A1 : Option Addr) (L1 : List Tri) (n1 c1 : Nat) (A2 : Option Addr) (O : List Tk) (n2 c2 : Nat) (A3 : Option Addr) (L3 : List Tri) (n3 c3 : Nat) (req : Int) (w : World)
    (ha0 : TasksAt w A0 S) (hn0 : S.length = n0) (hc0 : n0 ≤ c0) (hf0 : FitT S) (hro : I64 room) (ha1 : TrisAt w A1 L1) (hn1 : L1.length = n1) (hf1 : FitN L1) (ha2 : TasksAt w A2 O) (hn2 : O.length = n2) (hc2 : n2 ≤ c2) (hf2 : FitT O) (ha3 : TrisAt w A3 L3) (hn3 : L3.length = n3) (hf3 : FitN L3) (hrq : I64 req) :
    Calls Try.prog 3 #[.agg #[.int .i64 u, .bool b0, .slice A0 n0 c0], .int .i64 room, .bool cl, .slice A1 n1 c1, .slice A2 n2 c2, .slice A3 n3 c3, .int .i64 req] w fun e w' => e = .returned (.bool true) ∧ Below w.heap.size w w' := by
  have HA0 := Lib.hid ha0
  have HN0 := Lib.hid hn0
  have HC0 := Lib.hid hc0
  have HF0 := Lib.hid hf0
  have HRO := Lib.hid hro
  have HA1 := Lib.hid ha1
  have HN1 := Lib.hid hn1
  have HF1 := Lib.hid hf1
  have HA2 := Lib.hid ha2
  have HN2 := Lib.hid hn2
  have HC2 := Lib.hid hc2
  have HF2 := Lib.hid hf2
  have HA3 := Lib.hid ha3
  have HN3 := Lib.hid hn3
  have HF3 := Lib.hid hf3
  have HRQ := Lib.hid hrq
  obtain ⟨qn, en, hqn⟩ : ∃ q e, newQ room = (q, e) := ⟨_, _, rfl⟩
  have HQN := Lib.hid hqn
  obtain ⟨p25, hp25⟩ : ∃ p, pickI room 25 = p := ⟨_, rfl⟩
  have HP25 := Lib.hid hp25
  obtain ⟨q4a, q4b⟩ := pickI_range room 4 (by omega)
  obtain ⟨p4, hp4⟩ := Int.eq_ofNat_of_zero_le q4a
  have HP4 := Lib.hid hp4
  have hp44 : p4 < 4 := by omega
  obtain ⟨p5, hp5⟩ : ∃ p, pickI req 5 = p := ⟨_, rfl⟩
  have HP5 := Lib.hid hp5
  obtain ⟨k12, hk12⟩ : ∃ k, min n0 12 = k := ⟨_, rfl⟩
  have HK12 : Hid (min (n0 : Int) 12 = (k12 : Int)) := Lib.hid (by omega)
  have hk12a : k12 ≤ n0 := by omega
  have hk12b : k12 ≤ 12 := by omega
  obtain ⟨k6, hk6⟩ : ∃ k, min n2 6 = k := ⟨_, rfl⟩
  have HK6 : Hid (min (n2 : Int) 6 = (k6 : Int)) := Lib.hid (by omega)
  have hk6a : k6 ≤ n2 := by omega
  have hk6b : k6 ≤ 6 := by omega
  obtain ⟨T1, hT1⟩ : ∃ T, tksOf L1 = T := ⟨_, rfl⟩
  have HT1 := Lib.hid hT1
  have HFT1 : Hid (FitT T1) := Lib.hid (by rw [← hT1]; exact tks_fit L1)
  have HT120 : Hid (T1.length ≤ 20) := Lib.hid (by rw [← hT1]; exact tks_20 L1)
  obtain ⟨T3, hT3⟩ : ∃ T, tksOf L3 = T := ⟨_, rfl⟩
  have HT3 := Lib.hid hT3
  have HFT3 : Hid (FitT T3) := Lib.hid (by rw [← hT3]; exact tks_fit L3)
  have HT320 : Hid (T3.length ≤ 20) := Lib.hid (by rw [← hT3]; exact tks_20 L3)
  have HQO6 : Hid (QIn w A2 k6 c2 (O.take k6)) := Lib.hid ⟨HA2.out.take k6, by rw [List.length_take, HN2.out]; omega, by omega, HF2.out.take k6, by omega⟩
  have HQX12 : Hid (QIn w A0 k12 c0 (S.take k12)) := Lib.hid ⟨HA0.out.take k12, by rw [List.length_take, HN0.out]; omega, by omega, HF0.out.take k12, by omega⟩
  clear ha0 hn0 hf0 hro ha1 hn1 hf1 ha2 hn2 hf2 ha3 hn3 hf3 hrq hqn hp25 hp4 hp5 hk12 hk6 hT1 hT3 q4a q4b
  go_enter Try.func3, Try.ntmps3
  go_upto_region 1 with (fail)
  obtain ⟨g7, v1, hg, hv, hk, hbe⟩ := box_new w 24 #[.int .i64 u, .bool b0, .slice A0 n0 c0]
  rw [← hv, ← hg]
  have HB7 := Lib.hid hk
  have HQO6 := Lib.hid (HQO6.out.up hbe)
  have HQX12 := Lib.hid (HQX12.out.up hbe)
  have HA1 := Lib.hid (HA1.out.up hbe)
  have HA3 := Lib.hid (HA3.out.up hbe)
  have HW := Lib.hid hbe
  clear hg hv hk hbe
  go_wp2_with fail
  refine (awake_any _).mono ?_
  rintro e w2 ⟨rfl, hb⟩
  have HQO6 := Lib.hid (HQO6.out.up hb)
  have HQX12 := Lib.hid (HQX12.out.up hb)
  have HA1 := Lib.hid (HA1.out.up hb)
  have HA3 := Lib.hid (HA3.out.up hb)
  have HB7 := Lib.hid (HB7.out.below hb HB7.out.lt)
  have HW := Lib.hid (below_step HW.out hb)
  clear hb
  go_wp2_with fail
  refine (inew_any room _ qn en HQN.out).mono ?_
  rintro e w3 ⟨rfl, -, hb⟩
  have HQO6 := Lib.hid (HQO6.out.up hb)
  have HQX12 := Lib.hid (HQX12.out.up hb)
  have HA1 := Lib.hid (HA1.out.up hb)
  have HA3 := Lib.hid (HA3.out.up hb)
  have HB7 := Lib.hid (HB7.out.below hb HB7.out.lt)
  have HW := Lib.hid (below_step HW.out hb)
  clear hb
  go_upto_region 3 with (fail)
  obtain ⟨g16, v4, hg, hv, hk, hbe⟩ := box_new w3 24 #[.int .i64 qn.room, .bool qn.closed, .slice none 0 0]
  rw [← hv, ← hg]
  have HB16 := Lib.hid hk
  have HQO6 := Lib.hid (HQO6.out.up hbe)
  have HQX12 := Lib.hid (HQX12.out.up hbe)
  have HA1 := Lib.hid (HA1.out.up hbe)
  have HA3 := Lib.hid (HA3.out.up hbe)
  have HB7 := Lib.hid (HB7.out.below hbe HB7.out.lt)
  have HW := Lib.hid (below_step HW.out hbe)
  clear hg hv hk hbe
  go_wp2_with fail
  refine (rnew_any room _ qn en HQN.out).mono ?_
  rintro e w5 ⟨rfl, -, hb⟩
  have HQO6 := Lib.hid (HQO6.out.up hb)
  have HQX12 := Lib.hid (HQX12.out.up hb)
  have HA1 := Lib.hid (HA1.out.up hb)
  have HA3 := Lib.hid (HA3.out.up hb)
  have HB7 := Lib.hid (HB7.out.below hb HB7.out.lt)
  have HB16 := Lib.hid (HB16.out.below hb HB16.out.lt)
  have HW := Lib.hid (below_step HW.out hb)
  clear hb
  go_upto_region 4 with (fail)
  obtain ⟨g18, v6, hg, hv, hk, hbe⟩ := box_new w5 24 #[.int .i64 qn.room, .bool qn.closed, .slice none 0 0]
  rw [← hv, ← hg]
  have HB18 := Lib.hid hk
  have HQO6 := Lib.hid (HQO6.out.up hbe)
  have HQX12 := Lib.hid (HQX12.out.up hbe)
  have HA1 := Lib.hid (HA1.out.up hbe)
  have HA3 := Lib.hid (HA3.out.up hbe)
  have HB7 := Lib.hid (HB7.out.below hbe HB7.out.lt)
  have HB16 := Lib.hid (HB16.out.below hbe HB16.out.lt)
  have HW := Lib.hid (below_step HW.out hbe)
  clear hg hv hk hbe
  obtain ⟨y0, y1, y2⟩ := blk3 HB16.out
  obtain ⟨z0, z1, z2⟩ := blk3 HB18.out
  go_wp2_with fail
  refine (rsame_any qn.room qn.room qn.closed qn.closed none none [] [] 0 0 0 0 true (decide_eq_true rfl) _ RowAt.nil RowAt.nil rfl rfl (by decide) (by decide)).mono ?_
  rintro e w7 ⟨rfl, hb⟩
  have HQO6 := Lib.hid (HQO6.out.up hb)
  have HQX12 := Lib.hid (HQX12.out.up hb)
  have HA1 := Lib.hid (HA1.out.up hb)
  have HA3 := Lib.hid (HA3.out.up hb)
  have HB7 := Lib.hid (HB7.out.below hb HB7.out.lt)
  have HB16 := Lib.hid (HB16.out.below hb HB16.out.lt)
  have HB18 := Lib.hid (HB18.out.below hb HB18.out.lt)
  have HW := Lib.hid (below_step HW.out hb)
  clear hb y0 y1 y2 z0 z1 z2
  clear HB16 HB18
  obtain ⟨y0, y1, y2⟩ := blk3 HB7.out
  go_upto_region 7 with (fail)
  have HWA := HW
  have HQO6A := HQO6
  have HQX12A := HQX12
  have HA1A := HA1
  have HA3A := HA3
  obtain ⟨g20, v8, hg, hv, hk, hbe⟩ := box_new w7 24 #[.int .i64 u, .bool b0, .slice A0 n0 c0]
  rw [← hv, ← hg]
  have hge20 : w7.heap.size ≤ g20 := by omega
  have HBA := Lib.hid hbe
  have HB20 := Lib.hid hk
  have HQO6 := Lib.hid (HQO6.out.up hbe)
  have HQX12 := Lib.hid (HQX12.out.up hbe)
  have HA1 := Lib.hid (HA1.out.up hbe)
  have HA3 := Lib.hid (HA3.out.up hbe)
  have HB7 := Lib.hid (HB7.out.below hbe HB7.out.lt)
  have HW := Lib.hid (below_step HW.out hbe)
  clear hg hv hk hbe
  clear y0 y1 y2
  obtain ⟨y0, y1, y2⟩ := blk3 HB7.out
  obtain ⟨z0, z1, z2⟩ := blk3 HB20.out
  have q2 := Blk.frozen HB20.out 2
  have hmin := HK12.out
  have hc0a : ¬ (c0 : Int) < k12 := by omega
  have hc0b : (k12 : Int) ≤ c0 := by omega
  go_upto_region 8 with (fail)
  have hg20 : w7.heap.size ≤ g20 := hge20
  obtain ⟨v9, hv⟩ : ∃ v, v = v8.setCell ⟨g20, 2, none⟩ (.slice A0 k12 c0) := ⟨_, rfl⟩
  rw [← hv]
  have hk : Blk v9 g20 24 #[.int .i64 u, .bool b0, .slice A0 k12 c0] := by rw [hv]; exact HB20.out.set_ 2 _
  have hgr : v8.grownBy v9 (some g20) := by rw [hv]; exact grown_set _ _ _ _
  have hbA : Below w7.heap.size w7 v9 := grown_below HBA.out hgr HBA.out.size hg20
  clear y0 y1 y2 z0 z1 z2 q2 hmin hc0a hc0b hv hgr hg20
  have HB20 := Lib.hid hk
  have HQO6 := Lib.hid (HQO6A.out.up hbA)
  have HQX12 := Lib.hid (HQX12A.out.up hbA)
  have HA1 := Lib.hid (HA1A.out.up hbA)
  have HA3 := Lib.hid (HA3A.out.up hbA)
  have HW := Lib.hid (below_step HWA.out hbA)
  clear hk hbA
  go_wp2_with fail
  refine (pick16_v room 25 p25 HP25.out _ HRO.out (by omega) (by omega)).mono ?_
  rintro e w' ⟨rfl, rfl⟩
  go_wp2_with fail
  refine (tasks_any A1 L1 n1 c1 _ HA1.out HN1.out HF1.out).mono ?_
  rintro e w10 ⟨Ar, nr, cr, rfl, hnr, hcr, hot⟩
  rw [HT1.out] at hnr hot
  have hb := hot.2
  have HQO6 := Lib.hid (HQO6.out.up hb)
  have HQX12 := Lib.hid (HQX12.out.up hb)
  have HA1 := Lib.hid (HA1.out.up hb)
  have HA3 := Lib.hid (HA3.out.up hb)
  have HB20 := Lib.hid (HB20.out.below hb HB20.out.lt)
  have HW := Lib.hid (below_step HW.out hb)
  have hnr20 : nr ≤ 20 := by rw [← hnr]; exact HT120.out
  have HQR : Hid (QIn w10 Ar nr cr T1) := Lib.hid ⟨OwnR.at_ tk_len hot hnr, hnr, hcr, HFT1.out, by omega⟩
  clear hnr hcr hot hb
  go_upto_region 9 with (fail)
  obtain ⟨g21, v11, hg, hv, hk, hbe⟩ := box_new w10 24 #[.int .i64 p25, .bool cl, .slice Ar nr cr]
  rw [← hv, ← hg]
  have HB21 := Lib.hid hk
  have HQO6 := Lib.hid (HQO6.out.up hbe)
  have HQX12 := Lib.hid (HQX12.out.up hbe)
  have HA3 := Lib.hid (HA3.out.up hbe)
  have HB20 := Lib.hid (HB20.out.below hbe HB20.out.lt)
  have HQR := Lib.hid (HQR.out.up hbe)
  have HW := Lib.hid (below_step HW.out hbe)
  clear hg hv hk hbe
  obtain ⟨y0, y1, y2⟩ := blk3 HB21.out
  go_upto_region 10 with (fail)
  have HWB := HW
  have HQO6B := HQO6
  have HQX12B := HQX12
  have HA3B := HA3
  have HB20B := HB20
  have HQRB := HQR
  have HB21B := HB21
  obtain ⟨g22, vF, hg, hv, hk, hbe⟩ := box_new v11 24 #[.int .i64 p25, .bool cl, .slice Ar nr cr]
  rw [← hv, ← hg]
  have HB22 := Lib.hid hk
  have HBB := Lib.hid hbe
  have HG22 : Hid (v11.heap.size ≤ g22) := Lib.hid (by omega)
  clear hg hv hk hbe y0 y1 y2
  obtain ⟨fr, hfr⟩ : ∃ fr : Int, (nr : Int) + (p4 : Int) = fr := ⟨_, rfl⟩
  have HFR : Hid (IntKind.i64.wrap ((nr : Int) + (p4 : Int)) = fr) := Lib.hid (by rw [IntWalk.i64_in _ (by omega)]; exact hfr)
  clear hfr
  have HO10 : Hid (∀ W, Below v11.heap.size v11 W → Blk W g21 24 #[.int .i64 p25, .bool cl, .slice Ar nr cr]) := Lib.hid fun W hW => HB21B.out.below hW HB21B.out.lt
  go_cut [] (fun wx => Blk wx g22 24 #[.int .i64 fr, .bool cl, .slice Ar nr cr] ∧ Below v11.heap.size v11 wx)
  case first =>
    refine wp_region_noPanic ?_
    refine wp_region_held_drew (S := fun W => Below v11.heap.size v11 W) (by kernel_rfl) (HBB.out.drew) (fun hS0 => ?_)
    change wpAnyH _ _ _ _ _ 8 #[false, false, false, false, false, false, false, false] _ (World.drew _)
    refine wpAnyH_take (i := 0) (v := .pointer (some ⟨g21, 2, none⟩)) rfl (by kernel_rfl) (by kernel_rfl) (by kernel_rfl) (fun _ _ _ h => h) (Or.inl ⟨by rfl, fun w' hS' => by go_simp⟩) hS0 ?_
    change wpAnyH _ _ _ _ _ _ _ (Act.put _ (some 87) (.pointer (some ⟨g21, 2, none⟩))) _
    simp only [Act.put, List.setIfInBounds_toArray, List.set_cons_zero, List.set_cons_succ]
    refine wpAnyH_take (i := 1) (v := .slice Ar nr cr) rfl (by kernel_rfl) (by kernel_rfl) (by kernel_rfl) (fun _ _ _ h => h) (Or.inl ⟨by rfl, fun w' hS' => by obtain ⟨y0, y1, y2⟩ := blk3 (HO10.out w' hS'); go_simp⟩) hS0 ?_
    change wpAnyH _ _ _ _ _ _ _ (Act.put _ (some 88) (.slice Ar nr cr)) _
    simp only [Act.put, List.setIfInBounds_toArray, List.set_cons_zero, List.set_cons_succ]
    refine wpAnyH_take (i := 2) (v := .int .i64 (nr : Int)) rfl (by kernel_rfl) (by kernel_rfl) (by kernel_rfl) (fun _ _ _ h => h) (Or.inl ⟨by rfl, fun w' hS' => by go_simp⟩) hS0 ?_
    change wpAnyH _ _ _ _ _ _ _ (Act.put _ (some 89) (.int .i64 (nr : Int))) _
    simp only [Act.put, List.setIfInBounds_toArray, List.set_cons_zero, List.set_cons_succ]
    refine wpAnyH_take (i := 3) (v := .int .i64 room) rfl (by kernel_rfl) (by kernel_rfl) (by kernel_rfl) (fun _ _ _ h => h) (Or.inl ⟨by rfl, fun w' hS' => by go_simp⟩) hS0 ?_
    change wpAnyH _ _ _ _ _ _ _ (Act.put _ (some 90) (.int .i64 room)) _
    simp only [Act.put, List.setIfInBounds_toArray, List.set_cons_zero, List.set_cons_succ]
    refine wpAnyH_ready (rs := [4]) (by kernel_rfl) (by simp) (AllReadyH.cons rfl (fun K hK => ?_) (AllReadyH.nil))
    · skip
      go_simp
      refine (pick16_v room 4 p4 HP4.out _ HRO.out (by omega) (by omega)).mono ?_
      rintro e W ⟨rfl, rfl⟩
      refine hK.out _ _ hS0 (fun hS1 => ?_)
      clear hK K
      simp only [List.setIfInBounds_toArray, List.set_cons_zero, List.set_cons_succ]
      refine wpAnyH_take (i := 5) (v := .int .i64 fr) rfl (by kernel_rfl) (by kernel_rfl) (by kernel_rfl) (fun _ _ _ h => h) (Or.inl ⟨by rfl, fun w' hS' => by have hwr := HFR.out; go_simp; try exact hwr⟩) hS1 ?_
      change wpAnyH _ _ _ _ _ _ _ (Act.put _ (some 92) (.int .i64 fr)) _
      simp only [Act.put, List.setIfInBounds_toArray, List.set_cons_zero, List.set_cons_succ]
      refine wpAnyH_take (i := 6) (v := .pointer (some ⟨g22, 0, none⟩)) rfl (by kernel_rfl) (by kernel_rfl) (by kernel_rfl) (fun _ _ _ h => h) (Or.inl ⟨by rfl, fun w' hS' => by go_simp⟩) hS1 ?_
      change wpAnyH _ _ _ _ _ _ _ (Act.put _ (some 93) (.pointer (some ⟨g22, 0, none⟩))) _
      simp only [Act.put, List.setIfInBounds_toArray, List.set_cons_zero, List.set_cons_succ]
      refine wpAnyH_ready (rs := [7]) (by kernel_rfl) (by simp) (AllReadyH.cons rfl (fun K hK => ?_) (AllReadyH.nil))
      · skip
        refine step_op_skip (op_storeI (j := 0) (s0 := p25) (s := fr) HB22.out.drew (by rfl) rfl rfl rfl) rfl ?_
        refine hK.out _ _ (hS1.setCell HG22.out _) (fun hS2 => ?_)
        clear hK K
        change wpAnyH _ _ _ _ _ _ _ (Act.put _ none (undef)) _
        simp only [Act.put]
        refine wpAnyH_done (by kernel_rfl) ?_ _
        refine NoPanic.normal ?_
        go_wp2_with fail
        go_meet
        exact ⟨HB22.out.drew.set_ 0 _, hS2⟩
  case rest =>
  obtain ⟨hk, hbC⟩ := hcut
  obtain ⟨v10, rfl⟩ : ∃ w3, w3 = wc := ⟨_, rfl⟩
  have HQO6 := Lib.hid (HQO6B.out.up hbC)
  have HQX12 := Lib.hid (HQX12B.out.up hbC)
  have HA3 := Lib.hid (HA3B.out.up hbC)
  have HB20 := Lib.hid (HB20B.out.below hbC HB20B.out.lt)
  have HQR := Lib.hid (HQRB.out.up hbC)
  have HB21 := Lib.hid (HB21B.out.below hbC HB21B.out.lt)
  have HW := Lib.hid (below_step HWB.out hbC)
  have HB22 := Lib.hid hk
  clear hk hbC HO10
  obtain ⟨y0, y1, y2⟩ := blk3 HB20.out
  obtain ⟨z0, z1, z2⟩ := blk3 HB21.out
  obtain ⟨x0, x1, x2⟩ := blk3 HB22.out
  go_wp2_with fail
  obtain ⟨gL, vL, hg, hv, hk, hbe⟩ := box_new v10 24 #[.int .i64 u, .bool b0, .slice A0 k12 c0, .int .i64 p25, .bool cl, .slice Ar nr cr, .int .i64 fr, .bool cl, .slice Ar nr cr]
  rw [← hv, ← hg]
  have HBL := Lib.hid hk
  have HQO6 := Lib.hid (HQO6.out.up hbe)
  have HQX12 := Lib.hid (HQX12.out.up hbe)
  have HA3 := Lib.hid (HA3.out.up hbe)
  have HB20 := Lib.hid (HB20.out.below hbe HB20.out.lt)
  have HQR := Lib.hid (HQR.out.up hbe)
  have HB21 := Lib.hid (HB21.out.below hbe HB21.out.lt)
  have HB22 := Lib.hid (HB22.out.below hbe HB22.out.lt)
  have HW := Lib.hid (below_step HW.out hbe)
  clear hg hv hk hbe y0 y1 y2 z0 z1 z2 x0 x1 x2
  go_loopw [99] (fun i wr => ∃ j : Nat, j ≤ 3 ∧ i = .int .i64 j ∧ Hid (Below vL.heap.size vL wr)) (fun i _ => 3 - (intOf i).toNat)
  case atStart => exact ⟨0, Nat.zero_le _, rfl, Lib.hid (Below.refl _ _)⟩
  case round =>
    obtain ⟨j, hj, rfl, HV⟩ := hrel
    obtain ⟨y9, rfl⟩ : ∃ w3, w3 = wr := ⟨_, rfl⟩
    by_cases g1 : j < 3
    · have t9 : decide ((j : Int) < 3) = true := decide_eq_true (by omega)
      obtain ⟨r, bq, Aq, nq, cq, Tq, HQ, c0', c1', c2'⟩ : ∃ (r : Int) (bq : Bool) (Aq : Option Addr) (nq cq : Nat) (Tq : List Tk), Hid (QIn y9 Aq nq cq Tq) ∧ y9.cell? ⟨gL, j * 3, none⟩ = some (.int .i64 r) ∧ y9.cell? ⟨gL, j * 3 + 1, none⟩ = some (.bool bq) ∧ y9.cell? ⟨gL, j * 3 + 2, none⟩ = some (.slice Aq nq cq) := by
        have hb := HBL.out.below HV.out HBL.out.lt
        rcases (show j = 0 ∨ j = 1 ∨ j = 2 from by omega) with rfl | rfl | rfl
        · exact ⟨u, b0, A0, k12, c0, S.take k12, Lib.hid (HQX12.out.up HV.out), hb.cell 0, hb.cell 1, hb.cell 2⟩
        · exact ⟨p25, cl, Ar, nr, cr, T1, Lib.hid (HQR.out.up HV.out), hb.cell 3, hb.cell 4, hb.cell 5⟩
        · exact ⟨fr, cl, Ar, nr, cr, T1, Lib.hid (HQR.out.up HV.out), hb.cell 6, hb.cell 7, hb.cell 8⟩
      have hadd := add_zero_block gL (j * 3)
      have HQO6 := Lib.hid (HQO6.out.up HV.out)
      have HA3 := Lib.hid (HA3.out.up HV.out)
      have hq40 := HQ.out.small
      have HJ : Hid (j < 3) := Lib.hid g1
      go_upto_region 14 with (fail)
      obtain ⟨g24, v1, hg, hv, hk, hbe⟩ := box_new y9 24 #[.int .i64 r, .bool bq, .slice Aq nq cq]
      rw [← hv, ← hg]
      have HB24 := Lib.hid hk
      have HQ := Lib.hid (HQ.out.up hbe)
      have HQO6 := Lib.hid (HQO6.out.up hbe)
      have HA3 := Lib.hid (HA3.out.up hbe)
      have HV := Lib.hid (below_step HV.out hbe)
      clear hg hv hk hbe
      clear c0' c1' c2' hadd t9 g1
      have hc2i := hc2
      have HK62 : Hid (¬ (c2 : Int) < (k6 : Int)) := Lib.hid (by omega)
      have HOO : Hid (QIn v1 A2 k6 c2 (O.take k6)) := HQO6
      go_cut [110, 111, 112] (fun s110 s111 s112 wx => ∃ (gM : Nat) (Am : Option Addr) (nm cm : Nat), s110 = .slice (some ⟨gM, 0, none⟩) 2 2 ∧ s111 = .int .i64 2 ∧ s112 = .int .i64 0 ∧ Blk wx gM 22 #[.slice A2 k6 c2, .slice Am nm cm] ∧ QIn wx Am nm cm T3 ∧ Below v1.heap.size v1 wx)
      case first =>
        refine wp_region_noPanic ?_
        refine wp_region_held_drew (S := fun W => Below v1.heap.size v1 W) (by kernel_rfl) ((Below.refl v1.heap.size v1).drew) (fun hS0 => ?_)
        change wpAnyH _ _ _ _ _ 10 #[false, false, false, false, false, false, false, false, false, false] _ (World.drew _)
        refine wpAnyH_take (i := 0) (v := .slice A2 n2 c2) rfl (by kernel_rfl) (by kernel_rfl) (by kernel_rfl) (fun _ _ _ h => h) (Or.inl ⟨by rfl, fun w' hS' => by go_simp⟩) hS0 ?_
        change wpAnyH _ _ _ _ _ _ _ (Act.put _ (some 103) (.slice A2 n2 c2)) _
        simp only [Act.put, List.setIfInBounds_toArray, List.set_cons_zero, List.set_cons_succ]
        refine wpAnyH_take (i := 1) (v := .slice A2 n2 c2) rfl (by kernel_rfl) (by kernel_rfl) (by kernel_rfl) (fun _ _ _ h => h) (Or.inl ⟨by rfl, fun w' hS' => by go_simp⟩) hS0 ?_
        change wpAnyH _ _ _ _ _ _ _ (Act.put _ (some 104) (.slice A2 n2 c2)) _
        simp only [Act.put, List.setIfInBounds_toArray, List.set_cons_zero, List.set_cons_succ]
        refine wpAnyH_take (i := 2) (v := .int .i64 (n2 : Int)) rfl (by kernel_rfl) (by kernel_rfl) (by kernel_rfl) (fun _ _ _ h => h) (Or.inl ⟨by rfl, fun w' hS' => by go_simp⟩) hS0 ?_
        change wpAnyH _ _ _ _ _ _ _ (Act.put _ (some 105) (.int .i64 (n2 : Int))) _
        simp only [Act.put, List.setIfInBounds_toArray, List.set_cons_zero, List.set_cons_succ]
        refine wpAnyH_take (i := 3) (v := .int .i64 (k6 : Int)) rfl (by kernel_rfl) (by kernel_rfl) (by kernel_rfl) (fun _ _ _ h => h) (Or.inl ⟨by rfl, fun w' hS' => by have hmin := HK6.out; go_simp; try exact hmin⟩) hS0 ?_
        change wpAnyH _ _ _ _ _ _ _ (Act.put _ (some 106) (.int .i64 (k6 : Int))) _
        simp only [Act.put, List.setIfInBounds_toArray, List.set_cons_zero, List.set_cons_succ]
        refine wpAnyH_take (i := 4) (v := .slice A2 k6 c2) rfl (by kernel_rfl) (by kernel_rfl) (by kernel_rfl) (fun _ _ _ h => h) (Or.inl ⟨by rfl, fun w' hS' => by have hh := HK62.out; have h2 := HC2.out; go_simp; try (intro h; exact absurd h (by omega))⟩) hS0 ?_
        change wpAnyH _ _ _ _ _ _ _ (Act.put _ (some 107) (.slice A2 k6 c2)) _
        simp only [Act.put, List.setIfInBounds_toArray, List.set_cons_zero, List.set_cons_succ]
        refine wpAnyH_take (i := 5) (v := .slice A3 n3 c3) rfl (by kernel_rfl) (by kernel_rfl) (by kernel_rfl) (fun _ _ _ h => h) (Or.inl ⟨by rfl, fun w' hS' => by go_simp⟩) hS0 ?_
        change wpAnyH _ _ _ _ _ _ _ (Act.put _ (some 108) (.slice A3 n3 c3)) _
        simp only [Act.put, List.setIfInBounds_toArray, List.set_cons_zero, List.set_cons_succ]
        refine wpAnyH_take (i := 9) (v := .int .i64 0) rfl (by kernel_rfl) (by kernel_rfl) (by kernel_rfl) (fun _ _ _ h => h) (Or.inl ⟨by rfl, fun w' hS' => by go_simp⟩) hS0 ?_
        change wpAnyH _ _ _ _ _ _ _ (Act.put _ (some 112) (.int .i64 0)) _
        simp only [Act.put, List.setIfInBounds_toArray, List.set_cons_zero, List.set_cons_succ]
        refine wpAnyH_ready (rs := [6]) (by kernel_rfl) (by simp) (AllReadyH.cons rfl (fun K hK => ?_) (AllReadyH.nil))
        · skip
          go_simp
          refine (tasks_any A3 L3 n3 c3 _ (HA3.out.up hS0) HN3.out HF3.out).mono ?_
          rintro e W6 ⟨Am, nm, cm, rfl, hnm, hcm, hom⟩
          rw [HT3.out] at hnm hom
          have hb6 := hom.2
          refine hK.out _ _ (hS0.trans (hb6.mono hS0.size)) (fun hS6 => ?_)
          clear hK K
          simp only [List.setIfInBounds_toArray, List.set_cons_zero, List.set_cons_succ]
          refine wpAnyH_ready (rs := [7]) (by kernel_rfl) (by simp) (AllReadyH.cons rfl (fun K hK => ?_) (AllReadyH.nil))
          · skip
            obtain ⟨gM, W7, hr7, hk7, hb7⟩ := op_lists2 A2 k6 c2 Am nm cm W6
            refine step_op_run (hr7 _ _ _ _ rfl rfl rfl) rfl ?_
            refine hK.out _ _ (hS6.trans (hb7.mono hS6.size)) (fun hS7 => ?_)
            clear hK K
            change wpAnyH _ _ _ _ _ _ _ (Act.put _ (some 110) (.slice (some ⟨gM, 0, none⟩) 2 2)) _
            simp only [Act.put, List.setIfInBounds_toArray, List.set_cons_zero, List.set_cons_succ]
            refine wpAnyH_take (i := 8) (v := .int .i64 2) rfl (by kernel_rfl) (by kernel_rfl) (by kernel_rfl) (fun _ _ _ h => h) (Or.inl ⟨by rfl, fun w' hS' => by go_simp⟩) hS7 ?_
            change wpAnyH _ _ _ _ _ _ _ (Act.put _ (some 111) (.int .i64 2)) _
            simp only [Act.put, List.setIfInBounds_toArray, List.set_cons_zero, List.set_cons_succ]
            refine wpAnyH_done (by kernel_rfl) ?_ _
            refine NoPanic.normal ?_
            go_wp2_with fail
            go_meet
            have hnm20 : nm ≤ 20 := by rw [← hnm]; exact HT320.out
            exact ⟨gM, Am, nm, cm, rfl, rfl, rfl, hk7, ⟨(OwnR.at_ tk_len hom hnm).up hb7, hnm, hcm, HFT3.out, by omega⟩, hS7⟩
      case rest =>
      obtain ⟨gM, Am, nm, cm, rfl, rfl, rfl, hk, hqm, hb⟩ := hcut
      have HQ := Lib.hid (HQ.out.up hb)
      have HQO6 := Lib.hid (HQO6.out.up hb)
      have HB24 := Lib.hid (HB24.out.below hb HB24.out.lt)
      have HV := Lib.hid (below_step HV.out hb)
      obtain ⟨vM, rfl⟩ : ∃ w3, w3 = wc := ⟨_, rfl⟩
      have HBM := Lib.hid hk
      have HQM := Lib.hid hqm
      clear hk hqm hb HOO hc2i
      go_wp2_with fail
      go_loopw [112] (fun i wr => ∃ j2 : Nat, j2 ≤ 2 ∧ i = .int .i64 j2 ∧ Hid (Below vM.heap.size vM wr)) (fun i _ => 2 - (intOf i).toNat)
      case atStart => exact ⟨0, Nat.zero_le _, rfl, Lib.hid (Below.refl _ _)⟩
      case round =>
        obtain ⟨j2, hj2, rfl, HU⟩ := hrel
        obtain ⟨z9, rfl⟩ : ∃ w3, w3 = wr := ⟨_, rfl⟩
        have HQ := Lib.hid (HQ.out.up HU.out)
        have HB24 := Lib.hid (HB24.out.below HU.out HB24.out.lt)
        by_cases g2 : j2 < 2
        · have t9 : decide ((j2 : Int) < 2) = true := decide_eq_true (by omega)
          obtain ⟨Al, nl, cl', Tl, HQL, c0'⟩ : ∃ (Al : Option Addr) (nl cl' : Nat) (Tl : List Tk), Hid (QIn z9 Al nl cl' Tl) ∧ z9.cell? ⟨gM, j2, none⟩ = some (.slice Al nl cl') := by
            have hb := HBM.out.below HU.out HBM.out.lt
            rcases (show j2 = 0 ∨ j2 = 1 from by omega) with rfl | rfl
            · exact ⟨A2, k6, c2, O.take k6, Lib.hid (HQO6.out.up HU.out), hb.cell 0⟩
            · exact ⟨Am, nm, cm, T3, Lib.hid (HQM.out.up HU.out), hb.cell 1⟩
          have hadd := add_zero_block gM j2
          obtain ⟨k0, ⟨r1, b1, X1⟩, e1, hp⟩ : ∃ k0 q1 e1, putQ ⟨r, bq, Tq⟩ Tl = (k0, q1, e1) := ⟨_, _, _, rfl⟩
          have HP := Lib.hid hp
          have HX1 : Hid (X1.length ≤ 80) := Lib.hid (by have := put_small hp; have h1 := HQ.out.len; have h2 := HQL.out.len; have h3 := HQ.out.small; have h4 := HQL.out.small; simp only at this; omega)
          clear hp
          obtain ⟨y0, y1, y2⟩ := blk3 HB24.out
          go_wp2_with fail
          refine (iput_any r bq Tq Tl Aq Al nq cq nl cl' _ k0 r1 b1 X1 e1 HP.out HQ.out.row HQ.out.len HQ.out.cap HQ.out.fit HQL.out.row HQL.out.len HQL.out.cap HQL.out.fit).mono ?_
          rintro e w1 ⟨Ap, np, cp, rfl, hn, hc, ha, hb⟩
          have HQ := Lib.hid (HQ.out.up hb)
          have HQL := Lib.hid (HQL.out.up hb)
          have HB24 := Lib.hid (HB24.out.below hb HB24.out.lt)
          have HU := Lib.hid (below_step HU.out hb)
          have HNp := Lib.hid hn
          have HAp := Lib.hid ha.at_
          clear hn hc ha hb y0 y1 y2
          clear c0' hadd t9
          go_upto_region 18 with (fail)
          obtain ⟨g28, v2, hg, hv, hk, hbe⟩ := box_new w1 24 #[.int .i64 r1, .bool b1, .slice Ap np cp]
          rw [← hv, ← hg]
          have HB28 := Lib.hid hk
          have HQ := Lib.hid (HQ.out.up hbe)
          have HQL := Lib.hid (HQL.out.up hbe)
          have HB24 := Lib.hid (HB24.out.below hbe HB24.out.lt)
          have HAp := Lib.hid (HAp.out.up hbe)
          have HU := Lib.hid (below_step HU.out hbe)
          clear hg hv hk hbe
          obtain ⟨y0, y1, y2⟩ := blk3 HB24.out
          go_wp2_with fail
          refine (rput_any r bq Tq Tl Aq Al nq cq nl cl' _ k0 r1 b1 X1 e1 HP.out HQ.out.row HQ.out.len HQL.out.row HQL.out.len).mono ?_
          rintro e w3 ⟨Aq_, nq_, cq_, rfl, hn, hc, ha, hb⟩
          have HQ := Lib.hid (HQ.out.up hb)
          have HQL := Lib.hid (HQL.out.up hb)
          have HB24 := Lib.hid (HB24.out.below hb HB24.out.lt)
          have HAp := Lib.hid (HAp.out.up hb)
          have HB28 := Lib.hid (HB28.out.below hb HB28.out.lt)
          have HU := Lib.hid (below_step HU.out hb)
          have HNq_ := Lib.hid hn
          have HAq_ := Lib.hid ha
          clear hn hc ha hb y0 y1 y2
          go_upto_region 19 with (fail)
          obtain ⟨g31, v4, hg, hv, hk, hbe⟩ := box_new w3 24 #[.int .i64 r1, .bool b1, .slice Aq_ nq_ cq_]
          rw [← hv, ← hg]
          have HB31 := Lib.hid hk
          have HQ := Lib.hid (HQ.out.up hbe)
          have HQL := Lib.hid (HQL.out.up hbe)
          have HB24 := Lib.hid (HB24.out.below hbe HB24.out.lt)
          have HAp := Lib.hid (HAp.out.up hbe)
          have HB28 := Lib.hid (HB28.out.below hbe HB28.out.lt)
          have HAq_ := Lib.hid (HAq_.out.up hbe)
          have HU := Lib.hid (below_step HU.out hbe)
          clear hg hv hk hbe
          obtain ⟨y0, y1, y2⟩ := blk3 HB28.out
          obtain ⟨z0, z1, z2⟩ := blk3 HB31.out
          go_wp2_with fail
          refine (rsame_any r1 r1 b1 b1 Ap Aq_ X1 X1 np nq_ cp cq_ true (decide_eq_true rfl) _ HAp.out HAq_.out HNp.out HNq_.out (by rw [← HNp.out]; have := HX1.out; omega) (by rw [← HNq_.out]; have := HX1.out; omega)).mono ?_
          rintro e w5 ⟨rfl, hb⟩
          have HU := Lib.hid (below_step HU.out hb)
          clear hb y0 y1 y2 z0 z1 z2
          go_wp2_with fail
          go_roundw
          case rel => exact ⟨j2 + 1, by omega, by go_num, HU⟩
          case measure => simp [intOf]; omega
        · obtain rfl : j2 = 2 := by omega
          have t9 : decide (((2 : Nat) : Int) < 2) = false := decide_eq_false (by omega)
          have t8 : decide ((2 : Int) < 2) = false := decide_eq_false (by omega)
          have HV2 := Lib.hid (below_step HV.out HU.out)
          have hq40 := HQ.out.small
          have HQS := Lib.hid HQ.out.small
          obtain ⟨x1, ⟨r1, b1, X1⟩, e1, hp⟩ : ∃ k0 q1 e1, takeQ ⟨r, bq, Tq⟩ = (k0, q1, e1) := ⟨_, _, _, rfl⟩
          have HP := Lib.hid hp
          have HX1 : Hid (X1.length ≤ 40) := Lib.hid (by have := take_small hp; have h1 := HQ.out.len; have h3 := HQ.out.small; simp only at this; omega)
          clear hp
          obtain ⟨⟨r2, b2, X2⟩, e2, hp⟩ : ∃ q1 e1, closeQ ⟨r, bq, Tq⟩ = (q1, e1) := ⟨_, _, rfl⟩
          have HPC := Lib.hid hp
          have HX2 : Hid (X2.length ≤ 40) := Lib.hid (by have := close_small hp; have h1 := HQ.out.len; have h3 := HQ.out.small; simp only at this; omega)
          clear hp
          obtain ⟨br, hbr⟩ : ∃ br, rightB ⟨r, bq, Tq⟩ = br := ⟨_, rfl⟩
          have HBR := Lib.hid hbr
          clear hbr
          obtain ⟨y0, y1, y2⟩ := blk3 HB24.out
          go_wp2_with fail
          refine (itake_any r bq Tq Aq nq cq _ x1 r1 b1 X1 e1 HP.out HQ.out.row HQ.out.len HQ.out.cap HQ.out.fit).mono ?_
          rintro e w1 ⟨At, nt, ct, rfl, hn, hc, ha, hb⟩
          have HQ := Lib.hid (HQ.out.up hb)
          have HB24 := Lib.hid (HB24.out.below hb HB24.out.lt)
          have HV2 := Lib.hid (below_step HV2.out hb)
          have HNt := Lib.hid hn
          have HAt := Lib.hid ha.at_
          clear hn hc ha hb y0 y1 y2
          clear t9 t8
          go_upto_region 23 with (fail)
          obtain ⟨g33, g34, v2, hg1, hg2, hv, hk1, hk2, hbe, -⟩ := box_two w1 39 #[.int .i64 x1.req, .int .i64 x1.slot, .string x1.left, .string x1.right] 24 #[.int .i64 r1, .bool b1, .slice At nt ct]
          rw [← hv, ← hg2, ← hg1]
          have HB33 := Lib.hid hk1
          have HB34 := Lib.hid hk2
          have HQ := Lib.hid (HQ.out.up hbe)
          have HB24 := Lib.hid (HB24.out.below hbe HB24.out.lt)
          have HAt := Lib.hid (HAt.out.up hbe)
          have HV2 := Lib.hid (below_step HV2.out hbe)
          clear hg1 hg2 hv hk1 hk2 hbe
          obtain ⟨y0, y1, y2⟩ := blk3 HB24.out
          go_wp2_with fail
          refine (rtake_any r bq Tq Aq nq cq _ x1 r1 b1 X1 e1 HP.out HQ.out.row HQ.out.len HQ.out.cap).mono ?_
          rintro e w3 ⟨As, ns, cs, rfl, hn, hc, ha, hb⟩
          have HQ := Lib.hid (HQ.out.up hb)
          have HB24 := Lib.hid (HB24.out.below hb HB24.out.lt)
          have HAt := Lib.hid (HAt.out.up hb)
          have HB33 := Lib.hid (HB33.out.below hb HB33.out.lt)
          have HB34 := Lib.hid (HB34.out.below hb HB34.out.lt)
          have HV2 := Lib.hid (below_step HV2.out hb)
          have HNs := Lib.hid hn
          have HAs := Lib.hid ha
          clear hn hc ha hb y0 y1 y2
          go_upto_region 24 with (fail)
          obtain ⟨g36, g37, v4, hg1, hg2, hv, hk1, hk2, hbe, -⟩ := box_two w3 39 #[.int .i64 x1.req, .int .i64 x1.slot, .string x1.left, .string x1.right] 24 #[.int .i64 r1, .bool b1, .slice As ns cs]
          rw [← hv, ← hg2, ← hg1]
          have HB36 := Lib.hid hk1
          have HB37 := Lib.hid hk2
          have HQ := Lib.hid (HQ.out.up hbe)
          have HB24 := Lib.hid (HB24.out.below hbe HB24.out.lt)
          have HAt := Lib.hid (HAt.out.up hbe)
          have HB33 := Lib.hid (HB33.out.below hbe HB33.out.lt)
          have HB34 := Lib.hid (HB34.out.below hbe HB34.out.lt)
          have HAs := Lib.hid (HAs.out.up hbe)
          have HV2 := Lib.hid (below_step HV2.out hbe)
          clear hg1 hg2 hv hk1 hk2 hbe
          obtain ⟨y0, y1, y2⟩ := blk3 HB24.out
          go_wp2_with fail
          refine (iclose_any r bq Tq Aq nq cq _ r2 b2 X2 e2 HPC.out HQ.out.row HQ.out.len HQ.out.fit).mono ?_
          rintro e w5 ⟨Ax, nx, cx, rfl, hn, hc, ha, hb⟩
          have HQ := Lib.hid (HQ.out.up hb)
          have HB24 := Lib.hid (HB24.out.below hb HB24.out.lt)
          have HAt := Lib.hid (HAt.out.up hb)
          have HB33 := Lib.hid (HB33.out.below hb HB33.out.lt)
          have HB34 := Lib.hid (HB34.out.below hb HB34.out.lt)
          have HAs := Lib.hid (HAs.out.up hb)
          have HB36 := Lib.hid (HB36.out.below hb HB36.out.lt)
          have HB37 := Lib.hid (HB37.out.below hb HB37.out.lt)
          have HV2 := Lib.hid (below_step HV2.out hb)
          have HNx := Lib.hid hn
          have HAx := Lib.hid ha.at_
          clear hn hc ha hb y0 y1 y2
          go_upto_region 25 with (fail)
          obtain ⟨g39, v6, hg, hv, hk, hbe⟩ := box_new w5 24 #[.int .i64 r2, .bool b2, .slice Ax nx cx]
          rw [← hv, ← hg]
          have HB39 := Lib.hid hk
          have HQ := Lib.hid (HQ.out.up hbe)
          have HB24 := Lib.hid (HB24.out.below hbe HB24.out.lt)
          have HAt := Lib.hid (HAt.out.up hbe)
          have HB33 := Lib.hid (HB33.out.below hbe HB33.out.lt)
          have HB34 := Lib.hid (HB34.out.below hbe HB34.out.lt)
          have HAs := Lib.hid (HAs.out.up hbe)
          have HB36 := Lib.hid (HB36.out.below hbe HB36.out.lt)
          have HB37 := Lib.hid (HB37.out.below hbe HB37.out.lt)
          have HAx := Lib.hid (HAx.out.up hbe)
          have HV2 := Lib.hid (below_step HV2.out hbe)
          clear hg hv hk hbe
          obtain ⟨y0, y1, y2⟩ := blk3 HB24.out
          go_wp2_with fail
          refine (rclose_any r bq Tq Aq nq cq _ r2 b2 X2 e2 HPC.out HQ.out.row HQ.out.len HQ.out.cap).mono ?_
          rintro e w7 ⟨Ay, ny, cy, rfl, hn, hc, ha, hb⟩
          have HQ := Lib.hid (HQ.out.up hb)
          have HB24 := Lib.hid (HB24.out.below hb HB24.out.lt)
          have HAt := Lib.hid (HAt.out.up hb)
          have HB33 := Lib.hid (HB33.out.below hb HB33.out.lt)
          have HB34 := Lib.hid (HB34.out.below hb HB34.out.lt)
          have HAs := Lib.hid (HAs.out.up hb)
          have HB36 := Lib.hid (HB36.out.below hb HB36.out.lt)
          have HB37 := Lib.hid (HB37.out.below hb HB37.out.lt)
          have HAx := Lib.hid (HAx.out.up hb)
          have HB39 := Lib.hid (HB39.out.below hb HB39.out.lt)
          have HV2 := Lib.hid (below_step HV2.out hb)
          have HNy := Lib.hid hn
          have HAy := Lib.hid ha
          clear hn hc ha hb y0 y1 y2
          go_upto_region 26 with (fail)
          obtain ⟨g41, v8, hg, hv, hk, hbe⟩ := box_new w7 24 #[.int .i64 r2, .bool b2, .slice Ay ny cy]
          rw [← hv, ← hg]
          have HB41 := Lib.hid hk
          have HQ := Lib.hid (HQ.out.up hbe)
          have HB24 := Lib.hid (HB24.out.below hbe HB24.out.lt)
          have HAt := Lib.hid (HAt.out.up hbe)
          have HB33 := Lib.hid (HB33.out.below hbe HB33.out.lt)
          have HB34 := Lib.hid (HB34.out.below hbe HB34.out.lt)
          have HAs := Lib.hid (HAs.out.up hbe)
          have HB36 := Lib.hid (HB36.out.below hbe HB36.out.lt)
          have HB37 := Lib.hid (HB37.out.below hbe HB37.out.lt)
          have HAx := Lib.hid (HAx.out.up hbe)
          have HB39 := Lib.hid (HB39.out.below hbe HB39.out.lt)
          have HAy := Lib.hid (HAy.out.up hbe)
          have HV2 := Lib.hid (below_step HV2.out hbe)
          clear hg hv hk hbe
          have H33 : Hid (∀ W, Below v8.heap.size v8 W → Blk W g33 39 #[.int .i64 x1.req, .int .i64 x1.slot, .string x1.left, .string x1.right]) := Lib.hid fun W hW => HB33.out.below hW HB33.out.lt
          have H36 : Hid (∀ W, Below v8.heap.size v8 W → Blk W g36 39 #[.int .i64 x1.req, .int .i64 x1.slot, .string x1.left, .string x1.right]) := Lib.hid fun W hW => HB36.out.below hW HB36.out.lt
          have H34 : Hid (∀ W, Below v8.heap.size v8 W → Blk W g34 24 #[.int .i64 r1, .bool b1, .slice At nt ct]) := Lib.hid fun W hW => HB34.out.below hW HB34.out.lt
          have H37 : Hid (∀ W, Below v8.heap.size v8 W → Blk W g37 24 #[.int .i64 r1, .bool b1, .slice As ns cs]) := Lib.hid fun W hW => HB37.out.below hW HB37.out.lt
          have H39 : Hid (∀ W, Below v8.heap.size v8 W → Blk W g39 24 #[.int .i64 r2, .bool b2, .slice Ax nx cx]) := Lib.hid fun W hW => HB39.out.below hW HB39.out.lt
          have H41 : Hid (∀ W, Below v8.heap.size v8 W → Blk W g41 24 #[.int .i64 r2, .bool b2, .slice Ay ny cy]) := Lib.hid fun W hW => HB41.out.below hW HB41.out.lt
          have H24 : Hid (∀ W, Below v8.heap.size v8 W → Blk W g24 24 #[.int .i64 r, .bool bq, .slice Aq nq cq]) := Lib.hid fun W hW => HB24.out.below hW HB24.out.lt
          go_cut [198] (fun s198 wx => s198 = .bool false ∧ Below v8.heap.size v8 wx)
          case first =>
            refine wp_region_noPanic ?_
            refine wp_region_held_drew (S := fun W => Below v8.heap.size v8 W) (by kernel_rfl) ((Below.refl v8.heap.size v8).drew) (fun hS0 => ?_)
            change wpAnyH _ _ _ _ _ 32 #[false, false, false, false, false, false, false, false, false, false, false, false, false, false, false, false, false, false, false, false, false, false, false, false, false, false, false, false, false, false, false, false] _ (World.drew _)
            refine wpAnyH_take (i := 0) (v := .agg #[.int .i64 x1.req, .int .i64 x1.slot, .string x1.left, .string x1.right]) rfl (by kernel_rfl) (by kernel_rfl) (by kernel_rfl) (fun _ _ _ h => h) (Or.inl ⟨by rfl, fun w' hS' => by obtain ⟨c0, c1, c2, c3⟩ := blk4 (H33.out w' hS'); go_simp⟩) hS0 ?_
            change wpAnyH _ _ _ _ _ _ _ (Act.put _ (some 167) (.agg #[.int .i64 x1.req, .int .i64 x1.slot, .string x1.left, .string x1.right])) _
            simp only [Act.put, List.setIfInBounds_toArray, List.set_cons_zero, List.set_cons_succ]
            refine wpAnyH_take (i := 1) (v := .agg #[.int .i64 x1.req, .int .i64 x1.slot, .string x1.left, .string x1.right]) rfl (by kernel_rfl) (by kernel_rfl) (by kernel_rfl) (fun _ _ _ h => h) (Or.inl ⟨by rfl, fun w' hS' => by obtain ⟨c0, c1, c2, c3⟩ := blk4 (H36.out w' hS'); go_simp⟩) hS0 ?_
            change wpAnyH _ _ _ _ _ _ _ (Act.put _ (some 168) (.agg #[.int .i64 x1.req, .int .i64 x1.slot, .string x1.left, .string x1.right])) _
            simp only [Act.put, List.setIfInBounds_toArray, List.set_cons_zero, List.set_cons_succ]
            refine wpAnyH_take (i := 2) (v := .bool false) rfl (by kernel_rfl) (by kernel_rfl) (by kernel_rfl) (fun _ _ _ h => h) (Or.inl ⟨by rfl, fun w' hS' => by go_simp⟩) hS0 ?_
            change wpAnyH _ _ _ _ _ _ _ (Act.put _ (some 169) (.bool false)) _
            simp only [Act.put, List.setIfInBounds_toArray, List.set_cons_zero, List.set_cons_succ]
            refine wpAnyH_take (i := 3) (v := .bool false) rfl (by kernel_rfl) (by kernel_rfl) (by kernel_rfl) (fun _ _ _ h => h) (Or.inl ⟨by rfl, fun w' hS' => by go_simp⟩) hS0 ?_
            change wpAnyH _ _ _ _ _ _ _ (Act.put _ (some 170) (.bool false)) _
            simp only [Act.put, List.setIfInBounds_toArray, List.set_cons_zero, List.set_cons_succ]
            refine wpAnyH_take (i := 4) (v := .int .i64 e1) rfl (by kernel_rfl) (by kernel_rfl) (by kernel_rfl) (fun _ _ _ h => h) (Or.inl ⟨by rfl, fun w' hS' => by go_simp⟩) hS0 ?_
            change wpAnyH _ _ _ _ _ _ _ (Act.put _ (some 171) (.int .i64 e1)) _
            simp only [Act.put, List.setIfInBounds_toArray, List.set_cons_zero, List.set_cons_succ]
            refine wpAnyH_take (i := 5) (v := .int .i64 e1) rfl (by kernel_rfl) (by kernel_rfl) (by kernel_rfl) (fun _ _ _ h => h) (Or.inl ⟨by rfl, fun w' hS' => by go_simp⟩) hS0 ?_
            change wpAnyH _ _ _ _ _ _ _ (Act.put _ (some 172) (.int .i64 e1)) _
            simp only [Act.put, List.setIfInBounds_toArray, List.set_cons_zero, List.set_cons_succ]
            refine wpAnyH_take (i := 6) (v := .bool false) rfl (by kernel_rfl) (by kernel_rfl) (by kernel_rfl) (fun _ _ _ h => h) (Or.inl ⟨by rfl, fun w' hS' => by go_simp⟩) hS0 ?_
            change wpAnyH _ _ _ _ _ _ _ (Act.put _ (some 173) (.bool false)) _
            simp only [Act.put, List.setIfInBounds_toArray, List.set_cons_zero, List.set_cons_succ]
            refine wpAnyH_take (i := 7) (v := .bool false) rfl (by kernel_rfl) (by kernel_rfl) (by kernel_rfl) (fun _ _ _ h => h) (Or.inl ⟨by rfl, fun w' hS' => by go_simp⟩) hS0 ?_
            change wpAnyH _ _ _ _ _ _ _ (Act.put _ (some 174) (.bool false)) _
            simp only [Act.put, List.setIfInBounds_toArray, List.set_cons_zero, List.set_cons_succ]
            refine wpAnyH_take (i := 8) (v := .bool false) rfl (by kernel_rfl) (by kernel_rfl) (by kernel_rfl) (fun _ _ _ h => h) (Or.inl ⟨by rfl, fun w' hS' => by go_simp⟩) hS0 ?_
            change wpAnyH _ _ _ _ _ _ _ (Act.put _ (some 175) (.bool false)) _
            simp only [Act.put, List.setIfInBounds_toArray, List.set_cons_zero, List.set_cons_succ]
            refine wpAnyH_take (i := 9) (v := .agg #[.int .i64 r1, .bool b1, .slice At nt ct]) rfl (by kernel_rfl) (by kernel_rfl) (by kernel_rfl) (fun _ _ _ h => h) (Or.inl ⟨by rfl, fun w' hS' => by obtain ⟨c0, c1, c2⟩ := blk3 (H34.out w' hS'); go_simp⟩) hS0 ?_
            change wpAnyH _ _ _ _ _ _ _ (Act.put _ (some 176) (.agg #[.int .i64 r1, .bool b1, .slice At nt ct])) _
            simp only [Act.put, List.setIfInBounds_toArray, List.set_cons_zero, List.set_cons_succ]
            refine wpAnyH_take (i := 10) (v := .agg #[.int .i64 r1, .bool b1, .slice As ns cs]) rfl (by kernel_rfl) (by kernel_rfl) (by kernel_rfl) (fun _ _ _ h => h) (Or.inl ⟨by rfl, fun w' hS' => by obtain ⟨c0, c1, c2⟩ := blk3 (H37.out w' hS'); go_simp⟩) hS0 ?_
            change wpAnyH _ _ _ _ _ _ _ (Act.put _ (some 177) (.agg #[.int .i64 r1, .bool b1, .slice As ns cs])) _
            simp only [Act.put, List.setIfInBounds_toArray, List.set_cons_zero, List.set_cons_succ]
            refine wpAnyH_ready (rs := [11]) (by kernel_rfl) (by simp) (AllReadyH.cons rfl (fun K hK => ?_) (AllReadyH.nil))
            · skip
              go_simp
              refine (rsame_any r1 r1 b1 b1 At As X1 X1 nt ns ct cs true (decide_eq_true rfl) _ (HAt.out.up hS0) (HAs.out.up hS0) HNt.out HNs.out (by rw [← HNt.out]; have := HX1.out; omega) (by rw [← HNs.out]; have := HX1.out; omega)).mono ?_
              rintro e W2 ⟨rfl, hb3⟩
              refine hK.out _ _ (hS0.trans (hb3.mono hS0.size)) (fun hS1 => ?_)
              clear hK K
              simp only [List.setIfInBounds_toArray, List.set_cons_zero, List.set_cons_succ]
              refine wpAnyH_take (i := 12) (v := .bool false) rfl (by kernel_rfl) (by kernel_rfl) (by kernel_rfl) (fun _ _ _ h => h) (Or.inl ⟨by rfl, fun w' hS' => by go_simp⟩) hS1 ?_
              change wpAnyH _ _ _ _ _ _ _ (Act.put _ (some 179) (.bool false)) _
              simp only [Act.put, List.setIfInBounds_toArray, List.set_cons_zero, List.set_cons_succ]
              refine wpAnyH_take (i := 13) (v := .bool false) rfl (by kernel_rfl) (by kernel_rfl) (by kernel_rfl) (fun _ _ _ h => h) (Or.inl ⟨by rfl, fun w' hS' => by go_simp⟩) hS1 ?_
              change wpAnyH _ _ _ _ _ _ _ (Act.put _ (some 180) (.bool false)) _
              simp only [Act.put, List.setIfInBounds_toArray, List.set_cons_zero, List.set_cons_succ]
              refine wpAnyH_take (i := 14) (v := .bool false) rfl (by kernel_rfl) (by kernel_rfl) (by kernel_rfl) (fun _ _ _ h => h) (Or.inl ⟨by rfl, fun w' hS' => by go_simp⟩) hS1 ?_
              change wpAnyH _ _ _ _ _ _ _ (Act.put _ (some 181) (.bool false)) _
              simp only [Act.put, List.setIfInBounds_toArray, List.set_cons_zero, List.set_cons_succ]
              refine wpAnyH_take (i := 15) (v := .int .i64 e2) rfl (by kernel_rfl) (by kernel_rfl) (by kernel_rfl) (fun _ _ _ h => h) (Or.inl ⟨by rfl, fun w' hS' => by go_simp⟩) hS1 ?_
              change wpAnyH _ _ _ _ _ _ _ (Act.put _ (some 182) (.int .i64 e2)) _
              simp only [Act.put, List.setIfInBounds_toArray, List.set_cons_zero, List.set_cons_succ]
              refine wpAnyH_take (i := 16) (v := .int .i64 e2) rfl (by kernel_rfl) (by kernel_rfl) (by kernel_rfl) (fun _ _ _ h => h) (Or.inl ⟨by rfl, fun w' hS' => by go_simp⟩) hS1 ?_
              change wpAnyH _ _ _ _ _ _ _ (Act.put _ (some 183) (.int .i64 e2)) _
              simp only [Act.put, List.setIfInBounds_toArray, List.set_cons_zero, List.set_cons_succ]
              refine wpAnyH_take (i := 17) (v := .bool false) rfl (by kernel_rfl) (by kernel_rfl) (by kernel_rfl) (fun _ _ _ h => h) (Or.inl ⟨by rfl, fun w' hS' => by go_simp⟩) hS1 ?_
              change wpAnyH _ _ _ _ _ _ _ (Act.put _ (some 184) (.bool false)) _
              simp only [Act.put, List.setIfInBounds_toArray, List.set_cons_zero, List.set_cons_succ]
              refine wpAnyH_take (i := 18) (v := .bool false) rfl (by kernel_rfl) (by kernel_rfl) (by kernel_rfl) (fun _ _ _ h => h) (Or.inl ⟨by rfl, fun w' hS' => by go_simp⟩) hS1 ?_
              change wpAnyH _ _ _ _ _ _ _ (Act.put _ (some 185) (.bool false)) _
              simp only [Act.put, List.setIfInBounds_toArray, List.set_cons_zero, List.set_cons_succ]
              refine wpAnyH_take (i := 19) (v := .bool false) rfl (by kernel_rfl) (by kernel_rfl) (by kernel_rfl) (fun _ _ _ h => h) (Or.inl ⟨by rfl, fun w' hS' => by go_simp⟩) hS1 ?_
              change wpAnyH _ _ _ _ _ _ _ (Act.put _ (some 186) (.bool false)) _
              simp only [Act.put, List.setIfInBounds_toArray, List.set_cons_zero, List.set_cons_succ]
              refine wpAnyH_take (i := 20) (v := .agg #[.int .i64 r2, .bool b2, .slice Ax nx cx]) rfl (by kernel_rfl) (by kernel_rfl) (by kernel_rfl) (fun _ _ _ h => h) (Or.inl ⟨by rfl, fun w' hS' => by obtain ⟨c0, c1, c2⟩ := blk3 (H39.out w' hS'); go_simp⟩) hS1 ?_
              change wpAnyH _ _ _ _ _ _ _ (Act.put _ (some 187) (.agg #[.int .i64 r2, .bool b2, .slice Ax nx cx])) _
              simp only [Act.put, List.setIfInBounds_toArray, List.set_cons_zero, List.set_cons_succ]
              refine wpAnyH_take (i := 21) (v := .agg #[.int .i64 r2, .bool b2, .slice Ay ny cy]) rfl (by kernel_rfl) (by kernel_rfl) (by kernel_rfl) (fun _ _ _ h => h) (Or.inl ⟨by rfl, fun w' hS' => by obtain ⟨c0, c1, c2⟩ := blk3 (H41.out w' hS'); go_simp⟩) hS1 ?_
              change wpAnyH _ _ _ _ _ _ _ (Act.put _ (some 188) (.agg #[.int .i64 r2, .bool b2, .slice Ay ny cy])) _
              simp only [Act.put, List.setIfInBounds_toArray, List.set_cons_zero, List.set_cons_succ]
              refine wpAnyH_ready (rs := [22]) (by kernel_rfl) (by simp) (AllReadyH.cons rfl (fun K hK => ?_) (AllReadyH.nil))
              · skip
                go_simp
                refine (rsame_any r2 r2 b2 b2 Ax Ay X2 X2 nx ny cx cy true (decide_eq_true rfl) _ (HAx.out.up hS1) (HAy.out.up hS1) HNx.out HNy.out (by rw [← HNx.out]; have := HX2.out; omega) (by rw [← HNy.out]; have := HX2.out; omega)).mono ?_
                rintro e W5 ⟨rfl, hb6⟩
                refine hK.out _ _ (hS1.trans (hb6.mono hS1.size)) (fun hS4 => ?_)
                clear hK K
                simp only [List.setIfInBounds_toArray, List.set_cons_zero, List.set_cons_succ]
                refine wpAnyH_take (i := 23) (v := .bool false) rfl (by kernel_rfl) (by kernel_rfl) (by kernel_rfl) (fun _ _ _ h => h) (Or.inl ⟨by rfl, fun w' hS' => by go_simp⟩) hS4 ?_
                change wpAnyH _ _ _ _ _ _ _ (Act.put _ (some 190) (.bool false)) _
                simp only [Act.put, List.setIfInBounds_toArray, List.set_cons_zero, List.set_cons_succ]
                refine wpAnyH_take (i := 24) (v := .bool false) rfl (by kernel_rfl) (by kernel_rfl) (by kernel_rfl) (fun _ _ _ h => h) (Or.inl ⟨by rfl, fun w' hS' => by go_simp⟩) hS4 ?_
                change wpAnyH _ _ _ _ _ _ _ (Act.put _ (some 191) (.bool false)) _
                simp only [Act.put, List.setIfInBounds_toArray, List.set_cons_zero, List.set_cons_succ]
                refine wpAnyH_take (i := 25) (v := .bool false) rfl (by kernel_rfl) (by kernel_rfl) (by kernel_rfl) (fun _ _ _ h => h) (Or.inl ⟨by rfl, fun w' hS' => by go_simp⟩) hS4 ?_
                change wpAnyH _ _ _ _ _ _ _ (Act.put _ (some 192) (.bool false)) _
                simp only [Act.put, List.setIfInBounds_toArray, List.set_cons_zero, List.set_cons_succ]
                refine wpAnyH_take (i := 26) (v := .agg #[.int .i64 r, .bool bq, .slice Aq nq cq]) rfl (by kernel_rfl) (by kernel_rfl) (by kernel_rfl) (fun _ _ _ h => h) (Or.inl ⟨by rfl, fun w' hS' => by obtain ⟨c0, c1, c2⟩ := blk3 (H24.out w' hS'); go_simp⟩) hS4 ?_
                change wpAnyH _ _ _ _ _ _ _ (Act.put _ (some 193) (.agg #[.int .i64 r, .bool bq, .slice Aq nq cq])) _
                simp only [Act.put, List.setIfInBounds_toArray, List.set_cons_zero, List.set_cons_succ]
                refine wpAnyH_take (i := 28) (v := .agg #[.int .i64 r, .bool bq, .slice Aq nq cq]) rfl (by kernel_rfl) (by kernel_rfl) (by kernel_rfl) (fun _ _ _ h => h) (Or.inl ⟨by rfl, fun w' hS' => by obtain ⟨c0, c1, c2⟩ := blk3 (H24.out w' hS'); go_simp⟩) hS4 ?_
                change wpAnyH _ _ _ _ _ _ _ (Act.put _ (some 195) (.agg #[.int .i64 r, .bool bq, .slice Aq nq cq])) _
                simp only [Act.put, List.setIfInBounds_toArray, List.set_cons_zero, List.set_cons_succ]
                refine wpAnyH_ready (rs := [27]) (by kernel_rfl) (by simp) (AllReadyH.cons rfl (fun K hK => ?_) (AllReadyH.nil))
                · skip
                  go_simp
                  refine (iright_any r bq Tq Aq nq cq br HBR.out _ HQ.out.len).mono ?_
                  rintro e W8 ⟨rfl, hb9⟩
                  refine hK.out _ _ (hS4.trans (hb9.mono hS4.size)) (fun hS7 => ?_)
                  clear hK K
                  simp only [List.setIfInBounds_toArray, List.set_cons_zero, List.set_cons_succ]
                  refine wpAnyH_ready (rs := [29]) (by kernel_rfl) (by simp) (AllReadyH.cons rfl (fun K hK => ?_) (AllReadyH.nil))
                  · skip
                    go_simp
                    refine (rright_any r bq Tq Aq nq cq br HBR.out _ HQ.out.len).mono ?_
                    rintro e W11 ⟨rfl, hb12⟩
                    refine hK.out _ _ (hS7.trans (hb12.mono hS7.size)) (fun hS10 => ?_)
                    clear hK K
                    simp only [List.setIfInBounds_toArray, List.set_cons_zero, List.set_cons_succ]
                    refine wpAnyH_take (i := 30) (v := .bool false) rfl (by kernel_rfl) (by kernel_rfl) (by kernel_rfl) (fun _ _ _ h => h) (Or.inl ⟨by rfl, fun w' hS' => by go_simp⟩) hS10 ?_
                    change wpAnyH _ _ _ _ _ _ _ (Act.put _ (some 197) (.bool false)) _
                    simp only [Act.put, List.setIfInBounds_toArray, List.set_cons_zero, List.set_cons_succ]
                    refine wpAnyH_take (i := 31) (v := .bool false) rfl (by kernel_rfl) (by kernel_rfl) (by kernel_rfl) (fun _ _ _ h => h) (Or.inl ⟨by rfl, fun w' hS' => by go_simp⟩) hS10 ?_
                    change wpAnyH _ _ _ _ _ _ _ (Act.put _ (some 198) (.bool false)) _
                    simp only [Act.put, List.setIfInBounds_toArray, List.set_cons_zero, List.set_cons_succ]
                    refine wpAnyH_done (by kernel_rfl) ?_ _
                    refine NoPanic.normal ?_
                    go_wp2_with fail
                    go_meet
                    exact ⟨rfl, hS10⟩
          case rest =>
          obtain ⟨rfl, hb⟩ := hcut
          have HQ := Lib.hid (HQ.out.up hb)
          have HB24 := Lib.hid (HB24.out.below hb HB24.out.lt)
          have HV2 := Lib.hid (below_step HV2.out hb)
          obtain ⟨v27, rfl⟩ : ∃ w3, w3 = wc := ⟨_, rfl⟩
          clear hb H33 H34 H36 H37 H39 H41 H24 HB33 HB34 HB36 HB37 HB39 HB41 HAt HAs HAx HAy HNt HNs HNx HNy HX1 HX2 HP HPC HBR
          go_wp2_with fail
          refine (pick16_v req 5 p5 HP5.out _ HRQ.out (by omega) (by omega)).mono ?_
          rintro e w' ⟨rfl, rfl⟩
          go_wp2_with fail
          obtain ⟨gI, vI, hg, hv, hk, hbe⟩ := box_new v27 3 #[.int .i64 req, .int .i64 p5]
          rw [← hv, ← hg]
          have HBI := Lib.hid hk
          have HQ := Lib.hid (HQ.out.up hbe)
          have HB24 := Lib.hid (HB24.out.below hbe HB24.out.lt)
          have HV2 := Lib.hid (below_step HV2.out hbe)
          clear hg hv hk hbe
          go_loopw [204] (fun i wr => ∃ j3 : Nat, j3 ≤ 2 ∧ i = .int .i64 j3 ∧ Hid (Below vI.heap.size vI wr)) (fun i _ => 2 - (intOf i).toNat)
          case atStart => exact ⟨0, Nat.zero_le _, rfl, Lib.hid (Below.refl _ _)⟩
          case round =>
            obtain ⟨j3, hj3, rfl, HZ⟩ := hrel
            obtain ⟨u9, rfl⟩ : ∃ w3, w3 = wr := ⟨_, rfl⟩
            by_cases g3 : j3 < 2
            · have t9 : decide ((j3 : Int) < 2) = true := decide_eq_true (by omega)
              obtain ⟨kr, c0'⟩ : ∃ kr : Int, u9.cell? ⟨gI, j3, none⟩ = some (.int .i64 kr) := by
                have hb := HBI.out.below HZ.out HBI.out.lt
                rcases (show j3 = 0 ∨ j3 = 1 from by omega) with rfl | rfl
                · exact ⟨req, hb.cell 0⟩
                · exact ⟨p5, hb.cell 1⟩
              have hadd := add_zero_block gI j3
              have HQ := Lib.hid (HQ.out.up HZ.out)
              have HB24 := Lib.hid (HB24.out.below HZ.out HB24.out.lt)
              obtain ⟨k0, ⟨r1, b1, X1⟩, e1, hp⟩ : ∃ k0 q1 e1, dropQ ⟨r, bq, Tq⟩ kr = (k0, q1, e1) := ⟨_, _, _, rfl⟩
              have HP := Lib.hid hp
              have HX1 : Hid (X1.length ≤ 40) := Lib.hid (by have := drop_small hp; have h1 := HQ.out.len; have h3 := HQ.out.small; simp only at this; omega)
              clear hp
              obtain ⟨y0, y1, y2⟩ := blk3 HB24.out
              go_wp2_with fail
              refine (idrop_any r bq Tq Aq nq cq kr _ k0 r1 b1 X1 e1 HP.out HQ.out.row HQ.out.len HQ.out.cap HQ.out.fit).mono ?_
              rintro e w1 ⟨Ad, nd, cd, rfl, hn, hc, ha, hb⟩
              have HQ := Lib.hid (HQ.out.up hb)
              have HB24 := Lib.hid (HB24.out.below hb HB24.out.lt)
              have HZ := Lib.hid (below_step HZ.out hb)
              have HNd := Lib.hid hn
              have HAd := Lib.hid ha.at_
              clear hn hc ha hb y0 y1 y2
              clear c0' hadd t9
              go_upto_region 32 with (fail)
              obtain ⟨g46, v2, hg, hv, hk, hbe⟩ := box_new w1 24 #[.int .i64 r1, .bool b1, .slice Ad nd cd]
              rw [← hv, ← hg]
              have HB46 := Lib.hid hk
              have HQ := Lib.hid (HQ.out.up hbe)
              have HB24 := Lib.hid (HB24.out.below hbe HB24.out.lt)
              have HAd := Lib.hid (HAd.out.up hbe)
              have HZ := Lib.hid (below_step HZ.out hbe)
              clear hg hv hk hbe
              obtain ⟨y0, y1, y2⟩ := blk3 HB24.out
              go_wp2_with fail
              refine (rdrop_any r bq Tq Aq nq cq kr _ k0 r1 b1 X1 e1 HP.out HQ.out.row HQ.out.len).mono ?_
              rintro e w3 ⟨Ae, ne, ce, rfl, hn, hc, ha, hb⟩
              have HQ := Lib.hid (HQ.out.up hb)
              have HB24 := Lib.hid (HB24.out.below hb HB24.out.lt)
              have HAd := Lib.hid (HAd.out.up hb)
              have HB46 := Lib.hid (HB46.out.below hb HB46.out.lt)
              have HZ := Lib.hid (below_step HZ.out hb)
              have HNe := Lib.hid hn
              have HAe := Lib.hid ha
              clear hn hc ha hb y0 y1 y2
              go_upto_region 33 with (fail)
              obtain ⟨g49, v4, hg, hv, hk, hbe⟩ := box_new w3 24 #[.int .i64 r1, .bool b1, .slice Ae ne ce]
              rw [← hv, ← hg]
              have HB49 := Lib.hid hk
              have HQ := Lib.hid (HQ.out.up hbe)
              have HB24 := Lib.hid (HB24.out.below hbe HB24.out.lt)
              have HAd := Lib.hid (HAd.out.up hbe)
              have HB46 := Lib.hid (HB46.out.below hbe HB46.out.lt)
              have HAe := Lib.hid (HAe.out.up hbe)
              have HZ := Lib.hid (below_step HZ.out hbe)
              clear hg hv hk hbe
              obtain ⟨y0, y1, y2⟩ := blk3 HB46.out
              obtain ⟨z0, z1, z2⟩ := blk3 HB49.out
              go_wp2_with fail
              refine (rsame_any r1 r1 b1 b1 Ad Ae X1 X1 nd ne cd ce true (decide_eq_true rfl) _ HAd.out HAe.out HNd.out HNe.out (by rw [← HNd.out]; have := HX1.out; omega) (by rw [← HNe.out]; have := HX1.out; omega)).mono ?_
              rintro e w5 ⟨rfl, hb⟩
              have HZ := Lib.hid (below_step HZ.out hb)
              clear hb y0 y1 y2 z0 z1 z2
              go_wp2_with fail
              go_roundw
              case rel => exact ⟨j3 + 1, by omega, by go_num, HZ⟩
              case measure => simp [intOf]; omega
            · obtain rfl : j3 = 2 := by omega
              have t9 : decide (((2 : Nat) : Int) < 2) = false := decide_eq_false (by omega)
              have t8 : decide ((2 : Int) < 2) = false := decide_eq_false (by omega)
              have HVE := Lib.hid (below_step HV2.out HZ.out)
              have hj3' := HJ.out
              go_wp2_with fail
              go_roundw
              case rel => exact ⟨j + 1, by omega, by go_num, HVE⟩
              case measure => simp [intOf]; omega
    · obtain rfl : j = 3 := by omega
      have t9 : decide (((3 : Nat) : Int) < 3) = false := decide_eq_false (by omega)
      have t8 : decide ((3 : Int) < 3) = false := decide_eq_false (by omega)
      go_wp2_with fail
      go_ret
      exact ⟨rfl, below_step HW.out HV.out⟩

end Go.Proofs.Ytaelenjnjoeheaa
