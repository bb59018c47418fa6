/-
  collatorlaw07.AlikeBest: whatever the raw numbers, it returns true; nothing that was there is changed.
-/
import Derived.Test.YthnjbiojimjlgaaLists
import Derived.Deep.RegionLaw
import Derived.Deep.DeepCutAuto
namespace Go.Proofs.Ythnjbiojimjlgaa
open Go.RowKit
open Al

theorem step_appendL {P : Program} {ops : Array Oper} {o : Oper} {a : Act} {w w' : World} {K : Act → World → Prop} {Q : Exit → Act → World → Prop} {E : Prop} {sl x : Operand} {t ty : TypeId} {v u v' : Value}
    (hgd : o.guard = none) (hop : o.op = Op.call { callee := Callee.builtin Builtin.append, args := #[sl, x], argTypes := #[t, t] }) (hty : o.type = ty) (hs : a.eval sl = v) (hx : a.eval x = u)
    (hrun : (Builtin.append_ #[t, t] ty #[v, u]).run P w = .ok v' w') (h : K (a.put o.dst v') w') : if Region.wanted o (yielded ops a.tmps) = true then Oper.wp P o a w K Q else E := by
  subst hty
  have hw : Region.wanted o (yielded ops a.tmps) = true := by simp [Region.wanted, hgd]
  rw [if_pos hw]
  unfold Oper.wp
  simp [execOp, hop, resolve, invoke, builtin, hs, hx, hrun, Result.andThen]
  exact h
theorem step_appendL2 {P : Program} {ops : Array Oper} {o : Oper} {a : Act} {w w' : World} {K : Act → World → Prop} {Q : Exit → Act → World → Prop} {E : Prop} {sl x : Operand} {t ty : TypeId} {v u v' : Value}
    (hrun : (Builtin.append_ #[t, t] ty #[v, u]).run P w = .ok v' w') (hgd : o.guard = none) (hop : o.op = Op.call { callee := Callee.builtin Builtin.append, args := #[sl, x], argTypes := #[t, t] }) (hty : o.type = ty) (hs : a.eval sl = v) (hx : a.eval x = u)
    (h : K (a.put o.dst v') w') : if Region.wanted o (yielded ops a.tmps) = true then Oper.wp P o a w K Q else E := step_appendL hgd hop hty hs hx hrun h

/-- the lists that the law makes of the first raw ones -/
def bl (R : List (List Int)) (k : Nat) : List (List ByteArray) := (R.take k).map (linesL 20)
theorem bl_length {R : List (List Int)} {k : Nat} (hk : k ≤ R.length) : (bl R k).length = k := by unfold bl; rw [List.length_map, List.length_take]; omega
theorem bl_step {R : List (List Int)} {k : Nat} {zs : List Int} (hz : R[k]? = some zs) : bl R (k + 1) = bl R k ++ [linesL 20 zs] := by
  obtain ⟨hl, rfl⟩ := List.getElem?_eq_some_iff.1 hz
  unfold bl
  rw [List.take_succ_eq_append_getElem hl, List.map_append]
  rfl
theorem bl_fit {R : List (List Int)} {k : Nat} : ∀ X ∈ bl R k, Fit X := by
  intro X hX
  unfold bl at hX
  obtain ⟨zs, _, rfl⟩ := List.mem_map.1 hX
  exact lines_fit (by omega) zs
/-- how the law's first loop stands -/
def BeAt (w2 wr : World) (R : List (List Int)) (k : Nat) (v : Value) : Prop := OwnL w2 wr v (bl R k)
theorem best_nil {a : List ByteArray} {p : Int} {m : Nat} (h : IsBest a [] p m) : p = -1 ∧ m = 0 := h.one (IsBest.none_ a)
/-- what holds of the best one -/
def BestAt (a : List ByteArray) (L : List (List ByteArray)) (j m : Nat) : Prop :=
  (∃ o, L[j]? = some o ∧ m = score a o) ∧ ∀ (q : Nat) X, L[q]? = some X → score a X ≤ m ∧ (score a X = m → j ≤ q)
theorem best_some {a : List ByteArray} {L : List (List ByteArray)} {p : Int} {m : Nat} (h : IsBest a L p m) (hL : L ≠ []) : ∃ j : Nat, p = (j : Int) ∧ j < L.length ∧ BestAt a L j m := by
  rcases h with ⟨rfl, _, _⟩ | ⟨j, rfl, ho, hall⟩
  · exact absurd rfl hL
  · obtain ⟨o, ho1, ho2⟩ := ho
    obtain ⟨hlt, _⟩ := List.getElem?_eq_some_iff.1 ho1
    exact ⟨j, rfl, hlt, ⟨o, ho1, ho2⟩, hall⟩
theorem best_is {a : List ByteArray} {L : List (List ByteArray)} {j m : Nat} (h : BestAt a L j m) : IsBest a L j m := .inr ⟨j, rfl, h.1, h.2⟩

set_option maxHeartbeats 1000000 in
set_option maxRecDepth 100000 in
theorem best_walk (A B : Option Addr) (R : List (List Int)) (ts : List Int) (c d : Nat) (w : World) (ha : Rws w w.heap.size A R) (hb : Ints w w.heap.size B ts) (_ : R.length ≤ 140737488355328) (h2 : ts.length ≤ 140737488355328)
    (hR : ∀ zs ∈ R, zs.length ≤ 9223372036854775807 ∧ ∀ z ∈ zs, -9223372036854775808 ≤ z ∧ z ≤ 9223372036854775807) (ht : ∀ z ∈ ts, -9223372036854775808 ≤ z ∧ z ≤ 9223372036854775807) :
    Calls Try.prog 6 #[.slice A R.length c, .slice B ts.length d] w fun e w' => e = .returned (.bool true) ∧ Below w.heap.size w w' := by
  have HR := Lib.hid hR
  have HT := Lib.hid ht
  clear hR ht
  go_enter Try.func6, Try.ntmps6
  go_wp2_with fail
  refine (awake_any _).mono ?_
  rintro e w1 ⟨rfl, hb1⟩
  go_wp2_with fail
  refine (lines_at 20 20 rfl (by omega) (by omega) _ ts _ _ (hb.up hb1) h2 HT.out).mono ?_
  rintro e w2 ⟨A2, c2, rfl, ho2, hc2, hb2⟩
  replace hb1 := hb1.trans (hb2.mono hb1.size)
  have hl2 := lines_len 20 ts
  have HF2 := Lib.hid (lines_fit (m := 20) (by omega) ts)
  generalize linesL 20 ts = a at *
  clear hb2 hb HT
  go_wp2_with fail
  go_loopw [7, 8] (fun v i wr => ∃ k : Nat, k ≤ R.length ∧ k ≤ 6 ∧ i = .int .i64 k ∧ BeAt w2 wr R k v) (fun _ i _ => 6 - (intOf i).toNat)
  case atStart => exact ⟨0, Nat.zero_le _, by omega, rfl, OwnL.nil w2⟩
  case round =>
    obtain ⟨k, hk1, hk2, rfl, hO⟩ := hrel
    unfold BeAt at hO
    have hkl : (bl R k).length = k := bl_length hk1
    have HKL := Lib.hid hkl
    clear hkl
    by_cases g : k < R.length ∧ k < 6
    · obtain ⟨g1, g2⟩ := g
      obtain ⟨Av, cv, rfl, hcv⟩ := hO.shape
      have hB := hb1.trans (hO.bel.mono hb1.size)
      have g1' : decide (k < R.length) = true := decide_eq_true g1
      have g2' : (k : Int) < 6 := by omega
      obtain ⟨ad, Ax, cx, rfl, hab, hca0, hx0⟩ := (ha.up hB).at_ g1
      obtain ⟨zs, hzs⟩ : ∃ zs, zs = R[k] := ⟨_, rfl⟩
      have hca : wr.cell? (ad.add k) = some (.slice Ax zs.length cx) := by rw [hzs]; exact hca0
      have hx : Ints wr wr.heap.size Ax zs := by rw [hzs]; exact hx0
      obtain ⟨hz1, hz2⟩ := HR.out zs (by rw [hzs]; exact List.getElem_mem _)
      have HZ := Lib.hid hz2
      have HS := Lib.hid (bl_step (at_getD g1 hzs))
      clear hca0 hx0 hzs hz2
      go_wp2_with fail
      refine (lines_any 20 (by omega) (by omega) Ax zs cx _ hx hz1 HZ.out).mono ?_
      rintro e w3 ⟨A3, c3, rfl, ho3, hb3⟩
      have hap : Apart w3 (Value.slice Av (bl R k).length cv).ownBlock A3 (linesL 20 zs) := Apart.new ho3 (fun g hg => by have := (hO.lt g hg).2; omega)
      have hal := (Below.refl w3.heap.size w3).alloc (Nat.le_refl _) (.cells #[.slice A3 (linesL 20 zs).length c3] 22)
      have hO4 := (hO.step hb3).step hal
      have hap4 := hap.below hal
      have hcl : (w3.alloc (.cells #[.slice A3 (linesL 20 zs).length c3] 22)).cell? ⟨w3.heap.size, 0, none⟩ = some (.slice A3 (linesL 20 zs).length c3) := by
        rw [cell_of_row _ w3.heap.size 0 _ 22 (0, 0) (heap_alloc_new w3 _)]
        rfl
      obtain ⟨A5, c5, w5, hr5, hO5⟩ := appendL hO4 ⟨w3.heap.size, 0, none⟩ 1 1 (news := [linesL 20 zs]) rfl (fun j X hj => by
        match j with
        | 0 => injection hj with e; subst e; exact ⟨A3, c3, hcl, hap4⟩
        | j + 1 => simp at hj) (bl R (k + 1)) HS.out (by rw [bl_length (by omega)]; omega)
      have HR5 := Lib.hid hr5
      have HO5 := Lib.hid hO5
      clear hr5 hcl hap4 hap hO5 hO4 hal
      go_wp2_with (at_builtin; refine wpList_append_run (o := ⟨some 35, _, _, _, _, _⟩) rfl rfl (by simp [Region.wanted]) rfl rfl HR5.out ?_)
      go_roundw
      case rel => exact ⟨k + 1, by omega, by omega, by go_num, HO5.out⟩
      case measure => simp [intOf]; omega
    · have hx : decide (k < R.length) = false ∨ (decide (k < R.length) = true ∧ ¬ (k : Int) < 6) := by
        rcases Nat.lt_or_ge k R.length with h | h
        · exact .inr ⟨decide_eq_true h, by omega⟩
        · exact .inl (decide_eq_false (by omega))
      have HFL := Lib.hid (@bl_fit R k)
      obtain ⟨L, hL⟩ : ∃ L, L = bl R k := ⟨_, rfl⟩
      rw [← hL] at hO HFL
      have hLl : L.length ≤ 6 := by rw [hL, HKL.out]; omega
      obtain ⟨Av, cv, rfl, hcv⟩ := hO.shape
      clear g hL HKL HR ha
      rcases hx with hx | ⟨hx, hx6⟩
      all_goals
        go_wp2_with fail
        refine (best_any A2 Av a L c2 cv _ (ho2.up hO.bel) hO.lsts HF2.out (by omega) HFL.out).mono ?_
        rintro e w4 ⟨p, m, hbest, rfl, hb4⟩
        have hO' := hO.step hb4
        have HB := Lib.hid hbest
        clear hbest hx
        by_cases hL0 : L = []
        · subst hL0
          obtain ⟨rfl, rfl⟩ := best_nil HB.out
          go_wp2_with fail
          go_ret
          exact ⟨rfl, hb1.trans (hO'.bel.mono hb1.size)⟩
        · obtain ⟨j, rfl, hj, hbj⟩ := best_some HB.out hL0
          have HJ := Lib.hid hbj
          clear hbj HB
          have e0 : (((L.length : Int) == 0) : Bool) = false := by rw [beq_eq_false_iff_ne]; have := List.length_pos_iff.2 hL0; omega
          have e1 : decide (L.length ≤ j) = false := decide_eq_false (by omega)
          obtain ⟨o, ho, hmo⟩ := HJ.out.1
          obtain ⟨ad, Ax, cx, rfl, hab, hca0, hx0⟩ := hO'.lsts.at_ hj
          obtain ⟨_, ho'⟩ := List.getElem?_eq_some_iff.1 ho
          rw [ho'] at hca0 hx0
          have HM := Lib.hid hmo
          have HFO := Lib.hid (HFL.out o (List.mem_of_getElem? ho))
          clear ho ho' hmo hL0
          go_wp2_with fail
          refine (score_at A2 Ax a o a.length o.length c2 cx (m : Int) _ (ho2.up hO'.bel) hx0 rfl rfl HF2.out HFO.out (by rw [HM.out])).mono ?_
          rintro e w5 ⟨rfl, hb5⟩
          replace hO' := hO'.step hb5
          go_wp2_with fail
          clear e0 e1 hb4 hb5 hca0 hx0 HM HFO hO
          go_loopw [11] (fun i wq => ∃ q : Nat, q ≤ L.length ∧ i = .int .i64 q ∧ OwnL w2 wq (.slice (some ad) L.length cv) L) (fun i _ => L.length - (intOf i).toNat)
          case atStart => exact ⟨0, Nat.zero_le _, rfl, hO'⟩
          case round =>
            obtain ⟨q, hq, rfl, hOq⟩ := hrel
            clear hO'
            by_cases g : q < L.length
            · obtain ⟨ad', Ay, cy, hadd, _, hcy0, hy0⟩ := hOq.lsts.at_ g
              injection hadd with hadd
              subst hadd
              obtain ⟨X, hX⟩ : ∃ X, X = L[q] := ⟨_, rfl⟩
              rw [← hX] at hcy0 hy0
              have HX := Lib.hid (at_getD g hX)
              have HFX := Lib.hid (HFL.out X (List.mem_of_getElem? HX.out))
              obtain ⟨hs1, hs2⟩ := HJ.out.2 q X HX.out
              have f1 : decide (m < score a X) = false := decide_eq_false (by omega)
              clear hX
              by_cases g3 : score a X = m
              · have f2 : (((score a X : Int) == (m : Int)) : Bool) = true := by rw [g3]; simp
                have f3 : decide (q < j) = false := decide_eq_false (by have := hs2 g3; omega)
                clear hs2 g3
                go_wp2_with fail
                refine (score_at A2 Ay a X a.length X.length c2 cy (score a X : Int) _ (ho2.up hOq.bel) hy0 rfl rfl HF2.out HFX.out rfl).mono ?_
                rintro e w6 ⟨rfl, hb6⟩
                go_wp2_with fail
                go_roundw
                case rel => exact ⟨q + 1, by omega, by go_num, hOq.step hb6⟩
                case measure => simp [intOf]; omega
              · have f2 : (((score a X : Int) == (m : Int)) : Bool) = false := by rw [beq_eq_false_iff_ne]; omega
                clear hs2 g3
                go_wp2_with fail
                refine (score_at A2 Ay a X a.length X.length c2 cy (score a X : Int) _ (ho2.up hOq.bel) hy0 rfl rfl HF2.out HFX.out rfl).mono ?_
                rintro e w6 ⟨rfl, hb6⟩
                go_wp2_with fail
                go_roundw
                case rel => exact ⟨q + 1, by omega, by go_num, hOq.step hb6⟩
                case measure => simp [intOf]; omega
            · go_wp2_with fail
              obtain ⟨o, ho, hmo⟩ := HJ.out.1
              obtain ⟨Y, hY⟩ : ∃ Y, Y = L ++ [o] := ⟨_, rfl⟩
              have hYl : Y.length ≤ 7 := by rw [hY, List.length_append]; simp; omega
              have hFY : ∀ X ∈ Y, Fit X := fun X hX => by
                rw [hY] at hX
                rcases List.mem_append.1 hX with h | h
                · exact HFL.out X h
                · simp at h
                  rw [h]
                  exact HFL.out o (List.mem_of_getElem? ho)
              have HFY := Lib.hid hFY
              clear hFY
              have HBY : Hid (IsBest a Y j m) := Lib.hid (by rw [hY]; exact (best_is HJ.out).again (by omega))
              have hOd := hOq.step ((Below.refl wr.heap.size wr).drew)
              obtain ⟨Ao, co, hco, hso⟩ := hOd.lsts.src j o ho
              have hso' := hso.strs
              clear hso
              -- the append first
              obtain ⟨A6, c6, w6, hr6, hO6⟩ := appendL (OwnL.nil wr.drew) ad L.length cv (news := L) rfl hOd.lsts.src L rfl (by omega)
              have hco6 : w6.cell? (ad.add j) = some (.slice Ao o.length co) := (hO6.bel.cell (p := ad.add j) (lt_of_cell hco)).trans hco
              have hal6 := (Below.refl w6.heap.size w6).alloc (Nat.le_refl _) (.cells #[.slice Ao o.length co] 22)
              obtain ⟨A7, c7, w7, hr7, hO7⟩ := appendL (hO6.step hal6) ⟨w6.heap.size, 0, none⟩ 1 1 (news := [o]) rfl (one_src (cell_one w6 _) ((apart_far hO6 hso').below hal6)) Y hY (by omega)
              -- the list first
              have hal8 := (Below.refl wr.drew.heap.size wr.drew).alloc (Nat.le_refl _) (.cells #[.slice Ao o.length co] 22)
              have hO8 := hOd.step hal8
              obtain ⟨A8, c8, w8, hr8, hO8'⟩ := appendL (OwnL.nil (wr.drew.alloc (.cells #[.slice Ao o.length co] 22))) ad L.length cv (news := L) rfl hO8.lsts.src L rfl (by omega)
              have hc8 : w8.cell? ⟨wr.heap.size, 0, none⟩ = some (.slice Ao o.length co) := (hO8'.bel.cell (p := ⟨wr.heap.size, 0, none⟩) (by simp)).trans (cell_one wr.drew _)
              obtain ⟨A9, c9, w9, hr9, hO9⟩ := appendL hO8' ⟨wr.heap.size, 0, none⟩ 1 1 (news := [o]) rfl (one_src hc8 (apart_far hO8' (hso'.up hal8))) Y hY (by omega)
              have HA1 := Lib.hid hr6
              have HA2 := Lib.hid hr7
              have HB1 := Lib.hid hr8
              have HB2 := Lib.hid hr9
              have hLA := hO7.lsts
              have hLB := hO9.lsts
              have hbA := hOd.bel.trans (hO7.bel.mono hOd.bel.size)
              have hbB := hO8.bel.trans (hO9.bel.mono hO8.bel.size)
              have hSA := ho2.up hbA
              have hSB := ho2.up hbB
              have hBA := hb1.trans (hbA.mono hb1.size)
              have hBB := hb1.trans (hbB.mono hb1.size)
              have hcoq : wr.cell? (ad.add j) = some (.slice Ao o.length co) := hco
              clear hr6 hr7 hr8 hr9 hO6 hO7 hO8 hO8' hO9 hal6 hal8 hc8 hOd hY hbA hbB hmo ho hco hso'
              go_cut [13, 14] (fun s13 s14 wx => s13 = .int .i64 (j : Int) ∧ s14 = .int .i64 (m : Int) ∧ Below w.heap.size w wx)
              case first =>
                go_region_law ((first | ((with_reducible refine step_appendL2 HA1.out rfl rfl rfl ?_ ?_ ?_); (focus (simp [Act.eval]; done)); (focus (simp [Act.eval, Act.put]; done))) | ((with_reducible refine step_appendL2 HA2.out rfl rfl rfl ?_ ?_ ?_); (focus (simp [Act.eval]; done)); (focus (simp [Act.eval]; done))) | ((with_reducible refine step_appendL2 HB1.out rfl rfl rfl ?_ ?_ ?_); (focus (simp [Act.eval]; done)); (focus (simp [Act.eval]; done))) | ((with_reducible refine step_appendL2 HB2.out rfl rfl rfl ?_ ?_ ?_); (focus (simp [Act.eval]; done)); (focus (simp [Act.eval]; done))) | (go_simp; refine (best_at A2 _ a Y a.length Y.length c2 _ (j : Int) m (m : Int) _ (by first | exact hSA | exact hSB) (by first | exact hLA | exact hLB) rfl rfl HF2.out (by omega) HFY.out HBY.out rfl).mono ?_; rintro e w10 ⟨rfl, hb10⟩; dsimp only)))
                all_goals
                  go_simp
                  go_wp2_with fail
                  go_meet
                  first
                    | exact ⟨rfl, rfl, hBA.trans (hb10.mono hBA.size)⟩
                    | exact ⟨rfl, rfl, hBB.trans (hb10.mono hBB.size)⟩
              case rest =>
                obtain ⟨rfl, rfl, hbc⟩ := hcut
                go_wp2_with fail
                go_ret
                exact ⟨rfl, hbc⟩

end Go.Proofs.Ythnjbiojimjlgaa
