/-
  collatorlaw07.AlikeTurned: whatever the raw numbers, it returns true; nothing that was there is changed.
-/
import Derived.Test.YthnjbiojimjlgaaAppend
import Derived.Deep.RegionLaw
import Derived.Deep.DeepCutAuto
namespace Go.Proofs.Ythnjbiojimjlgaa
open Go.RowKit
open Al

theorem step_append_run {P : Program} {ops : Array Oper} {o : Oper} {a : Act} {w w' : World} {K : Act → World → Prop} {Q : Exit → Act → World → Prop} {E : Prop} {sl x : Operand} {t ty : TypeId} {v u v' : Value}
    (hgd : o.guard = none) (hop : o.op = Op.call { callee := Callee.builtin Builtin.append, args := #[sl, x], argTypes := #[t, t] }) (hty : o.type = ty) (hs : a.eval sl = v) (hx : a.eval x = u)
    (hrun : (Builtin.append_ #[t, t] ty #[v, u]).run P w = .ok v' w') (h : K (a.put o.dst v') w') : if Region.wanted o (yielded ops a.tmps) = true then Oper.wp P o a w K Q else E := by
  subst hty
  have hw : Region.wanted o (yielded ops a.tmps) = true := by simp [Region.wanted, hgd]
  rw [if_pos hw]
  unfold Oper.wp
  simp [execOp, hop, resolve, invoke, builtin, hs, hx, hrun, Result.andThen]
  exact h
theorem step_append_run2 {P : Program} {ops : Array Oper} {o : Oper} {a : Act} {w w' : World} {K : Act → World → Prop} {Q : Exit → Act → World → Prop} {E : Prop} {sl x : Operand} {t ty : TypeId} {v u v' : Value}
    (hrun : (Builtin.append_ #[t, t] ty #[v, u]).run P w = .ok v' w') (hgd : o.guard = none) (hop : o.op = Op.call { callee := Callee.builtin Builtin.append, args := #[sl, x], argTypes := #[t, t] }) (hty : o.type = ty) (hs : a.eval sl = v) (hx : a.eval x = u)
    (h : K (a.put o.dst v') w') : if Region.wanted o (yielded ops a.tmps) = true then Oper.wp P o a w K Q else E := step_append_run hgd hop hty hs hx hrun h
theorem pick7_at (c n : Int) (r : Nat) (w : World) (hc1 : -9223372036854775808 ≤ c) (hc2 : c ≤ 9223372036854775807) (hn : 0 < n) (hn2 : n ≤ 140737488355328) (hr : pickI c n = (r : Int)) :
    Calls Try.prog 16 #[.int .i64 c, .int .i64 n] w fun e w' => e = .returned (.int .i64 (r : Int)) ∧ w = w' := by
  rw [← hr]
  exact pick7_any c n w hc1 hc2 hn hn2
theorem pick_nat (c : Int) (l : Nat) : ∃ r : Nat, pickI c ((l : Int) + 1) = (r : Int) ∧ r ≤ l := by
  have h := pickI_range c ((l : Int) + 1) (by omega)
  exact ⟨(pickI c ((l : Int) + 1)).toNat, by omega, by omega⟩

/-- a list, turned by so many -/
def rot (l : List ByteArray) (m : Nat) : List ByteArray := l.drop (m % l.length) ++ l.take (m % l.length)
theorem rot_perm (l : List ByteArray) (m : Nat) : (rot l m).Perm l := by
  unfold rot
  have h := List.perm_append_comm (l₁ := l.drop (m % l.length)) (l₂ := l.take (m % l.length))
  rwa [List.take_append_drop] at h
theorem rot_length (l : List ByteArray) (m : Nat) : (rot l m).length = l.length := (rot_perm l m).length_eq
theorem rot_at {l : List ByteArray} {m q : Nat} (hq : q < l.length) (hm : m ≤ l.length) : (rot l m)[q]? = l[(q + m) % l.length]? := by
  unfold rot
  have e : m % l.length = if m = l.length then 0 else m := by
    split
    · next h => rw [h, Nat.mod_self]
    · exact Nat.mod_eq_of_lt (by omega)
  rw [List.getElem?_append, List.length_drop, e]
  split
  · next h =>
    subst h
    rw [if_pos (by omega), List.drop_zero, Nat.add_mod_right, Nat.mod_eq_of_lt hq]
  · next h =>
    by_cases g : q < l.length - m
    · rw [if_pos g, List.getElem?_drop, Nat.mod_eq_of_lt (by omega), Nat.add_comm]
    · rw [if_neg g, List.getElem?_take, if_pos (by omega)]
      have : (q + m) % l.length = q + m - l.length := by rw [Nat.mod_eq_sub_mod (by omega), Nat.mod_eq_of_lt (by omega)]
      rw [this]
      congr 1
      omega
/-- what is there of it, from its end on -/
def rev (l : List ByteArray) (m k : Nat) : List ByteArray := (rot l m).reverse.take k
theorem rev_step {l : List ByteArray} {m q : Nat} {x : ByteArray} (hq : q < l.length) (hm : m ≤ l.length) (hx : l[(q + m) % l.length]? = some x) : rev l m (l.length - q) = rev l m (l.length - 1 - q) ++ [x] := by
  unfold rev
  have e : l.length - q = (l.length - 1 - q) + 1 := by omega
  have hl : l.length - 1 - q < (rot l m).reverse.length := by rw [List.length_reverse, rot_length]; omega
  rw [e, List.take_succ_eq_append_getElem hl, List.getElem_reverse]
  have hr := rot_at hq hm
  rw [hx] at hr
  obtain ⟨_, hr⟩ := List.getElem?_eq_some_iff.1 hr
  congr 2
  rw [← hr]
  congr 1
  rw [rot_length]
  omega
theorem rev_length {l : List ByteArray} {m k : Nat} : (rev l m k).length ≤ l.length := by
  unfold rev
  rw [List.length_take, List.length_reverse, rot_length]
  omega
theorem rev_perm {l : List ByteArray} {m k : Nat} (hk : l.length ≤ k) : (rev l m k).Perm l := by
  unfold rev
  rw [List.take_of_length_le (by rw [List.length_reverse, rot_length]; exact hk)]
  exact (List.reverse_perm _).trans (rot_perm l m)
/-- how the law's loop stands -/
def TuAt (w7 wr : World) (b : List ByteArray) (m : Nat) (z : Int) (v : Value) : Prop := Own w7 wr v (rev b m (((b.length : Int) - 1 - z).toNat))

set_option maxHeartbeats 600000 in
set_option maxRecDepth 100000 in
theorem turned_walk (A B : Option Addr) (zs ts : List Int) (c d : Nat) (x y : Int) (w : World) (ha : Ints w w.heap.size A zs) (hb : Ints w w.heap.size B ts) (h1 : zs.length ≤ 140737488355328) (h2 : ts.length ≤ 140737488355328)
    (hz : ∀ z ∈ zs, -9223372036854775808 ≤ z ∧ z ≤ 9223372036854775807) (ht : ∀ z ∈ ts, -9223372036854775808 ≤ z ∧ z ≤ 9223372036854775807) (hx1 : -9223372036854775808 ≤ x) (hx2 : x ≤ 9223372036854775807) (hy1 : -9223372036854775808 ≤ y) (hy2 : y ≤ 9223372036854775807) :
    Calls Try.prog 4 #[.slice A zs.length c, .slice B ts.length d, .int .i64 x, .int .i64 y] w fun e w' => e = .returned (.bool true) ∧ Below w.heap.size w w' := by
  have HZ := Lib.hid hz
  have HT := Lib.hid ht
  clear hz ht
  go_enter Try.func4, Try.ntmps4
  go_wp2_with fail
  refine (awake_any _).mono ?_
  rintro e w1 ⟨rfl, hb1⟩
  go_wp2_with fail
  refine (lines_at 30 30 rfl (by omega) (by omega) _ zs _ _ (ha.up hb1) h1 HZ.out).mono ?_
  rintro e w2 ⟨A2, c2, rfl, ho2, hc2, hb2⟩
  replace hb1 := hb1.trans (hb2.mono hb1.size)
  go_wp2_with fail
  refine (lines_at 30 30 rfl (by omega) (by omega) _ ts _ _ (hb.up hb1) h2 HT.out).mono ?_
  rintro e w3 ⟨A3, c3, rfl, ho3, hc3, hb3⟩
  replace hb1 := hb1.trans (hb3.mono hb1.size)
  replace ho2 := ho2.up hb3
  have hl2 := lines_len 30 zs
  have hl3 := lines_len 30 ts
  have HF2 := Lib.hid (lines_fit (m := 30) (by omega) zs)
  have HF3 := Lib.hid (lines_fit (m := 30) (by omega) ts)
  generalize linesL 30 zs = a at *
  generalize linesL 30 ts = b at *
  clear hb2 hb3 ha hb HZ HT
  obtain ⟨n, hn, hnl⟩ := pick_nat x a.length
  obtain ⟨m, hm, hml⟩ := pick_nat y b.length
  have HN := Lib.hid hn
  have HM := Lib.hid hm
  clear hn hm
  go_wp2_with fail
  refine (pick7_at _ _ n _ hx1 hx2 (by omega) (by omega) HN.out).mono ?_
  rintro e w' ⟨rfl, rfl⟩
  go_wp2_with fail
  refine (pick7_at _ _ m _ hy1 hy2 (by omega) (by omega) HM.out).mono ?_
  rintro e w' ⟨rfl, rfl⟩
  clear HN HM
  go_wp2_with fail
  obtain ⟨C, hC⟩ : ∃ C, C = a.drop n ++ a.take n := ⟨_, rfl⟩
  have hCl : C.length = a.length := by rw [hC, List.length_append, List.length_drop, List.length_take]; omega
  have hCp : C.Perm a := by
    rw [hC]
    have h := List.perm_append_comm (l₁ := a.drop n) (l₂ := a.take n)
    rwa [List.take_append_drop] at h
  have HCP := Lib.hid hCp
  clear hCp
  have hD := (ho2.drop n c2 hnl hc2).drew
  have hK := (ho2.take n).drew
  obtain ⟨A5, c5, w5, hr5, ho5⟩ := append_own (Own.nil w3.drew) (a.length - n) (c2 - n) hD (by rw [List.length_drop]) (a.drop n) rfl (by rw [List.length_drop]; omega)
  obtain ⟨A6, c6, w6, hr6, ho6⟩ := append_own ho5 n c2 (hK.below ho5.2) (by rw [List.length_take]; omega) C hC (by omega)
  have HR5 := Lib.hid hr5
  have HR6 := Lib.hid hr6
  have hb6 := ho6.2
  have ho2' := ho2.drew.up hb6
  have ho3' := ho3.drew.up hb6
  have hb1' := hb1.drew.trans (hb6.mono hb1.size)
  have hco := ho6.strs
  have hCb : C.length ≤ 30 := by omega
  have hnc : n ≤ c2 := by omega
  rw [List.length_drop] at HR5 HR6
  clear hr5 hr6 ho5 ho6 hC hCl hD hK hb6 ho2 ho3
  go_cut [14] (fun s14 wx => s14 = .slice A6 C.length c6 ∧ wx = w6)
  case first =>
    by_cases hcn : c2 = n
    · subst hcn
      have e0 : a.length - c2 = 0 := by omega
      rw [if_pos rfl, Nat.sub_self, e0] at HR5
      rw [e0] at HR6
      clear e0
      go_region_law ((first | (refine step_append_run2 HR5.out rfl rfl rfl ?_ ?_ ?_; (focus (simp [Act.eval]; done)); (focus (simp [Act.eval, Act.put]; done))) | (refine step_append_run2 HR6.out rfl rfl rfl ?_ ?_ ?_; (focus (simp [Act.eval]; done)); (focus (simp [Act.eval]; done)))))
      all_goals
        go_wp2_with fail
        go_meet
        exact ⟨rfl, rfl⟩
    · rw [if_neg hcn] at HR5
      go_region_law ((first | (refine step_append_run2 HR5.out rfl rfl rfl ?_ ?_ ?_; (focus (simp [Act.eval]; done)); (focus (simp [Act.eval, Act.put]; done))) | (refine step_append_run2 HR6.out rfl rfl rfl ?_ ?_ ?_; (focus (simp [Act.eval]; done)); (focus (simp [Act.eval]; done)))))
      all_goals
        go_wp2_with fail
        go_meet
        exact ⟨rfl, rfl⟩
  case rest =>
  obtain ⟨rfl, rfl⟩ := hcut
  clear HR5 HR6
  go_wp2_with fail
  go_loopw [15, 16] (fun v i wr => ∃ z : Int, -1 ≤ z ∧ z < (b.length : Int) ∧ i = .int .i64 z ∧ TuAt wc wr b m z v) (fun _ i _ => (intOf i + 1).toNat)
  case atStart => exact ⟨(b.length : Int) - 1, by omega, by omega, rfl, by unfold TuAt; rw [show ((b.length : Int) - 1 - ((b.length : Int) - 1)).toNat = 0 by omega]; exact Own.nil wc⟩
  case round =>
    obtain ⟨z, hz1, hz2, rfl, hT⟩ := hrel
    unfold TuAt at hT
    by_cases g1 : 0 ≤ z
    · obtain ⟨q, rfl⟩ : ∃ q : Nat, z = (q : Int) := ⟨z.toNat, by omega⟩
      have hql : q < b.length := by omega
      have hpos : 0 < b.length := by omega
      have hi : (q + m) % b.length < b.length := Nat.mod_lt _ hpos
      obtain ⟨xx, hxx⟩ : ∃ xx, b[(q + m) % b.length]? = some xx := ⟨_, List.getElem?_eq_getElem hi⟩
      have hstep := rev_step hql hml hxx
      rw [show ((b.length : Int) - 1 - (q : Int)).toNat = b.length - 1 - q by omega] at hT
      have hbD : (rev b m (b.length - q)).length ≤ b.length := rev_length
      obtain ⟨Ad, cd, wd, hrd, hod⟩ := append_own (hT.alloc (.cells #[.string xx] 9)) 1 1 (strs_new wr [xx]) rfl (rev b m (b.length - q)) hstep (by omega)
      have HRD := Lib.hid hrd
      have HOD := Lib.hid hod
      obtain ⟨Ao, co, rfl, hco'⟩ := hT.shape
      have ho3r := ho3'.up hT.2
      obtain ⟨ad, rfl, hab, hca0⟩ := ho3r.at_ hi
      obtain ⟨_, hxx'⟩ := List.getElem?_eq_some_iff.1 hxx
      have hca : wr.cell? (ad.add ((q + m) % b.length)) = some (.string xx) := by rw [← hxx']; exact hca0
      have hmod : ((q : Int) + (m : Int)) % (b.length : Int) = (((q + m) % b.length : Nat) : Int) := by simp
      have h0 : (((b.length : Int) == 0) : Bool) = false := by rw [beq_eq_false_iff_ne]; omega
      clear hca0 hxx hxx' hstep hrd hod
      obtain ⟨I, hI⟩ : ∃ I, I = (q + m) % b.length := ⟨_, rfl⟩
      rw [← hI] at hmod hca hi
      clear hI
      go_wp2_with (at_builtin; refine wpList_append_run (o := ⟨some 59, _, _, _, _, _⟩) rfl rfl (by simp [Region.wanted]) rfl rfl HRD.out ?_)
      go_roundw
      case rel => exact ⟨(q : Int) - 1, by omega, by omega, rfl, by unfold TuAt; rw [show ((b.length : Int) - 1 - ((q : Int) - 1)).toNat = b.length - q by omega]; exact HOD.out⟩
      case measure => simp [intOf]
    · obtain ⟨D, hD⟩ : ∃ D, D = rev b m ((b.length : Int) - 1 - z).toNat := ⟨_, rfl⟩
      rw [← hD] at hT
      have hDl : D.length ≤ b.length := by rw [hD]; exact rev_length
      have hDp : D.Perm b := by rw [hD]; exact rev_perm (by omega)
      have HDP := Lib.hid hDp
      clear hDp hD
      obtain ⟨Ad, cd, rfl, hcd⟩ := hT.shape
      have hbx := hT.2
      replace ho2' := ho2'.up hbx
      replace ho3' := ho3'.up hbx
      replace hco := hco.up hbx
      replace hb1' := hb1'.trans (hbx.mono hb1'.size)
      have hdo := hT.strs
      have HFC : Hid (Fit C) := Lib.hid ⟨by omega, fun s hs => HF2.out.2 s (HCP.out.mem_iff.1 hs)⟩
      have HFD : Hid (Fit D) := Lib.hid ⟨by omega, fun s hs => HF3.out.2 s (HDP.out.mem_iff.1 hs)⟩
      have hsc := score_le a b
      have hsc' : decide (score a b ≤ 100) = true := decide_eq_true hsc
      clear hT hbx
      go_wp2_with fail
      refine (score_at A2 A3 a b a.length b.length c2 c3 (score a b : Int) _ ho2' ho3' rfl rfl HF2.out HF3.out rfl).mono ?_
      rintro e v1 ⟨rfl, hbn⟩
      replace ho2' := ho2'.up hbn
      replace ho3' := ho3'.up hbn
      replace hco := hco.up hbn
      replace hdo := hdo.up hbn
      replace hb1' := hb1'.trans (hbn.mono hb1'.size)
      clear hbn
      go_wp2_with fail
      refine (score_at A3 A2 b a b.length a.length c3 c2 (score a b : Int) _ ho3' ho2' rfl rfl HF3.out HF2.out (by rw [score_comm])).mono ?_
      rintro e v2 ⟨rfl, hbn⟩
      replace ho2' := ho2'.up hbn
      replace ho3' := ho3'.up hbn
      replace hco := hco.up hbn
      replace hdo := hdo.up hbn
      replace hb1' := hb1'.trans (hbn.mono hb1'.size)
      clear hbn
      go_wp2_with fail
      refine (score_at A6 Ad C D C.length D.length c6 cd (score a b : Int) _ hco hdo rfl rfl HFC.out HFD.out (by rw [score_perm HCP.out HDP.out])).mono ?_
      rintro e v3 ⟨rfl, hbn⟩
      replace ho2' := ho2'.up hbn
      replace ho3' := ho3'.up hbn
      replace hco := hco.up hbn
      replace hdo := hdo.up hbn
      replace hb1' := hb1'.trans (hbn.mono hb1'.size)
      clear hbn
      go_wp2_with fail
      refine (common_at A2 A3 a b a.length b.length c2 c3 (cm a b : Int) _ ho2' ho3' rfl rfl HF2.out HF3.out rfl).mono ?_
      rintro e v4 ⟨rfl, hbn⟩
      replace ho2' := ho2'.up hbn
      replace ho3' := ho3'.up hbn
      replace hco := hco.up hbn
      replace hdo := hdo.up hbn
      replace hb1' := hb1'.trans (hbn.mono hb1'.size)
      clear hbn
      go_wp2_with fail
      refine (common_at Ad A6 D C D.length C.length cd c6 (cm a b : Int) _ hdo hco rfl rfl HFD.out HFC.out (by rw [cm_perm HDP.out HCP.out, cm_comm])).mono ?_
      rintro e v5 ⟨rfl, hbn⟩
      replace hb1' := hb1'.trans (hbn.mono hb1'.size)
      clear hbn
      go_wp2_with fail
      go_ret
      exact ⟨rfl, hb1'⟩

end Go.Proofs.Ythnjbiojimjlgaa
