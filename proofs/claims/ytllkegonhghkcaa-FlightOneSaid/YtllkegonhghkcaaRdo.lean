/-
  collatorref15.Done tells what doneF says. Nothing that was there is changed.
-/
import Derived.Test.YtllkegonhghkcaaRbe
import Derived.IntWalk
namespace Go.Proofs.Ytllkegonhghkcaa
open Go.RowKit P15

/-- what a Done tells -/
def DonTold (t : List Int × List Fl × Int) (w : World) (e : Ending) (w' : World) : Prop :=
  ∃ (B : Option Addr) (m d : Nat) (A : Option Addr) (n c : Nat), e = .returned (.tuple #[.slice B m d, .slice A n c, .int .i64 t.2.2]) ∧ t.1.length = m ∧ m ≤ d ∧ IntsAt w' B t.1 ∧ t.2.1.length = n ∧ n ≤ c ∧ FillsAt w' A t.2.1 ∧ Below w.heap.size w w'
/-- what is left of a list behind its first ones -/
def fromA (a : Addr) (c k : Nat) : Option Addr := if c = k then some a else some (a.add (k * 4))
theorem op_from {o : Oper} {a : Act} {p q : Nat} {b : Addr} {n c k : Nat} {x : Int} {W : World} (ho : o.op = Op.slice 22 (.tmp p) (some (.tmp q)) none none) (hp : a.eval (.tmp p) = .slice (some b) n c) (hq : a.eval (.tmp q) = .int .i64 x) (hx : x = (k : Int)) (h1 : k ≤ n) (h2 : n ≤ c) :
    (execOp a.eval o).run Try.prog W = .ok (.value (.slice (fromA b c k) (n - k) (c - k))) W := by
  subst hx
  have hp' : a.tmps[p]?.getD undef = .slice (some b) n c := by simpa [Act.eval] using hp
  have hq' : a.tmps[q]?.getD undef = .int .i64 (k : Int) := by simpa [Act.eval] using hq
  have hcell : Try.prog.cellsOf 28 = 4 := by kernel_rfl
  by_cases hk : c = k
  · obtain rfl : n = c := by omega
    subst hk
    simp only [execOp, ho]
    go_simp
    simp [fromA]
  · have hkk : ¬ k = c := fun e => hk e.symm
    simp only [execOp, ho]
    go_simp
    simp [fromA, hk]

set_option maxHeartbeats 4000000 in
set_option maxRecDepth 100000 in
theorem rdone_any (A : Option Addr) (L : List Fl) (n c : Nat) (who : Int) (w : World) (t : List Int × List Fl × Int) (ht : doneF L who = t) (ha : FillsAt w A L) (hn : L.length = n) (hc : n ≤ c) (hf : FitF L) :
    Calls Try.prog 18 #[.slice A n c, .int .i64 who] w (DonTold t w) := by
  subst hn
  obtain ⟨bo, hbo⟩ : ∃ bo, rightB L = bo := ⟨_, rfl⟩
  have HBO := Lib.hid hbo
  have HT := Lib.hid ht
  have HA := Lib.hid ha
  have HF := Lib.hid hf
  have hl := hf.len
  clear hbo ht ha hf
  go_enter Try.func18, Try.ntmps18
  go_wp2_with fail
  refine (rright_any A L L.length c bo HBO.out _ HA.out rfl HF.out).mono ?_
  rintro e w1 ⟨rfl, hb⟩
  have HW1 := Lib.hid hb
  clear hb
  cases bo with
  | false =>
    have HT2 : Hid (t = ([], [], 1)) := Lib.hid (by rw [← HT.out, doneF_wrong HBO.out])
    go_wp2_with fail
    go_ret3
    rw [HT2.out]
    exact ⟨none, 0, 0, none, 0, 0, rfl, rfl, Nat.le_refl _, RowAt.nil, rfl, Nat.le_refl _, FillsAt.nil, HW1.out⟩
  | true =>
    go_wp2_with fail
    go_loopw [8] (fun i wr => ∃ k : Nat, k ≤ L.length ∧ i = .int .i64 k ∧ Hid (who ∉ bys (L.take k)) ∧ Hid (Below w.heap.size w wr)) (fun i _ => L.length - (intOf i).toNat)
    case atStart => exact ⟨0, Nat.zero_le _, rfl, Lib.hid (by simp [bys]), HW1⟩
    case round =>
      obtain ⟨k, hk, rfl, HK, HW⟩ := hrel
      by_cases g1 : k < L.length
      · obtain ⟨x, hx⟩ : ∃ x, L[k]? = some x := ⟨_, List.getElem?_eq_getElem g1⟩
        obtain ⟨a, B, cw, rfl, hal, p0, p1, p2, p3, hi, hcw⟩ := HA.out.at_ hx
        have h2 : wr.cell? ⟨(a.add (k * 4)).block, (a.add (k * 4)).off + 2, none⟩ = some (.int .i64 x.by_) := (HW.out.cell (by rw [add_block]; exact hal)).trans p2
        have HX := Lib.hid hx
        have HI := Lib.hid hi
        obtain ⟨m, hm⟩ : ∃ m, m = x.wait.length := ⟨_, rfl⟩
        have HM := Lib.hid hm
        rw [← hm] at p3 hcw
        have H3 : Hid (∀ W, Below w.heap.size w W → W.cell? ⟨(a.add (k * 4)).block, (a.add (k * 4)).off + 3, none⟩ = some (.slice B m cw)) := Lib.hid fun W hW => (hW.cell (by rw [add_block]; exact hal)).trans p3
        clear hx hi hm p0 p1 p2 p3 hal
        cases t1 : (x.by_ == who) with
        | false =>
          have HK2 : Hid (who ∉ bys (L.take (k + 1))) := Lib.hid (by
            rw [take_snoc HX.out]
            intro h
            obtain ⟨y, hy, e⟩ := mem_bys.1 h
            rcases List.mem_append.1 hy with hy | hy
            · exact HK.out (mem_bys.2 ⟨y, hy, e⟩)
            · rw [List.mem_singleton.1 hy] at e; rw [e] at t1; simp at t1)
          go_wp2_with fail
          go_roundw
          case rel => exact ⟨k + 1, by omega, by go_num, HK2, HW⟩
          case measure => simp [intOf]; omega
        | true =>
          have e1 : x.by_ = who := by simpa using t1
          have HT2 : Hid (t = (x.wait, L.take k ++ L.drop (k + 1), 0)) := Lib.hid (by
            rw [← HT.out, doneF_some HBO.out (List.mem_of_getElem? HX.out) e1, ended_at (rightB_iff.1 HBO.out).2 HX.out e1])
          have HTL : Hid ((L.take k).length = k) := Lib.hid (by rw [List.length_take]; omega)
          obtain ⟨A9, hA9⟩ : ∃ A9, A9 = fromA a c (k + 1) := ⟨_, rfl⟩
          have HA9 := Lib.hid hA9
          have HD : Hid (FillsAt wr A9 (L.drop (k + 1))) := Lib.hid (by
            have := (HA.out.up HW.out).drop (k + 1) c (by omega) (by omega)
            rw [hA9]
            exact this)
          have HDL : Hid ((L.drop (k + 1)).length = L.length - (k + 1)) := Lib.hid (List.length_drop ..)
          obtain ⟨m2, hm2⟩ : ∃ m2, k + (L.length - (k + 1)) = m2 := ⟨_, rfl⟩
          have HM2 : Hid (([] ++ L.take k).length + (L.length - (k + 1)) = m2) := Lib.hid (by rw [List.nil_append, HTL.out]; exact hm2)
          have HB2 : Hid (m2 ≤ 1048576) := Lib.hid (by omega)
          have i1 : IntKind.i64.wrap ((k : Int) + 1) = (k : Int) + 1 := IntWalk.i64_in _ (by omega)
          have i2 : 0 ≤ (k : Int) + 1 := by omega
          have i3 : ((k : Int) + 1).toNat = k + 1 := by omega
          clear hA9 hm2 e1
          go_wp2_with fail
          refine wp_region_noPanic ?_
          refine wp_region_held_drew (S := fun W => Below w.heap.size w W) (by kernel_rfl) (HW.out.drew) (fun hS0 => ?_)
          change wpAnyH _ _ _ _ _ 17 #[false, false, false, false, false, false, false, false, false, false, false, false, false, false, false, false, false] _ (World.drew _)
          refine wpAnyH_take (i := 0) (v := .slice (some a) L.length c) rfl (by kernel_rfl) (by kernel_rfl) (by kernel_rfl) (fun _ _ _ h => h) (Or.inl ⟨by rfl, fun w' hS' => by go_simp⟩) hS0 ?_
          change wpAnyH _ _ _ _ _ _ _ (Act.put _ (some 26) (.slice (some a) L.length c)) _
          simp only [Act.put, List.setIfInBounds_toArray, List.set_cons_zero, List.set_cons_succ]
          refine wpAnyH_take (i := 1) (v := .int .i64 (k : Int)) rfl (by kernel_rfl) (by kernel_rfl) (by kernel_rfl) (fun _ _ _ h => h) (Or.inl ⟨by rfl, fun w' hS' => by go_simp⟩) hS0 ?_
          change wpAnyH _ _ _ _ _ _ _ (Act.put _ (some 27) (.int .i64 (k : Int))) _
          simp only [Act.put, List.setIfInBounds_toArray, List.set_cons_zero, List.set_cons_succ]
          refine wpAnyH_take (i := 2) (v := .pointer (some (a.add (k * 4)))) rfl (by kernel_rfl) (by kernel_rfl) (by kernel_rfl) (fun _ _ _ h => h) (Or.inl ⟨by rfl, fun w' hS' => by go_simp⟩) hS0 ?_
          change wpAnyH _ _ _ _ _ _ _ (Act.put _ (some 28) (.pointer (some (a.add (k * 4))))) _
          simp only [Act.put, List.setIfInBounds_toArray, List.set_cons_zero, List.set_cons_succ]
          refine wpAnyH_take (i := 3) (v := .pointer (some ⟨(a.add (k * 4)).block, (a.add (k * 4)).off + 3, none⟩)) rfl (by kernel_rfl) (by kernel_rfl) (by kernel_rfl) (fun _ _ _ h => h) (Or.inl ⟨by rfl, fun w' hS' => by go_simp⟩) hS0 ?_
          change wpAnyH _ _ _ _ _ _ _ (Act.put _ (some 29) (.pointer (some ⟨(a.add (k * 4)).block, (a.add (k * 4)).off + 3, none⟩))) _
          simp only [Act.put, List.setIfInBounds_toArray, List.set_cons_zero, List.set_cons_succ]
          refine wpAnyH_take (i := 4) (v := .slice B m cw) rfl (by kernel_rfl) (by kernel_rfl) (by kernel_rfl) (fun _ _ _ h => h) (Or.inl ⟨by rfl, fun w' hS' => by have y3 := H3.out w' hS'; go_simp⟩) hS0 ?_
          change wpAnyH _ _ _ _ _ _ _ (Act.put _ (some 30) (.slice B m cw)) _
          simp only [Act.put, List.setIfInBounds_toArray, List.set_cons_zero, List.set_cons_succ]
          refine wpAnyH_take (i := 5) (v := .slice (some a) L.length c) rfl (by kernel_rfl) (by kernel_rfl) (by kernel_rfl) (fun _ _ _ h => h) (Or.inl ⟨by rfl, fun w' hS' => by go_simp⟩) hS0 ?_
          change wpAnyH _ _ _ _ _ _ _ (Act.put _ (some 31) (.slice (some a) L.length c)) _
          simp only [Act.put, List.setIfInBounds_toArray, List.set_cons_zero, List.set_cons_succ]
          refine wpAnyH_take (i := 6) (v := .int .i64 (k : Int)) rfl (by kernel_rfl) (by kernel_rfl) (by kernel_rfl) (fun _ _ _ h => h) (Or.inl ⟨by rfl, fun w' hS' => by go_simp⟩) hS0 ?_
          change wpAnyH _ _ _ _ _ _ _ (Act.put _ (some 32) (.int .i64 (k : Int))) _
          simp only [Act.put, List.setIfInBounds_toArray, List.set_cons_zero, List.set_cons_succ]
          refine wpAnyH_take (i := 7) (v := .slice (some a) k c) rfl (by kernel_rfl) (by kernel_rfl) (by kernel_rfl) (fun _ _ _ h => h) (Or.inl ⟨by rfl, fun w' hS' => by go_simp; intro h; exact absurd h (by omega)⟩) hS0 ?_
          change wpAnyH _ _ _ _ _ _ _ (Act.put _ (some 33) (.slice (some a) k c)) _
          simp only [Act.put, List.setIfInBounds_toArray, List.set_cons_zero, List.set_cons_succ]
          refine wpAnyH_take (i := 9) (v := .slice (some a) L.length c) rfl (by kernel_rfl) (by kernel_rfl) (by kernel_rfl) (fun _ _ _ h => h) (Or.inl ⟨by rfl, fun w' hS' => by go_simp⟩) hS0 ?_
          change wpAnyH _ _ _ _ _ _ _ (Act.put _ (some 35) (.slice (some a) L.length c)) _
          simp only [Act.put, List.setIfInBounds_toArray, List.set_cons_zero, List.set_cons_succ]
          refine wpAnyH_take (i := 10) (v := .int .i64 (k : Int)) rfl (by kernel_rfl) (by kernel_rfl) (by kernel_rfl) (fun _ _ _ h => h) (Or.inl ⟨by rfl, fun w' hS' => by go_simp⟩) hS0 ?_
          change wpAnyH _ _ _ _ _ _ _ (Act.put _ (some 36) (.int .i64 (k : Int))) _
          simp only [Act.put, List.setIfInBounds_toArray, List.set_cons_zero, List.set_cons_succ]
          refine wpAnyH_take (i := 11) (v := .int .i64 ((k : Int) + 1)) rfl (by kernel_rfl) (by kernel_rfl) (by kernel_rfl) (fun _ _ _ h => h) (Or.inl ⟨by rfl, fun w' hS' => by go_simp⟩) hS0 ?_
          change wpAnyH _ _ _ _ _ _ _ (Act.put _ (some 37) (.int .i64 ((k : Int) + 1))) _
          simp only [Act.put, List.setIfInBounds_toArray, List.set_cons_zero, List.set_cons_succ]
          refine wpAnyH_take (i := 12) (v := .slice A9 (L.length - (k + 1)) (c - (k + 1))) rfl (by kernel_rfl) (by kernel_rfl) (by kernel_rfl) (fun _ _ _ h => h) (Or.inl ⟨by rfl, fun w' hS' => by rw [HA9.out]; exact op_from (k := k + 1) rfl rfl rfl (by omega) (by omega) (by omega)⟩) hS0 ?_
          change wpAnyH _ _ _ _ _ _ _ (Act.put _ (some 38) (.slice A9 (L.length - (k + 1)) (c - (k + 1)))) _
          simp only [Act.put, List.setIfInBounds_toArray, List.set_cons_zero, List.set_cons_succ]
          refine wpAnyH_ready (rs := [8]) (by kernel_rfl) (by simp) (AllReadyH.cons rfl (fun K hK => ?_) (AllReadyH.nil))
          · skip
            obtain ⟨A8, c8, W8, hr8, ho8, hg8⟩ := ((OwnC.nil wr).up ((Below.refl _ _).drew)).append k c ((HA.out.up HW.out).take k) HTL.out k (by simp) (by omega)
            refine step_append_run2 hr8 rfl rfl rfl rfl rfl ?_
            refine hK.out _ _ (HW.out.trans (ho8.below.mono HW.out.size)) (fun hS8 => ?_)
            clear hK K
            change wpAnyH _ _ _ _ _ _ _ (Act.put _ (some 34) (.slice A8 k c8)) _
            simp only [Act.put, List.setIfInBounds_toArray, List.set_cons_zero, List.set_cons_succ]
            refine wpAnyH_ready (rs := [13]) (by kernel_rfl) (by simp) (AllReadyH.cons rfl (fun K hK => ?_) (AllReadyH.nil))
            · skip
              obtain ⟨A13, c13, W13, hr13, ho13, hg13⟩ := ho8.append (L.length - (k + 1)) (c - (k + 1)) HD.out HDL.out m2 HM2.out HB2.out
              refine step_append_run2 hr13 rfl rfl rfl rfl rfl ?_
              refine hK.out _ _ (HW.out.trans (ho13.below.mono HW.out.size)) (fun hS13 => ?_)
              clear hK K
              change wpAnyH _ _ _ _ _ _ _ (Act.put _ (some 39) (.slice A13 m2 c13)) _
              simp only [Act.put, List.setIfInBounds_toArray, List.set_cons_zero, List.set_cons_succ]
              refine wpAnyH_take (i := 14) (v := .slice B m cw) rfl (by kernel_rfl) (by kernel_rfl) (by kernel_rfl) (fun _ _ _ h => h) (Or.inl ⟨by rfl, fun w' hS' => by go_simp⟩) hS13 ?_
              change wpAnyH _ _ _ _ _ _ _ (Act.put _ (some 4) (.slice B m cw)) _
              simp only [Act.put, List.setIfInBounds_toArray, List.set_cons_zero, List.set_cons_succ]
              refine wpAnyH_take (i := 15) (v := .slice A13 m2 c13) rfl (by kernel_rfl) (by kernel_rfl) (by kernel_rfl) (fun _ _ _ h => h) (Or.inl ⟨by rfl, fun w' hS' => by go_simp⟩) hS13 ?_
              change wpAnyH _ _ _ _ _ _ _ (Act.put _ (some 5) (.slice A13 m2 c13)) _
              simp only [Act.put, List.setIfInBounds_toArray, List.set_cons_zero, List.set_cons_succ]
              refine wpAnyH_take (i := 16) (v := .int .i64 0) rfl (by kernel_rfl) (by kernel_rfl) (by kernel_rfl) (fun _ _ _ h => h) (Or.inl ⟨by rfl, fun w' hS' => by go_simp⟩) hS13 ?_
              change wpAnyH _ _ _ _ _ _ _ (Act.put _ (some 6) (.int .i64 0)) _
              simp only [Act.put, List.setIfInBounds_toArray, List.set_cons_zero, List.set_cons_succ]
              refine wpAnyH_done (by kernel_rfl) ?_ _
              refine NoPanic.normal ?_
              go_wp2_with fail
              go_ret3
              obtain ⟨e1, e2, e3⟩ := ho13.at_
              rw [HT2.out]
              exact ⟨B, m, cw, A13, m2, c13, rfl, HM.out.symm, hcw, (HI.out.up (hS13)), e1, e2, e3, hS13⟩
      · have HT2 : Hid (t = ([], [], 10)) := Lib.hid (by
          have := HK.out
          rw [List.take_of_length_le (by omega)] at this
          rw [← HT.out, doneF_none HBO.out this])
        go_wp2_with fail
        go_ret3
        rw [HT2.out]
        exact ⟨none, 0, 0, none, 0, 0, rfl, rfl, Nat.le_refl _, RowAt.nil, rfl, Nat.le_refl _, FillsAt.nil, HW.out⟩

end Go.Proofs.Ytllkegonhghkcaa
