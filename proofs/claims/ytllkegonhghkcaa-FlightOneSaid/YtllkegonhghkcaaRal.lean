/-
  collatorref15.all: all numbers that are there; nothing that was there is changed.
-/
import Derived.Test.YtllkegonhghkcaaRop
namespace Go.Proofs.Ytllkegonhghkcaa
open Go.RowKit P15

theorem nums_len {L : List Fl} (h : ∀ x ∈ L, x.wait.length ≤ 1000) : (nums L).length ≤ L.length * 1001 := by
  induction L with
  | nil => simp [nums]
  | cons x L ih =>
    have h1 := h x (by simp)
    have h2 := ih fun y hy => h y (by simp [hy])
    rw [nums_cons, List.length_cons, List.length_append, List.length_cons]
    omega
theorem FitF.nums_len {L : List Fl} (h : FitF L) (k : Nat) : (P15.nums (L.take k)).length ≤ 1001000 := by
  have h1 := Go.Proofs.Ytllkegonhghkcaa.nums_len (L := L.take k) fun x hx => (h.each x (List.mem_of_mem_take hx)).1
  have h2 : (L.take k).length ≤ L.length := by rw [List.length_take]; omega
  have h3 := h.len
  have h4 : (L.take k).length * 1001 ≤ 1000 * 1001 := Nat.mul_le_mul_right _ (by omega)
  omega
/-- numbers in new memory -/
def IntsTold (L : List Int) (w : World) (e : Ending) (w' : World) : Prop := ∃ (A : Option Addr) (n c : Nat), e = .returned (.slice A n c) ∧ L.length = n ∧ OwnI w w' (.slice A n c) L
set_option maxHeartbeats 2000000 in
set_option maxRecDepth 100000 in
theorem rall_any (A : Option Addr) (L : List Fl) (n c : Nat) (w : World) (ha : FillsAt w A L) (hn : L.length = n) (hf : FitF L) :
    Calls Try.prog 23 #[.slice A n c] w (IntsTold (nums L) w) := by
  subst hn
  have HA := Lib.hid ha
  have HF := Lib.hid hf
  have hl := hf.len
  clear ha hf
  go_enter Try.func23, Try.ntmps23
  go_wp2_with fail
  go_loopw [3, 4] (fun v i wr => ∃ (k m : Nat) (Ao : Option Addr) (co : Nat), k ≤ L.length ∧ v = .slice Ao m co ∧ i = .int .i64 k ∧ Hid (OwnI w wr (.slice Ao m co) (nums (L.take k))) ∧ Hid ((nums (L.take k)).length = m)) (fun _ i _ => L.length - (intOf i).toNat)
  case atStart => exact ⟨0, 0, none, 0, Nat.zero_le _, rfl, rfl, Lib.hid (OwnR.nil w), Lib.hid rfl⟩
  case round =>
    obtain ⟨k, m, Ao, co, hk, rfl, rfl, HV, HM⟩ := hrel
    by_cases g1 : k < L.length
    · obtain ⟨x, hx⟩ : ∃ x, L[k]? = some x := ⟨_, List.getElem?_eq_getElem g1⟩
      obtain ⟨a, B, cw, rfl, hal, d0, d1, d2, d3, hi', hcw⟩ := HA.out.at_ hx
      have H2 : Hid (∀ W, Below w.heap.size w W → W.cell? ⟨(a.add (k * 4)).block, (a.add (k * 4)).off + 2, none⟩ = some (.int .i64 x.by_)) := Lib.hid fun W hW => (hW.cell (by rw [add_block]; exact hal)).trans d2
      have H3 : Hid (∀ W, Below w.heap.size w W → W.cell? ⟨(a.add (k * 4)).block, (a.add (k * 4)).off + 3, none⟩ = some (.slice B x.wait.length cw)) := Lib.hid fun W hW => (hW.cell (by rw [add_block]; exact hal)).trans d3
      clear d0 d1 d2 d3 hcw hal
      have HX := Lib.hid hx
      have HI := Lib.hid hi'
      have HB : Hid (m ≤ 1001000) := Lib.hid (by rw [← HM.out]; exact HF.out.nums_len k)
      have hxm := (HF.out.each x (List.mem_of_getElem? hx)).1
      obtain ⟨m2, hm2⟩ : ∃ m2, m + 1 + x.wait.length = m2 := ⟨_, rfl⟩
      have HM2 : Hid ((nums (L.take k) ++ [x.by_]).length + x.wait.length = m2) := Lib.hid (by rw [List.length_append, HM.out]; simpa using hm2)
      have HB2 : Hid (m2 ≤ 1048576) := Lib.hid (by have := HB.out; omega)
      clear hx hi' hm2 hxm
      go_wp2_with fail
      refine wp_region_noPanic ?_
      refine wp_region_held_drew (S := fun W => Below w.heap.size w W) (by kernel_rfl) (HV.out.2.drew) (fun hS0 => ?_)
      change wpAnyH _ _ _ _ _ 15 #[false, false, false, false, false, false, false, false, false, false, false, false, false, false, false] _ (World.drew _)
      refine wpAnyH_take (i := 0) (v := .slice Ao m co) rfl (by kernel_rfl) (by kernel_rfl) (by kernel_rfl) (fun _ _ _ h => h) (Or.inl ⟨by rfl, fun w' hS' => by go_simp⟩) hS0 ?_
      change wpAnyH _ _ _ _ _ _ _ (Act.put _ (some 11) (.slice Ao m co)) _
      simp only [Act.put, List.setIfInBounds_toArray, List.set_cons_zero, List.set_cons_succ]
      refine wpAnyH_take (i := 1) (v := .slice (some a) L.length c) rfl (by kernel_rfl) (by kernel_rfl) (by kernel_rfl) (fun _ _ _ h => h) (Or.inl ⟨by rfl, fun w' hS' => by go_simp⟩) hS0 ?_
      change wpAnyH _ _ _ _ _ _ _ (Act.put _ (some 12) (.slice (some a) L.length c)) _
      simp only [Act.put, List.setIfInBounds_toArray, List.set_cons_zero, List.set_cons_succ]
      refine wpAnyH_take (i := 2) (v := .int .i64 (k : Int)) rfl (by kernel_rfl) (by kernel_rfl) (by kernel_rfl) (fun _ _ _ h => h) (Or.inl ⟨by rfl, fun w' hS' => by go_simp⟩) hS0 ?_
      change wpAnyH _ _ _ _ _ _ _ (Act.put _ (some 13) (.int .i64 (k : Int))) _
      simp only [Act.put, List.setIfInBounds_toArray, List.set_cons_zero, List.set_cons_succ]
      refine wpAnyH_take (i := 3) (v := .pointer (some (a.add (k * 4)))) rfl (by kernel_rfl) (by kernel_rfl) (by kernel_rfl) (fun _ _ _ h => h) (Or.inl ⟨by rfl, fun w' hS' => by go_simp⟩) hS0 ?_
      change wpAnyH _ _ _ _ _ _ _ (Act.put _ (some 14) (.pointer (some (a.add (k * 4))))) _
      simp only [Act.put, List.setIfInBounds_toArray, List.set_cons_zero, List.set_cons_succ]
      refine wpAnyH_take (i := 4) (v := .pointer (some ⟨(a.add (k * 4)).block, (a.add (k * 4)).off + 2, none⟩)) rfl (by kernel_rfl) (by kernel_rfl) (by kernel_rfl) (fun _ _ _ h => h) (Or.inl ⟨by rfl, fun w' hS' => by go_simp⟩) hS0 ?_
      change wpAnyH _ _ _ _ _ _ _ (Act.put _ (some 15) (.pointer (some ⟨(a.add (k * 4)).block, (a.add (k * 4)).off + 2, none⟩))) _
      simp only [Act.put, List.setIfInBounds_toArray, List.set_cons_zero, List.set_cons_succ]
      refine wpAnyH_take (i := 5) (v := .int .i64 x.by_) rfl (by kernel_rfl) (by kernel_rfl) (by kernel_rfl) (fun _ _ _ h => h) (Or.inl ⟨by rfl, fun w' hS' => by have y2 := H2.out w' hS'; go_simp⟩) hS0 ?_
      change wpAnyH _ _ _ _ _ _ _ (Act.put _ (some 16) (.int .i64 x.by_)) _
      simp only [Act.put, List.setIfInBounds_toArray, List.set_cons_zero, List.set_cons_succ]
      refine wpAnyH_take (i := 8) (v := .slice (some a) L.length c) rfl (by kernel_rfl) (by kernel_rfl) (by kernel_rfl) (fun _ _ _ h => h) (Or.inl ⟨by rfl, fun w' hS' => by go_simp⟩) hS0 ?_
      change wpAnyH _ _ _ _ _ _ _ (Act.put _ (some 19) (.slice (some a) L.length c)) _
      simp only [Act.put, List.setIfInBounds_toArray, List.set_cons_zero, List.set_cons_succ]
      refine wpAnyH_take (i := 9) (v := .int .i64 (k : Int)) rfl (by kernel_rfl) (by kernel_rfl) (by kernel_rfl) (fun _ _ _ h => h) (Or.inl ⟨by rfl, fun w' hS' => by go_simp⟩) hS0 ?_
      change wpAnyH _ _ _ _ _ _ _ (Act.put _ (some 20) (.int .i64 (k : Int))) _
      simp only [Act.put, List.setIfInBounds_toArray, List.set_cons_zero, List.set_cons_succ]
      refine wpAnyH_take (i := 10) (v := .pointer (some (a.add (k * 4)))) rfl (by kernel_rfl) (by kernel_rfl) (by kernel_rfl) (fun _ _ _ h => h) (Or.inl ⟨by rfl, fun w' hS' => by go_simp⟩) hS0 ?_
      change wpAnyH _ _ _ _ _ _ _ (Act.put _ (some 21) (.pointer (some (a.add (k * 4))))) _
      simp only [Act.put, List.setIfInBounds_toArray, List.set_cons_zero, List.set_cons_succ]
      refine wpAnyH_take (i := 11) (v := .pointer (some ⟨(a.add (k * 4)).block, (a.add (k * 4)).off + 3, none⟩)) rfl (by kernel_rfl) (by kernel_rfl) (by kernel_rfl) (fun _ _ _ h => h) (Or.inl ⟨by rfl, fun w' hS' => by go_simp⟩) hS0 ?_
      change wpAnyH _ _ _ _ _ _ _ (Act.put _ (some 22) (.pointer (some ⟨(a.add (k * 4)).block, (a.add (k * 4)).off + 3, none⟩))) _
      simp only [Act.put, List.setIfInBounds_toArray, List.set_cons_zero, List.set_cons_succ]
      refine wpAnyH_take (i := 12) (v := .slice B x.wait.length cw) rfl (by kernel_rfl) (by kernel_rfl) (by kernel_rfl) (fun _ _ _ h => h) (Or.inl ⟨by rfl, fun w' hS' => by have y3 := H3.out w' hS'; go_simp⟩) hS0 ?_
      change wpAnyH _ _ _ _ _ _ _ (Act.put _ (some 23) (.slice B x.wait.length cw)) _
      simp only [Act.put, List.setIfInBounds_toArray, List.set_cons_zero, List.set_cons_succ]
      refine wpAnyH_ready (rs := [6]) (by kernel_rfl) (by simp) (AllReadyH.cons rfl (fun K hK => ?_) (AllReadyH.nil))
      · skip
        obtain ⟨g6, W6, hr6, hg6, hW6⟩ := op_one x.by_ wr.drew
        have hb6 : Below wr.heap.size wr W6 := by rw [hW6]; exact ((Below.refl _ _).drew).alloc (Nat.le_refl _) _
        refine step_op_run (hr6 _ _ _ rfl rfl) rfl ?_
        refine hK.out _ _ (HV.out.2.trans (hb6.mono HV.out.2.size)) (fun hS6 => ?_)
        clear hK K
        change wpAnyH _ _ _ _ _ _ _ (Act.put _ (some 17) (.slice (some ⟨g6, 0, none⟩) 1 1)) _
        simp only [Act.put, List.setIfInBounds_toArray, List.set_cons_zero, List.set_cons_succ]
        refine wpAnyH_ready (rs := [7]) (by kernel_rfl) (by simp) (AllReadyH.cons rfl (fun K hK => ?_) (AllReadyH.nil))
        · skip
          obtain ⟨A7, c7, W7, hr7, ho7, hg7⟩ := int_push (OwnR.up HV.out ((Below.refl _ _).drew)) x.by_ (m + 1) (by rw [HM.out]) (by have := HB.out; omega)
          rw [← hW6, show wr.drew.heap.size = g6 from hg6.symm] at hr7
          refine step_append_run2 hr7 rfl rfl rfl rfl rfl ?_
          refine hK.out _ _ ho7.2 (fun hS7 => ?_)
          clear hK K
          change wpAnyH _ _ _ _ _ _ _ (Act.put _ (some 18) (.slice A7 (m + 1) c7)) _
          simp only [Act.put, List.setIfInBounds_toArray, List.set_cons_zero, List.set_cons_succ]
          refine wpAnyH_ready (rs := [13]) (by kernel_rfl) (by simp) (AllReadyH.cons rfl (fun K hK => ?_) (AllReadyH.nil))
          · skip
            obtain ⟨A13, c13, W13, hr13, ho13, hg13⟩ := int_append ho7 x.wait.length cw (HI.out.up (ho7.2)) rfl m2 HM2.out HB2.out
            refine step_append_run2 hr13 rfl rfl rfl rfl rfl ?_
            refine hK.out _ _ ho13.2 (fun hS13 => ?_)
            clear hK K
            change wpAnyH _ _ _ _ _ _ _ (Act.put _ (some 24) (.slice A13 m2 c13)) _
            simp only [Act.put, List.setIfInBounds_toArray, List.set_cons_zero, List.set_cons_succ]
            refine wpAnyH_take (i := 14) (v := .slice A13 m2 c13) rfl (by kernel_rfl) (by kernel_rfl) (by kernel_rfl) (fun _ _ _ h => h) (Or.inl ⟨by rfl, fun w' hS' => by go_simp⟩) hS13 ?_
            change wpAnyH _ _ _ _ _ _ _ (Act.put _ (some 3) (.slice A13 m2 c13)) _
            simp only [Act.put, List.setIfInBounds_toArray, List.set_cons_zero, List.set_cons_succ]
            refine wpAnyH_done (by kernel_rfl) ?_ _
            refine NoPanic.normal ?_
            go_wp2_with fail
            go_roundw
            case rel => exact ⟨k + 1, m2, A13, c13, by omega, rfl, by go_num, Lib.hid (by rw [take_snoc HX.out, nums_append, show nums [x] = [x.by_] ++ x.wait from by simp [nums, Fl.nums], ← List.append_assoc]; exact ho13), Lib.hid (by have h := HM2.out; rw [List.length_append, HM.out, List.length_singleton] at h; rw [take_snoc HX.out, nums_append, List.length_append, HM.out, show nums [x] = x.by_ :: x.wait from by simp [nums, Fl.nums], List.length_cons]; omega)⟩
            case measure => simp [intOf]; omega
    · go_wp2_with fail
      go_ret
      have hv := HV.out
      have hm := HM.out
      rw [List.take_of_length_le (by omega)] at hv hm
      exact ⟨Ao, m, co, rfl, hm, hv⟩

end Go.Proofs.Ytllkegonhghkcaa
