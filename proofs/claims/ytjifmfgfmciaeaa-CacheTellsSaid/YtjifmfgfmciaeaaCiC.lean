/-
  Package cache: Right: whether a cache is right; nothing that was there is changed.
-/
import Derived.Test.YtjifmfgfmciaeaaCiB
namespace Go.Proofs.Ytjifmfgfmciaeaa
open Go.RowKit

theorem step_op_run_g {P : Program} {ops : Array Oper} {o : Oper} {a : Act} {w w' : World} {K : Act → World → Prop} {Q : Exit → Act → World → Prop} {E : Prop} {v' : Value}
    (hw : Region.wanted o (yielded ops a.tmps) = true) (hrun : (execOp a.eval o).run P w = .ok (.value v') w') (h : K (a.put o.dst v') w') : if Region.wanted o (yielded ops a.tmps) = true then Oper.wp P o a w K Q else E := by
  rw [if_pos hw]
  unfold Oper.wp
  rw [hrun]
  exact h
theorem op_ints4 (z0 z1 z2 z3 : Int) (W : World) :
    ∃ g W1, (∀ (o : Oper) (a : Act) (p q r s : Nat), o.op = Op.buildSlice 83 4 #[(0, .tmp p), (1, .tmp q), (2, .tmp r), (3, .tmp s)] → a.eval (.tmp p) = .int .i64 z0 → a.eval (.tmp q) = .int .i64 z1 → a.eval (.tmp r) = .int .i64 z2 → a.eval (.tmp s) = .int .i64 z3 → (execOp a.eval o).run Try.prog W = .ok (.value (.slice (some ⟨g, 0, none⟩) 4 4)) W1) ∧
      IntsAt W1 (some ⟨g, 0, none⟩) [z0, z1, z2, z3] ∧ Below W.heap.size W W1 := by
  refine ⟨W.heap.size, W.alloc (.cells #[.int .i64 z0, .int .i64 z1, .int .i64 z2, .int .i64 z3] 3), fun o a p q r s ho h0 h1 h2 h3 => ?_, RowAt.of_blk z_len (Blk.new _ _ _), (Below.refl _ _).alloc (Nat.le_refl _) _⟩
  have h0' : a.tmps[p]?.getD undef = .int .i64 z0 := by simpa [Act.eval] using h0
  have h1' : a.tmps[q]?.getD undef = .int .i64 z1 := by simpa [Act.eval] using h1
  have h2' : a.tmps[r]?.getD undef = .int .i64 z2 := by simpa [Act.eval] using h2
  have h3' : a.tmps[s]?.getD undef = .int .i64 z3 := by simpa [Act.eval] using h3
  simp only [execOp, ho]
  go_simp
theorem counted_v (A : Option Addr) (L : List Int) (n c : Nat) (w : World) (b : Bool) (hb : L.all countB = b) (ha : IntsAt w A L) (hn : L.length = n) (h1 : L.length ≤ 1000) :
    Calls Try.prog 28 #[.slice A n c] w fun e w' => e = .returned (.bool b) ∧ w = w' := by
  subst hb; exact counted_any A L n c w ha hn h1

set_option maxHeartbeats 8000000 in
set_option maxRecDepth 100000 in
theorem rightC_any (c : Ca) (A : Option Addr) (n cap : Nat) (w : World) (bo : Bool) (hbo : rightC c = bo) {X : Nat → Prop} (ha : PartsAt X w A c.parts) (hn : c.parts.length = n) (hf : CaFit c) :
    Calls Try.prog 16 #[.agg #[.int .i64 c.width, .int .i64 c.room, .slice A n cap, .int .i64 c.hits, .int .i64 c.misses, .int .i64 c.clashes, .int .i64 c.evicted]] w fun e w' => e = .returned (.bool bo) ∧ Below w.heap.size w w' := by
  subst hn
  have HA := Lib.hid ha
  have HF := Lib.hid hf
  have HRB := Lib.hid hbo
  have hlen := hf.len
  clear ha hf hbo
  obtain ⟨b0, hb0⟩ : ∃ b, fitsB c.parts.length c.room c.width = b := ⟨_, rfl⟩
  obtain ⟨b1, hb1⟩ : ∃ b, [c.hits, c.misses, c.clashes, c.evicted].all countB = b := ⟨_, rfl⟩
  have H0 := Lib.hid hb0
  have H1 := Lib.hid hb1
  have hbd : rightC c = (b0 && (b1 && partsB c c.parts.length)) := by
    rw [← hb0, ← hb1]
    unfold rightC
    simp only [List.all_cons, List.all_nil, Bool.and_true, Bool.and_assoc]
  rw [HRB.out] at hbd
  have HBD := Lib.hid hbd
  clear hb0 hb1 hbd
  go_enter Try.func16, Try.ntmps16
  go_wp2_with fail
  have hbx := Blk.new w 28 #[.int .i64 c.width, .int .i64 c.room, .slice A c.parts.length cap, .int .i64 c.hits, .int .i64 c.misses, .int .i64 c.clashes, .int .i64 c.evicted]
  have hal : Below w.heap.size w (w.alloc (.cells #[.int .i64 c.width, .int .i64 c.room, .slice A c.parts.length cap, .int .i64 c.hits, .int .i64 c.misses, .int .i64 c.clashes, .int .i64 c.evicted] 28)) := (Below.refl _ _).alloc (Nat.le_refl _) _
  obtain ⟨w1, hw1⟩ : ∃ w1, w1 = w.alloc (.cells #[.int .i64 c.width, .int .i64 c.room, .slice A c.parts.length cap, .int .i64 c.hits, .int .i64 c.misses, .int .i64 c.clashes, .int .i64 c.evicted] 28) := ⟨_, rfl⟩
  obtain ⟨g, hg⟩ : ∃ g, g = w.heap.size := ⟨_, rfl⟩
  rw [← hw1] at hbx hal ⊢
  rw [← hg] at hbx ⊢
  have HBX := Lib.hid hbx
  have HW1 := Lib.hid hal
  have HCB : Hid (∀ W, Below w1.heap.size w1 W → W.cell? ⟨g, 0, none⟩ = some (.int .i64 c.width) ∧ W.cell? ⟨g, 1, none⟩ = some (.int .i64 c.room) ∧ W.cell? ⟨g, 2, none⟩ = some (.slice A c.parts.length cap) ∧ W.cell? ⟨g, 3, none⟩ = some (.int .i64 c.hits) ∧ W.cell? ⟨g, 4, none⟩ = some (.int .i64 c.misses) ∧ W.cell? ⟨g, 5, none⟩ = some (.int .i64 c.clashes) ∧ W.cell? ⟨g, 6, none⟩ = some (.int .i64 c.evicted)) := Lib.hid fun W hW => box7 HBX.out hW
  clear hbx hal hw1 hg
  cases b0 with
  | false =>
    have HBO : Hid (false = bo) := Lib.hid (by rw [HBD.out]; rfl)
    refine wp_region_noPanic ?_
    refine wp_region_held_drew (S := fun W => Below w1.heap.size w1 W) (by kernel_rfl) ((Below.refl w1.heap.size w1).drew) (fun hS0 => ?_)
    change wpAnyH _ _ _ _ _ 29 #[false, false, false, false, false, false, false, false, false, false, false, false, false, false, false, false, false, false, false, false, false, false, false, false, false, false, false, false, false] _ (World.drew _)
    refine wpAnyH_take (i := 0) (v := .pointer (some ⟨g, 2, none⟩)) rfl (by kernel_rfl) (by kernel_rfl) (by kernel_rfl) (fun _ _ _ h => h) (Or.inl ⟨by rfl, fun w' hS' => by go_simp⟩) hS0 ?_
    change wpAnyH _ _ _ _ _ _ _ (Act.put _ (some 3) (.pointer (some ⟨g, 2, none⟩))) _
    simp only [Act.put, List.setIfInBounds_toArray, List.set_cons_zero, List.set_cons_succ]
    refine wpAnyH_take (i := 1) (v := .slice A c.parts.length cap) rfl (by kernel_rfl) (by kernel_rfl) (by kernel_rfl) (fun _ _ _ h => h) (Or.inl ⟨by rfl, fun w' hS' => by obtain ⟨y0, y1, y2, y3, y4, y5, y6⟩ := HCB.out _ hS'; go_simp⟩) hS0 ?_
    change wpAnyH _ _ _ _ _ _ _ (Act.put _ (some 4) (.slice A c.parts.length cap)) _
    simp only [Act.put, List.setIfInBounds_toArray, List.set_cons_zero, List.set_cons_succ]
    refine wpAnyH_take (i := 2) (v := .int .i64 (c.parts.length : Int)) rfl (by kernel_rfl) (by kernel_rfl) (by kernel_rfl) (fun _ _ _ h => h) (Or.inl ⟨by rfl, fun w' hS' => by go_simp⟩) hS0 ?_
    change wpAnyH _ _ _ _ _ _ _ (Act.put _ (some 5) (.int .i64 (c.parts.length : Int))) _
    simp only [Act.put, List.setIfInBounds_toArray, List.set_cons_zero, List.set_cons_succ]
    refine wpAnyH_take (i := 3) (v := .pointer (some ⟨g, 1, none⟩)) rfl (by kernel_rfl) (by kernel_rfl) (by kernel_rfl) (fun _ _ _ h => h) (Or.inl ⟨by rfl, fun w' hS' => by go_simp⟩) hS0 ?_
    change wpAnyH _ _ _ _ _ _ _ (Act.put _ (some 6) (.pointer (some ⟨g, 1, none⟩))) _
    simp only [Act.put, List.setIfInBounds_toArray, List.set_cons_zero, List.set_cons_succ]
    refine wpAnyH_take (i := 4) (v := .int .i64 c.room) rfl (by kernel_rfl) (by kernel_rfl) (by kernel_rfl) (fun _ _ _ h => h) (Or.inl ⟨by rfl, fun w' hS' => by obtain ⟨y0, y1, y2, y3, y4, y5, y6⟩ := HCB.out _ hS'; go_simp⟩) hS0 ?_
    change wpAnyH _ _ _ _ _ _ _ (Act.put _ (some 7) (.int .i64 c.room)) _
    simp only [Act.put, List.setIfInBounds_toArray, List.set_cons_zero, List.set_cons_succ]
    refine wpAnyH_take (i := 5) (v := .pointer (some ⟨g, 0, none⟩)) rfl (by kernel_rfl) (by kernel_rfl) (by kernel_rfl) (fun _ _ _ h => h) (Or.inl ⟨by rfl, fun w' hS' => by go_simp⟩) hS0 ?_
    change wpAnyH _ _ _ _ _ _ _ (Act.put _ (some 8) (.pointer (some ⟨g, 0, none⟩))) _
    simp only [Act.put, List.setIfInBounds_toArray, List.set_cons_zero, List.set_cons_succ]
    refine wpAnyH_take (i := 6) (v := .int .i64 c.width) rfl (by kernel_rfl) (by kernel_rfl) (by kernel_rfl) (fun _ _ _ h => h) (Or.inl ⟨by rfl, fun w' hS' => by obtain ⟨y0, y1, y2, y3, y4, y5, y6⟩ := HCB.out _ hS'; go_simp⟩) hS0 ?_
    change wpAnyH _ _ _ _ _ _ _ (Act.put _ (some 9) (.int .i64 c.width)) _
    simp only [Act.put, List.setIfInBounds_toArray, List.set_cons_zero, List.set_cons_succ]
    refine wpAnyH_ready (rs := [7]) (by kernel_rfl) (by simp) (AllReadyH.cons rfl (fun K hK => ?_) (AllReadyH.nil))
    · skip
      go_simp
      refine (may_v _ _ _ _ _ H0.out).mono ?_
      rintro e W1 ⟨rfl, rfl⟩
      refine hK.out _ _ hS0 (fun hS2 => ?_)
      clear hK K
      simp only [List.setIfInBounds_toArray, List.set_cons_zero, List.set_cons_succ]
      refine wpAnyH_take (i := 8) (v := .bool false) rfl (by kernel_rfl) (by kernel_rfl) (by kernel_rfl) (fun _ _ _ h => h) (Or.inl ⟨by rfl, fun w' hS' => by exact op_move rfl rfl⟩) hS2 ?_
      change wpAnyH _ _ _ _ _ _ _ (Act.put _ (some 11) (.bool false)) _
      simp only [Act.put, List.setIfInBounds_toArray, List.set_cons_zero, List.set_cons_succ]
      refine wpAnyH_take (i := 9) (v := undef) rfl (by kernel_rfl) (by kernel_rfl) (by kernel_rfl) (fun _ _ _ h => h) (Or.inr ⟨by rfl, rfl⟩) hS2 ?_
      change wpAnyH _ _ _ _ _ _ _ (Act.put _ (some 12) (undef)) _
      simp only [Act.put, List.setIfInBounds_toArray, List.set_cons_zero, List.set_cons_succ]
      refine wpAnyH_take (i := 10) (v := undef) rfl (by kernel_rfl) (by kernel_rfl) (by kernel_rfl) (fun _ _ _ h => h) (Or.inr ⟨by rfl, rfl⟩) hS2 ?_
      change wpAnyH _ _ _ _ _ _ _ (Act.put _ (some 13) (undef)) _
      simp only [Act.put, List.setIfInBounds_toArray, List.set_cons_zero, List.set_cons_succ]
      refine wpAnyH_take (i := 11) (v := undef) rfl (by kernel_rfl) (by kernel_rfl) (by kernel_rfl) (fun _ _ _ h => h) (Or.inr ⟨by rfl, rfl⟩) hS2 ?_
      change wpAnyH _ _ _ _ _ _ _ (Act.put _ (some 14) (undef)) _
      simp only [Act.put, List.setIfInBounds_toArray, List.set_cons_zero, List.set_cons_succ]
      refine wpAnyH_take (i := 12) (v := undef) rfl (by kernel_rfl) (by kernel_rfl) (by kernel_rfl) (fun _ _ _ h => h) (Or.inr ⟨by rfl, rfl⟩) hS2 ?_
      change wpAnyH _ _ _ _ _ _ _ (Act.put _ (some 15) (undef)) _
      simp only [Act.put, List.setIfInBounds_toArray, List.set_cons_zero, List.set_cons_succ]
      refine wpAnyH_take (i := 13) (v := undef) rfl (by kernel_rfl) (by kernel_rfl) (by kernel_rfl) (fun _ _ _ h => h) (Or.inr ⟨by rfl, rfl⟩) hS2 ?_
      change wpAnyH _ _ _ _ _ _ _ (Act.put _ (some 16) (undef)) _
      simp only [Act.put, List.setIfInBounds_toArray, List.set_cons_zero, List.set_cons_succ]
      refine wpAnyH_take (i := 14) (v := undef) rfl (by kernel_rfl) (by kernel_rfl) (by kernel_rfl) (fun _ _ _ h => h) (Or.inr ⟨by rfl, rfl⟩) hS2 ?_
      change wpAnyH _ _ _ _ _ _ _ (Act.put _ (some 17) (undef)) _
      simp only [Act.put, List.setIfInBounds_toArray, List.set_cons_zero, List.set_cons_succ]
      refine wpAnyH_take (i := 15) (v := undef) rfl (by kernel_rfl) (by kernel_rfl) (by kernel_rfl) (fun _ _ _ h => h) (Or.inr ⟨by rfl, rfl⟩) hS2 ?_
      change wpAnyH _ _ _ _ _ _ _ (Act.put _ (some 18) (undef)) _
      simp only [Act.put, List.setIfInBounds_toArray, List.set_cons_zero, List.set_cons_succ]
      refine wpAnyH_take (i := 16) (v := undef) rfl (by kernel_rfl) (by kernel_rfl) (by kernel_rfl) (fun _ _ _ h => h) (Or.inr ⟨by rfl, rfl⟩) hS2 ?_
      change wpAnyH _ _ _ _ _ _ _ (Act.put _ (some 19) (undef)) _
      simp only [Act.put, List.setIfInBounds_toArray, List.set_cons_zero, List.set_cons_succ]
      refine wpAnyH_take (i := 17) (v := undef) rfl (by kernel_rfl) (by kernel_rfl) (by kernel_rfl) (fun _ _ _ h => h) (Or.inr ⟨by rfl, rfl⟩) hS2 ?_
      change wpAnyH _ _ _ _ _ _ _ (Act.put _ (some 20) (undef)) _
      simp only [Act.put, List.setIfInBounds_toArray, List.set_cons_zero, List.set_cons_succ]
      refine wpAnyH_take (i := 18) (v := undef) rfl (by kernel_rfl) (by kernel_rfl) (by kernel_rfl) (fun _ _ _ h => h) (Or.inr ⟨by rfl, rfl⟩) hS2 ?_
      change wpAnyH _ _ _ _ _ _ _ (Act.put _ (some 21) (undef)) _
      simp only [Act.put, List.setIfInBounds_toArray, List.set_cons_zero, List.set_cons_succ]
      refine wpAnyH_take (i := 19) (v := .bool false) rfl (by kernel_rfl) (by kernel_rfl) (by kernel_rfl) (fun _ _ _ h => h) (Or.inl ⟨by rfl, fun w' hS' => by go_simp⟩) hS2 ?_
      change wpAnyH _ _ _ _ _ _ _ (Act.put _ (some 22) (.bool false)) _
      simp only [Act.put, List.setIfInBounds_toArray, List.set_cons_zero, List.set_cons_succ]
      refine wpAnyH_take (i := 20) (v := .bool false) rfl (by kernel_rfl) (by kernel_rfl) (by kernel_rfl) (fun _ _ _ h => h) (Or.inl ⟨by rfl, fun w' hS' => by exact op_move rfl rfl⟩) hS2 ?_
      change wpAnyH _ _ _ _ _ _ _ (Act.put _ (some 23) (.bool false)) _
      simp only [Act.put, List.setIfInBounds_toArray, List.set_cons_zero, List.set_cons_succ]
      refine wpAnyH_take (i := 21) (v := undef) rfl (by kernel_rfl) (by kernel_rfl) (by kernel_rfl) (fun _ _ _ h => h) (Or.inr ⟨by rfl, rfl⟩) hS2 ?_
      change wpAnyH _ _ _ _ _ _ _ (Act.put _ (some 24) (undef)) _
      simp only [Act.put, List.setIfInBounds_toArray, List.set_cons_zero, List.set_cons_succ]
      refine wpAnyH_take (i := 22) (v := undef) rfl (by kernel_rfl) (by kernel_rfl) (by kernel_rfl) (fun _ _ _ h => h) (Or.inr ⟨by rfl, rfl⟩) hS2 ?_
      change wpAnyH _ _ _ _ _ _ _ (Act.put _ (some 25) (undef)) _
      simp only [Act.put, List.setIfInBounds_toArray, List.set_cons_zero, List.set_cons_succ]
      refine wpAnyH_take (i := 23) (v := undef) rfl (by kernel_rfl) (by kernel_rfl) (by kernel_rfl) (fun _ _ _ h => h) (Or.inr ⟨by rfl, rfl⟩) hS2 ?_
      change wpAnyH _ _ _ _ _ _ _ (Act.put _ (some 26) (undef)) _
      simp only [Act.put, List.setIfInBounds_toArray, List.set_cons_zero, List.set_cons_succ]
      refine wpAnyH_take (i := 24) (v := undef) rfl (by kernel_rfl) (by kernel_rfl) (by kernel_rfl) (fun _ _ _ h => h) (Or.inr ⟨by rfl, rfl⟩) hS2 ?_
      change wpAnyH _ _ _ _ _ _ _ (Act.put _ (some 27) (undef)) _
      simp only [Act.put, List.setIfInBounds_toArray, List.set_cons_zero, List.set_cons_succ]
      refine wpAnyH_take (i := 25) (v := undef) rfl (by kernel_rfl) (by kernel_rfl) (by kernel_rfl) (fun _ _ _ h => h) (Or.inr ⟨by rfl, rfl⟩) hS2 ?_
      change wpAnyH _ _ _ _ _ _ _ (Act.put _ (some 28) (undef)) _
      simp only [Act.put, List.setIfInBounds_toArray, List.set_cons_zero, List.set_cons_succ]
      refine wpAnyH_take (i := 26) (v := undef) rfl (by kernel_rfl) (by kernel_rfl) (by kernel_rfl) (fun _ _ _ h => h) (Or.inr ⟨by rfl, rfl⟩) hS2 ?_
      change wpAnyH _ _ _ _ _ _ _ (Act.put _ (some 29) (undef)) _
      simp only [Act.put, List.setIfInBounds_toArray, List.set_cons_zero, List.set_cons_succ]
      refine wpAnyH_take (i := 27) (v := .bool false) rfl (by kernel_rfl) (by kernel_rfl) (by kernel_rfl) (fun _ _ _ h => h) (Or.inl ⟨by rfl, fun w' hS' => by go_simp⟩) hS2 ?_
      change wpAnyH _ _ _ _ _ _ _ (Act.put _ (some 30) (.bool false)) _
      simp only [Act.put, List.setIfInBounds_toArray, List.set_cons_zero, List.set_cons_succ]
      refine wpAnyH_take (i := 28) (v := .bool false) rfl (by kernel_rfl) (by kernel_rfl) (by kernel_rfl) (fun _ _ _ h => h) (Or.inl ⟨by rfl, fun w' hS' => by exact op_assign rfl rfl⟩) hS2 ?_
      change wpAnyH _ _ _ _ _ _ _ (Act.put _ (some 2) (.bool false)) _
      simp only [Act.put, List.setIfInBounds_toArray, List.set_cons_zero, List.set_cons_succ]
      refine wpAnyH_done (by kernel_rfl) ?_ _
      refine NoPanic.normal ?_
      have HS := Lib.hid hS2
      go_wp2_with fail
      go_ret
      exact ⟨ret_bool (HBO.out), HW1.out.trans (HS.out.mono HW1.out.size)⟩
  | true =>
    have hfit := H0.out
    unfold fitsB at hfit
    rw [decide_eq_true_eq] at hfit
    have n1 : 1 ≤ c.parts.length := by omega
    have r1 : 0 ≤ c.room := by omega
    have r2 : c.room ≤ 4096 := by omega
    clear hfit
    cases b1 with
    | false =>
      have HBO : Hid (false = bo) := Lib.hid (by rw [HBD.out]; rfl)
      refine wp_region_noPanic ?_
      refine wp_region_held_drew (S := fun W => Below w1.heap.size w1 W) (by kernel_rfl) ((Below.refl w1.heap.size w1).drew) (fun hS0 => ?_)
      change wpAnyH _ _ _ _ _ 29 #[false, false, false, false, false, false, false, false, false, false, false, false, false, false, false, false, false, false, false, false, false, false, false, false, false, false, false, false, false] _ (World.drew _)
      refine wpAnyH_take (i := 0) (v := .pointer (some ⟨g, 2, none⟩)) rfl (by kernel_rfl) (by kernel_rfl) (by kernel_rfl) (fun _ _ _ h => h) (Or.inl ⟨by rfl, fun w' hS' => by go_simp⟩) hS0 ?_
      change wpAnyH _ _ _ _ _ _ _ (Act.put _ (some 3) (.pointer (some ⟨g, 2, none⟩))) _
      simp only [Act.put, List.setIfInBounds_toArray, List.set_cons_zero, List.set_cons_succ]
      refine wpAnyH_take (i := 1) (v := .slice A c.parts.length cap) rfl (by kernel_rfl) (by kernel_rfl) (by kernel_rfl) (fun _ _ _ h => h) (Or.inl ⟨by rfl, fun w' hS' => by obtain ⟨y0, y1, y2, y3, y4, y5, y6⟩ := HCB.out _ hS'; go_simp⟩) hS0 ?_
      change wpAnyH _ _ _ _ _ _ _ (Act.put _ (some 4) (.slice A c.parts.length cap)) _
      simp only [Act.put, List.setIfInBounds_toArray, List.set_cons_zero, List.set_cons_succ]
      refine wpAnyH_take (i := 2) (v := .int .i64 (c.parts.length : Int)) rfl (by kernel_rfl) (by kernel_rfl) (by kernel_rfl) (fun _ _ _ h => h) (Or.inl ⟨by rfl, fun w' hS' => by go_simp⟩) hS0 ?_
      change wpAnyH _ _ _ _ _ _ _ (Act.put _ (some 5) (.int .i64 (c.parts.length : Int))) _
      simp only [Act.put, List.setIfInBounds_toArray, List.set_cons_zero, List.set_cons_succ]
      refine wpAnyH_take (i := 3) (v := .pointer (some ⟨g, 1, none⟩)) rfl (by kernel_rfl) (by kernel_rfl) (by kernel_rfl) (fun _ _ _ h => h) (Or.inl ⟨by rfl, fun w' hS' => by go_simp⟩) hS0 ?_
      change wpAnyH _ _ _ _ _ _ _ (Act.put _ (some 6) (.pointer (some ⟨g, 1, none⟩))) _
      simp only [Act.put, List.setIfInBounds_toArray, List.set_cons_zero, List.set_cons_succ]
      refine wpAnyH_take (i := 4) (v := .int .i64 c.room) rfl (by kernel_rfl) (by kernel_rfl) (by kernel_rfl) (fun _ _ _ h => h) (Or.inl ⟨by rfl, fun w' hS' => by obtain ⟨y0, y1, y2, y3, y4, y5, y6⟩ := HCB.out _ hS'; go_simp⟩) hS0 ?_
      change wpAnyH _ _ _ _ _ _ _ (Act.put _ (some 7) (.int .i64 c.room)) _
      simp only [Act.put, List.setIfInBounds_toArray, List.set_cons_zero, List.set_cons_succ]
      refine wpAnyH_take (i := 5) (v := .pointer (some ⟨g, 0, none⟩)) rfl (by kernel_rfl) (by kernel_rfl) (by kernel_rfl) (fun _ _ _ h => h) (Or.inl ⟨by rfl, fun w' hS' => by go_simp⟩) hS0 ?_
      change wpAnyH _ _ _ _ _ _ _ (Act.put _ (some 8) (.pointer (some ⟨g, 0, none⟩))) _
      simp only [Act.put, List.setIfInBounds_toArray, List.set_cons_zero, List.set_cons_succ]
      refine wpAnyH_take (i := 6) (v := .int .i64 c.width) rfl (by kernel_rfl) (by kernel_rfl) (by kernel_rfl) (fun _ _ _ h => h) (Or.inl ⟨by rfl, fun w' hS' => by obtain ⟨y0, y1, y2, y3, y4, y5, y6⟩ := HCB.out _ hS'; go_simp⟩) hS0 ?_
      change wpAnyH _ _ _ _ _ _ _ (Act.put _ (some 9) (.int .i64 c.width)) _
      simp only [Act.put, List.setIfInBounds_toArray, List.set_cons_zero, List.set_cons_succ]
      refine wpAnyH_ready (rs := [7]) (by kernel_rfl) (by simp) (AllReadyH.cons rfl (fun K hK => ?_) (AllReadyH.nil))
      · skip
        go_simp
        refine (may_v _ _ _ _ _ H0.out).mono ?_
        rintro e W1 ⟨rfl, rfl⟩
        refine hK.out _ _ hS0 (fun hS2 => ?_)
        clear hK K
        simp only [List.setIfInBounds_toArray, List.set_cons_zero, List.set_cons_succ]
        refine wpAnyH_take (i := 8) (v := .bool true) rfl (by kernel_rfl) (by kernel_rfl) (by kernel_rfl) (fun _ _ _ h => h) (Or.inl ⟨by rfl, fun w' hS' => by exact op_move rfl rfl⟩) hS2 ?_
        change wpAnyH _ _ _ _ _ _ _ (Act.put _ (some 11) (.bool true)) _
        simp only [Act.put, List.setIfInBounds_toArray, List.set_cons_zero, List.set_cons_succ]
        refine wpAnyH_take (i := 9) (v := .pointer (some ⟨g, 3, none⟩)) rfl (by kernel_rfl) (by kernel_rfl) (by kernel_rfl) (fun _ _ _ h => h) (Or.inl ⟨by rfl, fun w' hS' => by go_simp⟩) hS2 ?_
        change wpAnyH _ _ _ _ _ _ _ (Act.put _ (some 12) (.pointer (some ⟨g, 3, none⟩))) _
        simp only [Act.put, List.setIfInBounds_toArray, List.set_cons_zero, List.set_cons_succ]
        refine wpAnyH_take (i := 10) (v := .int .i64 c.hits) rfl (by kernel_rfl) (by kernel_rfl) (by kernel_rfl) (fun _ _ _ h => h) (Or.inl ⟨by rfl, fun w' hS' => by obtain ⟨y0, y1, y2, y3, y4, y5, y6⟩ := HCB.out _ hS'; go_simp⟩) hS2 ?_
        change wpAnyH _ _ _ _ _ _ _ (Act.put _ (some 13) (.int .i64 c.hits)) _
        simp only [Act.put, List.setIfInBounds_toArray, List.set_cons_zero, List.set_cons_succ]
        refine wpAnyH_take (i := 11) (v := .pointer (some ⟨g, 4, none⟩)) rfl (by kernel_rfl) (by kernel_rfl) (by kernel_rfl) (fun _ _ _ h => h) (Or.inl ⟨by rfl, fun w' hS' => by go_simp⟩) hS2 ?_
        change wpAnyH _ _ _ _ _ _ _ (Act.put _ (some 14) (.pointer (some ⟨g, 4, none⟩))) _
        simp only [Act.put, List.setIfInBounds_toArray, List.set_cons_zero, List.set_cons_succ]
        refine wpAnyH_take (i := 12) (v := .int .i64 c.misses) rfl (by kernel_rfl) (by kernel_rfl) (by kernel_rfl) (fun _ _ _ h => h) (Or.inl ⟨by rfl, fun w' hS' => by obtain ⟨y0, y1, y2, y3, y4, y5, y6⟩ := HCB.out _ hS'; go_simp⟩) hS2 ?_
        change wpAnyH _ _ _ _ _ _ _ (Act.put _ (some 15) (.int .i64 c.misses)) _
        simp only [Act.put, List.setIfInBounds_toArray, List.set_cons_zero, List.set_cons_succ]
        refine wpAnyH_take (i := 13) (v := .pointer (some ⟨g, 5, none⟩)) rfl (by kernel_rfl) (by kernel_rfl) (by kernel_rfl) (fun _ _ _ h => h) (Or.inl ⟨by rfl, fun w' hS' => by go_simp⟩) hS2 ?_
        change wpAnyH _ _ _ _ _ _ _ (Act.put _ (some 16) (.pointer (some ⟨g, 5, none⟩))) _
        simp only [Act.put, List.setIfInBounds_toArray, List.set_cons_zero, List.set_cons_succ]
        refine wpAnyH_take (i := 14) (v := .int .i64 c.clashes) rfl (by kernel_rfl) (by kernel_rfl) (by kernel_rfl) (fun _ _ _ h => h) (Or.inl ⟨by rfl, fun w' hS' => by obtain ⟨y0, y1, y2, y3, y4, y5, y6⟩ := HCB.out _ hS'; go_simp⟩) hS2 ?_
        change wpAnyH _ _ _ _ _ _ _ (Act.put _ (some 17) (.int .i64 c.clashes)) _
        simp only [Act.put, List.setIfInBounds_toArray, List.set_cons_zero, List.set_cons_succ]
        refine wpAnyH_take (i := 15) (v := .pointer (some ⟨g, 6, none⟩)) rfl (by kernel_rfl) (by kernel_rfl) (by kernel_rfl) (fun _ _ _ h => h) (Or.inl ⟨by rfl, fun w' hS' => by go_simp⟩) hS2 ?_
        change wpAnyH _ _ _ _ _ _ _ (Act.put _ (some 18) (.pointer (some ⟨g, 6, none⟩))) _
        simp only [Act.put, List.setIfInBounds_toArray, List.set_cons_zero, List.set_cons_succ]
        refine wpAnyH_take (i := 16) (v := .int .i64 c.evicted) rfl (by kernel_rfl) (by kernel_rfl) (by kernel_rfl) (fun _ _ _ h => h) (Or.inl ⟨by rfl, fun w' hS' => by obtain ⟨y0, y1, y2, y3, y4, y5, y6⟩ := HCB.out _ hS'; go_simp⟩) hS2 ?_
        change wpAnyH _ _ _ _ _ _ _ (Act.put _ (some 19) (.int .i64 c.evicted)) _
        simp only [Act.put, List.setIfInBounds_toArray, List.set_cons_zero, List.set_cons_succ]
        refine wpAnyH_ready (rs := [17]) (by kernel_rfl) (by simp) (AllReadyH.cons rfl (fun K hK => ?_) (AllReadyH.nil))
        · skip
          obtain ⟨gb5, W3, hr8, ho6, hb7⟩ := op_ints4 c.hits c.misses c.clashes c.evicted _
          refine step_op_run_g (by rfl) (hr8 _ _ _ _ _ _ rfl rfl rfl rfl rfl) ?_
          refine hK.out _ _ (hS2.trans (hb7.mono hS2.size)) (fun hS4 => ?_)
          clear hK K
          change wpAnyH _ _ _ _ _ _ _ (Act.put _ (some 20) (.slice (some ⟨gb5, 0, none⟩) 4 4)) _
          simp only [Act.put, List.setIfInBounds_toArray, List.set_cons_zero, List.set_cons_succ]
          refine wpAnyH_ready (rs := [18]) (by kernel_rfl) (by simp) (AllReadyH.cons rfl (fun K hK => ?_) (AllReadyH.nil))
          · skip
            go_simp
            refine (counted_v _ _ 4 4 _ _ H1.out ho6 rfl (by simp)).mono ?_
            rintro e W9 ⟨rfl, rfl⟩
            refine hK.out _ _ hS4 (fun hS10 => ?_)
            clear hK K
            simp only [List.setIfInBounds_toArray, List.set_cons_zero, List.set_cons_succ]
            refine wpAnyH_take (i := 19) (v := .bool false) rfl (by kernel_rfl) (by kernel_rfl) (by kernel_rfl) (fun _ _ _ h => h) (Or.inl ⟨by rfl, fun w' hS' => by go_simp⟩) hS10 ?_
            change wpAnyH _ _ _ _ _ _ _ (Act.put _ (some 22) (.bool false)) _
            simp only [Act.put, List.setIfInBounds_toArray, List.set_cons_zero, List.set_cons_succ]
            refine wpAnyH_take (i := 20) (v := .bool false) rfl (by kernel_rfl) (by kernel_rfl) (by kernel_rfl) (fun _ _ _ h => h) (Or.inl ⟨by rfl, fun w' hS' => by exact op_move rfl rfl⟩) hS10 ?_
            change wpAnyH _ _ _ _ _ _ _ (Act.put _ (some 23) (.bool false)) _
            simp only [Act.put, List.setIfInBounds_toArray, List.set_cons_zero, List.set_cons_succ]
            refine wpAnyH_take (i := 21) (v := undef) rfl (by kernel_rfl) (by kernel_rfl) (by kernel_rfl) (fun _ _ _ h => h) (Or.inr ⟨by rfl, rfl⟩) hS10 ?_
            change wpAnyH _ _ _ _ _ _ _ (Act.put _ (some 24) (undef)) _
            simp only [Act.put, List.setIfInBounds_toArray, List.set_cons_zero, List.set_cons_succ]
            refine wpAnyH_take (i := 22) (v := undef) rfl (by kernel_rfl) (by kernel_rfl) (by kernel_rfl) (fun _ _ _ h => h) (Or.inr ⟨by rfl, rfl⟩) hS10 ?_
            change wpAnyH _ _ _ _ _ _ _ (Act.put _ (some 25) (undef)) _
            simp only [Act.put, List.setIfInBounds_toArray, List.set_cons_zero, List.set_cons_succ]
            refine wpAnyH_take (i := 23) (v := undef) rfl (by kernel_rfl) (by kernel_rfl) (by kernel_rfl) (fun _ _ _ h => h) (Or.inr ⟨by rfl, rfl⟩) hS10 ?_
            change wpAnyH _ _ _ _ _ _ _ (Act.put _ (some 26) (undef)) _
            simp only [Act.put, List.setIfInBounds_toArray, List.set_cons_zero, List.set_cons_succ]
            refine wpAnyH_take (i := 24) (v := undef) rfl (by kernel_rfl) (by kernel_rfl) (by kernel_rfl) (fun _ _ _ h => h) (Or.inr ⟨by rfl, rfl⟩) hS10 ?_
            change wpAnyH _ _ _ _ _ _ _ (Act.put _ (some 27) (undef)) _
            simp only [Act.put, List.setIfInBounds_toArray, List.set_cons_zero, List.set_cons_succ]
            refine wpAnyH_take (i := 25) (v := undef) rfl (by kernel_rfl) (by kernel_rfl) (by kernel_rfl) (fun _ _ _ h => h) (Or.inr ⟨by rfl, rfl⟩) hS10 ?_
            change wpAnyH _ _ _ _ _ _ _ (Act.put _ (some 28) (undef)) _
            simp only [Act.put, List.setIfInBounds_toArray, List.set_cons_zero, List.set_cons_succ]
            refine wpAnyH_take (i := 26) (v := undef) rfl (by kernel_rfl) (by kernel_rfl) (by kernel_rfl) (fun _ _ _ h => h) (Or.inr ⟨by rfl, rfl⟩) hS10 ?_
            change wpAnyH _ _ _ _ _ _ _ (Act.put _ (some 29) (undef)) _
            simp only [Act.put, List.setIfInBounds_toArray, List.set_cons_zero, List.set_cons_succ]
            refine wpAnyH_take (i := 27) (v := .bool false) rfl (by kernel_rfl) (by kernel_rfl) (by kernel_rfl) (fun _ _ _ h => h) (Or.inl ⟨by rfl, fun w' hS' => by go_simp⟩) hS10 ?_
            change wpAnyH _ _ _ _ _ _ _ (Act.put _ (some 30) (.bool false)) _
            simp only [Act.put, List.setIfInBounds_toArray, List.set_cons_zero, List.set_cons_succ]
            refine wpAnyH_take (i := 28) (v := .bool false) rfl (by kernel_rfl) (by kernel_rfl) (by kernel_rfl) (fun _ _ _ h => h) (Or.inl ⟨by rfl, fun w' hS' => by exact op_assign rfl rfl⟩) hS10 ?_
            change wpAnyH _ _ _ _ _ _ _ (Act.put _ (some 2) (.bool false)) _
            simp only [Act.put, List.setIfInBounds_toArray, List.set_cons_zero, List.set_cons_succ]
            refine wpAnyH_done (by kernel_rfl) ?_ _
            refine NoPanic.normal ?_
            have HS := Lib.hid hS10
            go_wp2_with fail
            go_ret
            exact ⟨ret_bool (HBO.out), HW1.out.trans (HS.out.mono HW1.out.size)⟩
    | true =>
      have HBO : Hid (partsB c c.parts.length = bo) := Lib.hid (by rw [HBD.out]; rfl)
      refine wp_region_noPanic ?_
      refine wp_region_held_drew (S := fun W => Below w1.heap.size w1 W) (by kernel_rfl) ((Below.refl w1.heap.size w1).drew) (fun hS0 => ?_)
      change wpAnyH _ _ _ _ _ 29 #[false, false, false, false, false, false, false, false, false, false, false, false, false, false, false, false, false, false, false, false, false, false, false, false, false, false, false, false, false] _ (World.drew _)
      refine wpAnyH_take (i := 0) (v := .pointer (some ⟨g, 2, none⟩)) rfl (by kernel_rfl) (by kernel_rfl) (by kernel_rfl) (fun _ _ _ h => h) (Or.inl ⟨by rfl, fun w' hS' => by go_simp⟩) hS0 ?_
      change wpAnyH _ _ _ _ _ _ _ (Act.put _ (some 3) (.pointer (some ⟨g, 2, none⟩))) _
      simp only [Act.put, List.setIfInBounds_toArray, List.set_cons_zero, List.set_cons_succ]
      refine wpAnyH_take (i := 1) (v := .slice A c.parts.length cap) rfl (by kernel_rfl) (by kernel_rfl) (by kernel_rfl) (fun _ _ _ h => h) (Or.inl ⟨by rfl, fun w' hS' => by obtain ⟨y0, y1, y2, y3, y4, y5, y6⟩ := HCB.out _ hS'; go_simp⟩) hS0 ?_
      change wpAnyH _ _ _ _ _ _ _ (Act.put _ (some 4) (.slice A c.parts.length cap)) _
      simp only [Act.put, List.setIfInBounds_toArray, List.set_cons_zero, List.set_cons_succ]
      refine wpAnyH_take (i := 2) (v := .int .i64 (c.parts.length : Int)) rfl (by kernel_rfl) (by kernel_rfl) (by kernel_rfl) (fun _ _ _ h => h) (Or.inl ⟨by rfl, fun w' hS' => by go_simp⟩) hS0 ?_
      change wpAnyH _ _ _ _ _ _ _ (Act.put _ (some 5) (.int .i64 (c.parts.length : Int))) _
      simp only [Act.put, List.setIfInBounds_toArray, List.set_cons_zero, List.set_cons_succ]
      refine wpAnyH_take (i := 3) (v := .pointer (some ⟨g, 1, none⟩)) rfl (by kernel_rfl) (by kernel_rfl) (by kernel_rfl) (fun _ _ _ h => h) (Or.inl ⟨by rfl, fun w' hS' => by go_simp⟩) hS0 ?_
      change wpAnyH _ _ _ _ _ _ _ (Act.put _ (some 6) (.pointer (some ⟨g, 1, none⟩))) _
      simp only [Act.put, List.setIfInBounds_toArray, List.set_cons_zero, List.set_cons_succ]
      refine wpAnyH_take (i := 4) (v := .int .i64 c.room) rfl (by kernel_rfl) (by kernel_rfl) (by kernel_rfl) (fun _ _ _ h => h) (Or.inl ⟨by rfl, fun w' hS' => by obtain ⟨y0, y1, y2, y3, y4, y5, y6⟩ := HCB.out _ hS'; go_simp⟩) hS0 ?_
      change wpAnyH _ _ _ _ _ _ _ (Act.put _ (some 7) (.int .i64 c.room)) _
      simp only [Act.put, List.setIfInBounds_toArray, List.set_cons_zero, List.set_cons_succ]
      refine wpAnyH_take (i := 5) (v := .pointer (some ⟨g, 0, none⟩)) rfl (by kernel_rfl) (by kernel_rfl) (by kernel_rfl) (fun _ _ _ h => h) (Or.inl ⟨by rfl, fun w' hS' => by go_simp⟩) hS0 ?_
      change wpAnyH _ _ _ _ _ _ _ (Act.put _ (some 8) (.pointer (some ⟨g, 0, none⟩))) _
      simp only [Act.put, List.setIfInBounds_toArray, List.set_cons_zero, List.set_cons_succ]
      refine wpAnyH_take (i := 6) (v := .int .i64 c.width) rfl (by kernel_rfl) (by kernel_rfl) (by kernel_rfl) (fun _ _ _ h => h) (Or.inl ⟨by rfl, fun w' hS' => by obtain ⟨y0, y1, y2, y3, y4, y5, y6⟩ := HCB.out _ hS'; go_simp⟩) hS0 ?_
      change wpAnyH _ _ _ _ _ _ _ (Act.put _ (some 9) (.int .i64 c.width)) _
      simp only [Act.put, List.setIfInBounds_toArray, List.set_cons_zero, List.set_cons_succ]
      refine wpAnyH_ready (rs := [7]) (by kernel_rfl) (by simp) (AllReadyH.cons rfl (fun K hK => ?_) (AllReadyH.nil))
      · skip
        go_simp
        refine (may_v _ _ _ _ _ H0.out).mono ?_
        rintro e W1 ⟨rfl, rfl⟩
        refine hK.out _ _ hS0 (fun hS2 => ?_)
        clear hK K
        simp only [List.setIfInBounds_toArray, List.set_cons_zero, List.set_cons_succ]
        refine wpAnyH_take (i := 8) (v := .bool true) rfl (by kernel_rfl) (by kernel_rfl) (by kernel_rfl) (fun _ _ _ h => h) (Or.inl ⟨by rfl, fun w' hS' => by exact op_move rfl rfl⟩) hS2 ?_
        change wpAnyH _ _ _ _ _ _ _ (Act.put _ (some 11) (.bool true)) _
        simp only [Act.put, List.setIfInBounds_toArray, List.set_cons_zero, List.set_cons_succ]
        refine wpAnyH_take (i := 9) (v := .pointer (some ⟨g, 3, none⟩)) rfl (by kernel_rfl) (by kernel_rfl) (by kernel_rfl) (fun _ _ _ h => h) (Or.inl ⟨by rfl, fun w' hS' => by go_simp⟩) hS2 ?_
        change wpAnyH _ _ _ _ _ _ _ (Act.put _ (some 12) (.pointer (some ⟨g, 3, none⟩))) _
        simp only [Act.put, List.setIfInBounds_toArray, List.set_cons_zero, List.set_cons_succ]
        refine wpAnyH_take (i := 10) (v := .int .i64 c.hits) rfl (by kernel_rfl) (by kernel_rfl) (by kernel_rfl) (fun _ _ _ h => h) (Or.inl ⟨by rfl, fun w' hS' => by obtain ⟨y0, y1, y2, y3, y4, y5, y6⟩ := HCB.out _ hS'; go_simp⟩) hS2 ?_
        change wpAnyH _ _ _ _ _ _ _ (Act.put _ (some 13) (.int .i64 c.hits)) _
        simp only [Act.put, List.setIfInBounds_toArray, List.set_cons_zero, List.set_cons_succ]
        refine wpAnyH_take (i := 11) (v := .pointer (some ⟨g, 4, none⟩)) rfl (by kernel_rfl) (by kernel_rfl) (by kernel_rfl) (fun _ _ _ h => h) (Or.inl ⟨by rfl, fun w' hS' => by go_simp⟩) hS2 ?_
        change wpAnyH _ _ _ _ _ _ _ (Act.put _ (some 14) (.pointer (some ⟨g, 4, none⟩))) _
        simp only [Act.put, List.setIfInBounds_toArray, List.set_cons_zero, List.set_cons_succ]
        refine wpAnyH_take (i := 12) (v := .int .i64 c.misses) rfl (by kernel_rfl) (by kernel_rfl) (by kernel_rfl) (fun _ _ _ h => h) (Or.inl ⟨by rfl, fun w' hS' => by obtain ⟨y0, y1, y2, y3, y4, y5, y6⟩ := HCB.out _ hS'; go_simp⟩) hS2 ?_
        change wpAnyH _ _ _ _ _ _ _ (Act.put _ (some 15) (.int .i64 c.misses)) _
        simp only [Act.put, List.setIfInBounds_toArray, List.set_cons_zero, List.set_cons_succ]
        refine wpAnyH_take (i := 13) (v := .pointer (some ⟨g, 5, none⟩)) rfl (by kernel_rfl) (by kernel_rfl) (by kernel_rfl) (fun _ _ _ h => h) (Or.inl ⟨by rfl, fun w' hS' => by go_simp⟩) hS2 ?_
        change wpAnyH _ _ _ _ _ _ _ (Act.put _ (some 16) (.pointer (some ⟨g, 5, none⟩))) _
        simp only [Act.put, List.setIfInBounds_toArray, List.set_cons_zero, List.set_cons_succ]
        refine wpAnyH_take (i := 14) (v := .int .i64 c.clashes) rfl (by kernel_rfl) (by kernel_rfl) (by kernel_rfl) (fun _ _ _ h => h) (Or.inl ⟨by rfl, fun w' hS' => by obtain ⟨y0, y1, y2, y3, y4, y5, y6⟩ := HCB.out _ hS'; go_simp⟩) hS2 ?_
        change wpAnyH _ _ _ _ _ _ _ (Act.put _ (some 17) (.int .i64 c.clashes)) _
        simp only [Act.put, List.setIfInBounds_toArray, List.set_cons_zero, List.set_cons_succ]
        refine wpAnyH_take (i := 15) (v := .pointer (some ⟨g, 6, none⟩)) rfl (by kernel_rfl) (by kernel_rfl) (by kernel_rfl) (fun _ _ _ h => h) (Or.inl ⟨by rfl, fun w' hS' => by go_simp⟩) hS2 ?_
        change wpAnyH _ _ _ _ _ _ _ (Act.put _ (some 18) (.pointer (some ⟨g, 6, none⟩))) _
        simp only [Act.put, List.setIfInBounds_toArray, List.set_cons_zero, List.set_cons_succ]
        refine wpAnyH_take (i := 16) (v := .int .i64 c.evicted) rfl (by kernel_rfl) (by kernel_rfl) (by kernel_rfl) (fun _ _ _ h => h) (Or.inl ⟨by rfl, fun w' hS' => by obtain ⟨y0, y1, y2, y3, y4, y5, y6⟩ := HCB.out _ hS'; go_simp⟩) hS2 ?_
        change wpAnyH _ _ _ _ _ _ _ (Act.put _ (some 19) (.int .i64 c.evicted)) _
        simp only [Act.put, List.setIfInBounds_toArray, List.set_cons_zero, List.set_cons_succ]
        refine wpAnyH_ready (rs := [17]) (by kernel_rfl) (by simp) (AllReadyH.cons rfl (fun K hK => ?_) (AllReadyH.nil))
        · skip
          obtain ⟨gb5, W3, hr8, ho6, hb7⟩ := op_ints4 c.hits c.misses c.clashes c.evicted _
          refine step_op_run_g (by rfl) (hr8 _ _ _ _ _ _ rfl rfl rfl rfl rfl) ?_
          refine hK.out _ _ (hS2.trans (hb7.mono hS2.size)) (fun hS4 => ?_)
          clear hK K
          change wpAnyH _ _ _ _ _ _ _ (Act.put _ (some 20) (.slice (some ⟨gb5, 0, none⟩) 4 4)) _
          simp only [Act.put, List.setIfInBounds_toArray, List.set_cons_zero, List.set_cons_succ]
          refine wpAnyH_ready (rs := [18]) (by kernel_rfl) (by simp) (AllReadyH.cons rfl (fun K hK => ?_) (AllReadyH.nil))
          · skip
            go_simp
            refine (counted_v _ _ 4 4 _ _ H1.out ho6 rfl (by simp)).mono ?_
            rintro e W9 ⟨rfl, rfl⟩
            refine hK.out _ _ hS4 (fun hS10 => ?_)
            clear hK K
            simp only [List.setIfInBounds_toArray, List.set_cons_zero, List.set_cons_succ]
            refine wpAnyH_take (i := 19) (v := .bool true) rfl (by kernel_rfl) (by kernel_rfl) (by kernel_rfl) (fun _ _ _ h => h) (Or.inl ⟨by rfl, fun w' hS' => by go_simp⟩) hS10 ?_
            change wpAnyH _ _ _ _ _ _ _ (Act.put _ (some 22) (.bool true)) _
            simp only [Act.put, List.setIfInBounds_toArray, List.set_cons_zero, List.set_cons_succ]
            refine wpAnyH_take (i := 20) (v := .bool true) rfl (by kernel_rfl) (by kernel_rfl) (by kernel_rfl) (fun _ _ _ h => h) (Or.inl ⟨by rfl, fun w' hS' => by exact op_move rfl rfl⟩) hS10 ?_
            change wpAnyH _ _ _ _ _ _ _ (Act.put _ (some 23) (.bool true)) _
            simp only [Act.put, List.setIfInBounds_toArray, List.set_cons_zero, List.set_cons_succ]
            refine wpAnyH_take (i := 21) (v := .agg #[.int .i64 c.width, .int .i64 c.room, .slice A c.parts.length cap, .int .i64 c.hits, .int .i64 c.misses, .int .i64 c.clashes, .int .i64 c.evicted]) rfl (by kernel_rfl) (by kernel_rfl) (by kernel_rfl) (fun _ _ _ h => h) (Or.inl ⟨by rfl, fun w' hS' => by obtain ⟨y0, y1, y2, y3, y4, y5, y6⟩ := HCB.out _ hS'; go_simp⟩) hS10 ?_
            change wpAnyH _ _ _ _ _ _ _ (Act.put _ (some 24) (.agg #[.int .i64 c.width, .int .i64 c.room, .slice A c.parts.length cap, .int .i64 c.hits, .int .i64 c.misses, .int .i64 c.clashes, .int .i64 c.evicted])) _
            simp only [Act.put, List.setIfInBounds_toArray, List.set_cons_zero, List.set_cons_succ]
            refine wpAnyH_take (i := 23) (v := .pointer (some ⟨g, 2, none⟩)) rfl (by kernel_rfl) (by kernel_rfl) (by kernel_rfl) (fun _ _ _ h => h) (Or.inl ⟨by rfl, fun w' hS' => by go_simp⟩) hS10 ?_
            change wpAnyH _ _ _ _ _ _ _ (Act.put _ (some 26) (.pointer (some ⟨g, 2, none⟩))) _
            simp only [Act.put, List.setIfInBounds_toArray, List.set_cons_zero, List.set_cons_succ]
            refine wpAnyH_take (i := 24) (v := .slice A c.parts.length cap) rfl (by kernel_rfl) (by kernel_rfl) (by kernel_rfl) (fun _ _ _ h => h) (Or.inl ⟨by rfl, fun w' hS' => by obtain ⟨y0, y1, y2, y3, y4, y5, y6⟩ := HCB.out _ hS'; go_simp⟩) hS10 ?_
            change wpAnyH _ _ _ _ _ _ _ (Act.put _ (some 27) (.slice A c.parts.length cap)) _
            simp only [Act.put, List.setIfInBounds_toArray, List.set_cons_zero, List.set_cons_succ]
            refine wpAnyH_take (i := 25) (v := .int .i64 (c.parts.length : Int)) rfl (by kernel_rfl) (by kernel_rfl) (by kernel_rfl) (fun _ _ _ h => h) (Or.inl ⟨by rfl, fun w' hS' => by go_simp⟩) hS10 ?_
            change wpAnyH _ _ _ _ _ _ _ (Act.put _ (some 28) (.int .i64 (c.parts.length : Int))) _
            simp only [Act.put, List.setIfInBounds_toArray, List.set_cons_zero, List.set_cons_succ]
            refine wpAnyH_ready (rs := [22]) (by kernel_rfl) (by simp) (AllReadyH.cons rfl (fun K hK => ?_) (AllReadyH.nil))
            · skip
              go_simp
              refine (fitting_any c A c.parts.length cap _ ((HA.out.up HW1.out).up hS10) rfl HF.out n1 r1 r2).mono ?_
              rintro e W11 ⟨k, rfl, hk, hb13⟩
              refine hK.out _ _ (hS10.trans (hb13.mono hS10.size)) (fun hS12 => ?_)
              clear hK K
              simp only [List.setIfInBounds_toArray, List.set_cons_zero, List.set_cons_succ]
              refine wpAnyH_take (i := 26) (v := .bool (partsB c c.parts.length)) rfl (by kernel_rfl) (by kernel_rfl) (by kernel_rfl) (fun _ _ _ h => h) (Or.inl ⟨by rfl, fun w' hS' => by go_simp⟩) hS12 ?_
              change wpAnyH _ _ _ _ _ _ _ (Act.put _ (some 29) (.bool (partsB c c.parts.length))) _
              simp only [Act.put, List.setIfInBounds_toArray, List.set_cons_zero, List.set_cons_succ]
              refine wpAnyH_take (i := 27) (v := .bool (partsB c c.parts.length)) rfl (by kernel_rfl) (by kernel_rfl) (by kernel_rfl) (fun _ _ _ h => h) (Or.inl ⟨by rfl, fun w' hS' => by go_simp⟩) hS12 ?_
              change wpAnyH _ _ _ _ _ _ _ (Act.put _ (some 30) (.bool (partsB c c.parts.length))) _
              simp only [Act.put, List.setIfInBounds_toArray, List.set_cons_zero, List.set_cons_succ]
              refine wpAnyH_take (i := 28) (v := .bool (partsB c c.parts.length)) rfl (by kernel_rfl) (by kernel_rfl) (by kernel_rfl) (fun _ _ _ h => h) (Or.inl ⟨by rfl, fun w' hS' => by exact op_assign rfl rfl⟩) hS12 ?_
              change wpAnyH _ _ _ _ _ _ _ (Act.put _ (some 2) (.bool (partsB c c.parts.length))) _
              simp only [Act.put, List.setIfInBounds_toArray, List.set_cons_zero, List.set_cons_succ]
              refine wpAnyH_done (by kernel_rfl) ?_ _
              refine NoPanic.normal ?_
              have HS := Lib.hid hS12
              go_wp2_with fail
              go_ret
              exact ⟨ret_bool (HBO.out), HW1.out.trans (HS.out.mono HW1.out.size)⟩

end Go.Proofs.Ytjifmfgfmciaeaa
