/-
  Package flight: own: a fill in memory of its own; nothing that was there is changed.
-/
import Derived.Test.YtllkegonhghkcaaRle
import Derived.Test.YtllkegonhghkcaaShelf
namespace Go.Proofs.Ytllkegonhghkcaa
open Go.RowKit P15

theorem clone_any (s : ByteArray) (w : World) (hs : s.size ≤ 140737488355328) :
    Calls Try.prog 34 #[.string s] w fun e w' => e = .returned (.string s) ∧ Below w.heap.size w w' := by
  go_enter Try.func34, Try.ntmps34
  go_wp2_with (go_at_call 35; refine (Try.stringslite_Clone _ _ (by omega)).mono ?_; rintro e w' ⟨rfl, hb⟩)
  go_ret
  exact ⟨rfl, hb⟩
theorem op_store_own {g j : Nat} {s : ByteArray} {t : TypeId} {cs : Array Value} {W : World} {o : Oper} {a : Act} {p q : Operand} (hb : Blk W g t cs) (hj : cs[j]? = some (.string s)) (ho : o.op = Op.store 9 p q) (hp : a.eval p = .pointer (some ⟨g, j, none⟩)) (hq : a.eval q = .string s) :
    (execOp a.eval o).run Try.prog W = .ok .skip (W.setCell ⟨g, j, none⟩ (.string s)) := by
  have y := (Blk.cell hb j).trans hj
  have z := Blk.frozen hb j
  simp only [execOp, ho, hp, hq]
  go_simp
/-- a fill in memory of its own -/
def OwnTold (l r : ByteArray) (b : Int) (ws : List Int) (m : Nat) (w : World) (e : Ending) (w' : World) : Prop :=
  ∃ (A : Option Addr) (c : Nat), e = .returned (.agg #[.string l, .string r, .int .i64 b, .slice A m c]) ∧ OwnI w w' (.slice A m c) ws

set_option maxHeartbeats 4000000 in
theorem own_any (l r : ByteArray) (b : Int) (ws : List Int) (A : Option Addr) (m c : Nat) (w : World) (hi : IntsAt w A ws) (hm : ws.length = m) (hl : m ≤ 2000) (h1 : l.size ≤ 140737488355328) (h2 : r.size ≤ 140737488355328) :
    Calls Try.prog 28 #[.agg #[.string l, .string r, .int .i64 b, .slice A m c]] w (OwnTold l r b ws m w) := by
  have HI := Lib.hid hi
  have HM := Lib.hid hm
  have HFl := Lib.hid h1
  have HFr := Lib.hid h2
  clear hi hm h1 h2
  go_enter Try.func28, Try.ntmps28
  go_wp2_with fail
  have hb0 : Blk ((w.alloc (.cells #[.string l, .string r, .int .i64 b, .slice A m c] 28)).alloc (.cells #[.string ⟨#[]⟩, .string ⟨#[]⟩, .int .i64 0, .slice none 0 0] 28)) w.heap.size 28 #[.string l, .string r, .int .i64 b, .slice A m c] := (Blk.new w _ _).alloc _
  have hb2 : Blk ((w.alloc (.cells #[.string l, .string r, .int .i64 b, .slice A m c] 28)).alloc (.cells #[.string ⟨#[]⟩, .string ⟨#[]⟩, .int .i64 0, .slice none 0 0] 28)) (w.heap.size + 1) 28 #[.string ⟨#[]⟩, .string ⟨#[]⟩, .int .i64 0, .slice none 0 0] := by
    have := Blk.new (w.alloc (.cells #[.string l, .string r, .int .i64 b, .slice A m c] 28)) 28 #[.string ⟨#[]⟩, .string ⟨#[]⟩, .int .i64 0, .slice none 0 0]
    simpa using this
  have hw0 : Below w.heap.size w ((w.alloc (.cells #[.string l, .string r, .int .i64 b, .slice A m c] 28)).alloc (.cells #[.string ⟨#[]⟩, .string ⟨#[]⟩, .int .i64 0, .slice none 0 0] 28)) := ((Below.refl _ _).alloc (Nat.le_refl _) _).alloc (by simp) _
  obtain ⟨w1, hw1⟩ : ∃ w1, w1 = (w.alloc (.cells #[.string l, .string r, .int .i64 b, .slice A m c] 28)).alloc (.cells #[.string ⟨#[]⟩, .string ⟨#[]⟩, .int .i64 0, .slice none 0 0] 28) := ⟨_, rfl⟩
  obtain ⟨g, hg⟩ : ∃ g, g = w.heap.size := ⟨_, rfl⟩
  obtain ⟨g2, hg2⟩ : ∃ g2, g2 = w.heap.size + 1 := ⟨_, rfl⟩
  rw [← hw1] at hb0 hb2 hw0 ⊢
  rw [← hg2] at hb2 ⊢
  rw [← hg] at hb0
  have HG : Hid (w.heap.size ≤ g) := Lib.hid (by omega)
  have HG2 : Hid (w.heap.size ≤ g2) := Lib.hid (by omega)
  have HNE : Hid (g2 ≠ g) := Lib.hid (by omega)
  rw [show (⟨w.heap.size, 0, none⟩ : Addr) = ⟨g, 0, none⟩ from by rw [hg]]
  have HB0 := Lib.hid hb0
  have HB2 := Lib.hid hb2
  have HW0 := Lib.hid hw0
  clear hb0 hb2 hw0 hw1 hg hg2
  refine wp_region_noPanic ?_
  refine wp_region_held_drew (S := fun W => (Blk W g 28 #[.string l, .string r, .int .i64 b, .slice A m c] ∧ Blk W g2 28 #[.string ⟨#[]⟩, .string ⟨#[]⟩, .int .i64 0, .slice none 0 0]) ∧ Below w.heap.size w W) (by kernel_rfl) (⟨⟨HB0.out, HB2.out⟩, HW0.out.drew⟩) (fun hS0 => ?_)
  change wpAnyH _ _ _ _ _ 10 #[false, false, false, false, false, false, false, false, false, false] _ (World.drew _)
  refine wpAnyH_take (i := 0) (v := .pointer (some ⟨g, 0, none⟩)) rfl (by kernel_rfl) (by kernel_rfl) (by kernel_rfl) (fun _ _ _ h => h) (Or.inl ⟨by rfl, fun w' hS' => by go_simp⟩) hS0 ?_
  change wpAnyH _ _ _ _ _ _ _ (Act.put _ (some 3) (.pointer (some ⟨g, 0, none⟩))) _
  simp only [Act.put, List.setIfInBounds_toArray, List.set_cons_zero, List.set_cons_succ]
  refine wpAnyH_take (i := 1) (v := .string l) rfl (by kernel_rfl) (by kernel_rfl) (by kernel_rfl) (fun _ _ _ h => h) (Or.inl ⟨by rfl, fun w' hS' => by obtain ⟨y0, y1, y2, y3⟩ := blk4 hS'.1.1; go_simp⟩) hS0 ?_
  change wpAnyH _ _ _ _ _ _ _ (Act.put _ (some 4) (.string l)) _
  simp only [Act.put, List.setIfInBounds_toArray, List.set_cons_zero, List.set_cons_succ]
  refine wpAnyH_take (i := 3) (v := .pointer (some ⟨g, 1, none⟩)) rfl (by kernel_rfl) (by kernel_rfl) (by kernel_rfl) (fun _ _ _ h => h) (Or.inl ⟨by rfl, fun w' hS' => by go_simp⟩) hS0 ?_
  change wpAnyH _ _ _ _ _ _ _ (Act.put _ (some 6) (.pointer (some ⟨g, 1, none⟩))) _
  simp only [Act.put, List.setIfInBounds_toArray, List.set_cons_zero, List.set_cons_succ]
  refine wpAnyH_take (i := 4) (v := .string r) rfl (by kernel_rfl) (by kernel_rfl) (by kernel_rfl) (fun _ _ _ h => h) (Or.inl ⟨by rfl, fun w' hS' => by obtain ⟨y0, y1, y2, y3⟩ := blk4 hS'.1.1; go_simp⟩) hS0 ?_
  change wpAnyH _ _ _ _ _ _ _ (Act.put _ (some 7) (.string r)) _
  simp only [Act.put, List.setIfInBounds_toArray, List.set_cons_zero, List.set_cons_succ]
  refine wpAnyH_ready (rs := [2]) (by kernel_rfl) (by simp) (AllReadyH.cons rfl (fun K hK => ?_) (AllReadyH.nil))
  · skip
    go_simp
    refine (clone_any l _ HFl.out).mono ?_
    rintro e W1 ⟨rfl, hb3⟩
    refine hK.out _ _ ⟨⟨Blk.below hS0.1.1 hb3 hS0.1.1.lt, Blk.below hS0.1.2 hb3 hS0.1.2.lt⟩, hS0.2.trans (hb3.mono hS0.2.size)⟩ (fun hS2 => ?_)
    clear hK K
    simp only [List.setIfInBounds_toArray, List.set_cons_zero, List.set_cons_succ]
    refine wpAnyH_take (i := 6) (v := .pointer (some ⟨g, 0, none⟩)) rfl (by kernel_rfl) (by kernel_rfl) (by kernel_rfl) (fun _ _ _ h => h) (Or.inl ⟨by rfl, fun w' hS' => by go_simp⟩) hS2 ?_
    change wpAnyH _ _ _ _ _ _ _ (Act.put _ (some 9) (.pointer (some ⟨g, 0, none⟩))) _
    simp only [Act.put, List.setIfInBounds_toArray, List.set_cons_zero, List.set_cons_succ]
    refine wpAnyH_ready (rs := [5]) (by kernel_rfl) (by simp) (AllReadyH.cons rfl (fun K hK => ?_) (AllReadyH.nil))
    · skip
      go_simp
      refine (clone_any r _ HFr.out).mono ?_
      rintro e W4 ⟨rfl, hb6⟩
      refine hK.out _ _ ⟨⟨Blk.below hS2.1.1 hb6 hS2.1.1.lt, Blk.below hS2.1.2 hb6 hS2.1.2.lt⟩, hS2.2.trans (hb6.mono hS2.2.size)⟩ (fun hS5 => ?_)
      clear hK K
      simp only [List.setIfInBounds_toArray, List.set_cons_zero, List.set_cons_succ]
      refine wpAnyH_ready (rs := [7]) (by kernel_rfl) (by simp) (AllReadyH.cons rfl (fun K hK => ?_) (AllReadyH.nil))
      · skip
        refine step_op_skip (op_store_own (j := 0) (s := l) hS5.1.1 (by rfl) rfl rfl rfl) rfl ?_
        refine hK.out _ _ ⟨⟨Blk.set_ hS5.1.1 0 (.string l), Blk.far hS5.1.2 HNE.out _⟩, hS5.2.setCell HG.out _⟩ (fun hS7 => ?_)
        clear hK K
        change wpAnyH _ _ _ _ _ _ _ (Act.put _ none (undef)) _
        simp only [Act.put]
        refine wpAnyH_take (i := 8) (v := .pointer (some ⟨g, 1, none⟩)) rfl (by kernel_rfl) (by kernel_rfl) (by kernel_rfl) (fun _ _ _ h => h) (Or.inl ⟨by rfl, fun w' hS' => by go_simp⟩) hS7 ?_
        change wpAnyH _ _ _ _ _ _ _ (Act.put _ (some 10) (.pointer (some ⟨g, 1, none⟩))) _
        simp only [Act.put, List.setIfInBounds_toArray, List.set_cons_zero, List.set_cons_succ]
        refine wpAnyH_ready (rs := [9]) (by kernel_rfl) (by simp) (AllReadyH.cons rfl (fun K hK => ?_) (AllReadyH.nil))
        · skip
          refine step_op_skip (op_store_own (j := 1) (s := r) hS7.1.1 (by rfl) rfl rfl rfl) rfl ?_
          refine hK.out _ _ ⟨⟨Blk.set_ hS7.1.1 1 (.string r), Blk.far hS7.1.2 HNE.out _⟩, hS7.2.setCell HG.out _⟩ (fun hS8 => ?_)
          clear hK K
          change wpAnyH _ _ _ _ _ _ _ (Act.put _ none (undef)) _
          simp only [Act.put]
          refine wpAnyH_done (by kernel_rfl) ?_ _
          refine NoPanic.normal ?_
          have hend := hS8
          obtain ⟨⟨hx1, hz1⟩, hw1⟩ := hend
          obtain ⟨A5, c5, w5, hr5, ho5, hgr5⟩ := int_append (own_nil_ints _) m c (HI.out.up hw1) HM.out m (by simp) (by omega)
          have HR5 := Lib.hid hr5
          have hx5 := Blk.below hx1 ho5.2 hx1.lt
          have hz5 := Blk.below hz1 ho5.2 hz1.lt
          have HX5 := Lib.hid hx5
          have HZ5 := Lib.hid hz5
          have HO5 : Hid (OwnI w w5 (.slice A5 m c5) ws) := Lib.hid (OwnR.base ho5 hw1)
          obtain ⟨y0, y1, y2, y3⟩ := blk4 hx1
          obtain ⟨u0, u1, u2, u3⟩ := blk4 hx5
          obtain ⟨z0, z1, z2, z3⟩ := blk4 hz5
          have p3 := Blk.frozen hx5 3
          have q0 := Blk.frozen hz5 0
          have q1 := Blk.frozen hz5 1
          have q2 := Blk.frozen hz5 2
          have q3 := Blk.frozen hz5 3
          have HN := HNE.out
          clear hx1 hz1 hw1 hr5 ho5 hgr5 hx5 hz5
          go_wp2_with (at_builtin; refine wpList_append_run rfl rfl (by simp [Region.wanted]) rfl rfl HR5.out ?_; clear HR5)
          have hbe := HO5.out.2
          refine bodyPost_ret (v := .agg #[.string l, .string r, .int .i64 b, .slice A5 m c5]) (by simp [results, Try.results28, go_sem, z0, z1, z2, z3]) rfl ?_
          refine ⟨A5, c5, rfl, OwnR.keep HO5.out (fun k cs hk => ?_) ?_⟩
          · have n1 : k ≠ g := blk_ne hk HX5.out (by decide)
            have n2 : k ≠ g2 := blk_ne hk HZ5.out (by decide)
            exact ((((Blk.far hk n1 _).far n2 _).far n2 _).far n2 _).far n2 _
          · exact ((((hbe.setCell HG.out _).setCell HG2.out _).setCell HG2.out _).setCell HG2.out _).setCell HG2.out _

end Go.Proofs.Ytllkegonhghkcaa
