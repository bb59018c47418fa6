/-
  collatorlaw16.Task and Tasks: tasks of raw numbers. Nothing that was there is changed.
-/
import Derived.Test.YtaelenjnjoeheaaSam
namespace Go.Proofs.Ytaelenjnjoeheaa
open Go.RowKit P16

theorem text_v (k : Int) (l : ByteArray) (hl : textOf k = l) (w : World) (hk : I64 k) :
    Calls Try.prog 29 #[.int .i64 k] w fun e w' => e = .returned (.string l) ∧ Below w.heap.size w w' := by
  subst hl; exact text_any k w hk
/-- a raw task -/
structure Tri where
  n0 : Int
  n1 : Int
  n2 : Int
def Tri.cells (x : Tri) : List Value := [.int .i64 x.n0, .int .i64 x.n1, .int .i64 x.n2]
theorem tri_len : ∀ x : Tri, x.cells.length = 3 := fun _ => rfl
abbrev TrisAt (w : World) (A : Option Addr) (L : List Tri) : Prop := RowAt Tri.cells 3 w A L
def FitN (L : List Tri) : Prop := ∀ x ∈ L, I64 x.n0 ∧ I64 x.n1 ∧ I64 x.n2
def tkOf (x : Tri) : Tk := ⟨pickI x.n0 4, pickI x.n1 5, textOf x.n2, textOf (x.n2.tdiv 6)⟩
theorem tri_fields {w : World} {A : Option Addr} {L : List Tri} (h : TrisAt w A L) {k : Nat} {x : Tri} (hk : L[k]? = some x) :
    ∃ a, A = some a ∧ a.block < w.heap.size ∧ w.cell? (a.add (k * 3)) = some (.int .i64 x.n0) ∧ w.cell? ⟨(a.add (k * 3)).block, (a.add (k * 3)).off + 1, none⟩ = some (.int .i64 x.n1) ∧
      w.cell? ⟨(a.add (k * 3)).block, (a.add (k * 3)).off + 2, none⟩ = some (.int .i64 x.n2) := by
  obtain ⟨a, e, hb, hc⟩ := h.at_ hk
  refine ⟨a, e, hb, hc 0 _ rfl, ?_, ?_⟩
  · rw [field_at _ _ 1 (by decide)]; exact hc 1 _ rfl
  · rw [field_at _ _ 2 (by decide)]; exact hc 2 _ rfl
theorem tdiv6 {n : Int} (h : I64 n) : I64 (n.tdiv 6) := by
  obtain ⟨h1, h2⟩ := h
  unfold I64
  by_cases hn : 0 ≤ n
  · rw [Int.tdiv_eq_ediv_of_nonneg hn]
    constructor <;> omega
  · have e : n.tdiv 6 = -((-n).tdiv 6) := by rw [Int.neg_tdiv, Int.neg_neg]
    rw [e, Int.tdiv_eq_ediv_of_nonneg (by omega)]
    constructor <;> omega

set_option maxHeartbeats 4000000 in
theorem task_any (n0 n1 n2 : Int) (w : World) (h0 : I64 n0) (h1 : I64 n1) (h2 : I64 n2) (x : Tk) (hx : tkOf ⟨n0, n1, n2⟩ = x) :
    Calls Try.prog 23 #[.agg #[.int .i64 n0, .int .i64 n1, .int .i64 n2]] w fun e w' => e = .returned (.agg #[.int .i64 x.req, .int .i64 x.slot, .string x.left, .string x.right]) ∧ Below w.heap.size w w' := by
  subst hx
  obtain ⟨p0, hp0⟩ : ∃ p, pickI n0 4 = p := ⟨_, rfl⟩
  obtain ⟨p1, hp1⟩ : ∃ p, pickI n1 5 = p := ⟨_, rfl⟩
  obtain ⟨l, hl⟩ : ∃ p, textOf n2 = p := ⟨_, rfl⟩
  obtain ⟨q6, hq⟩ : ∃ p, n2.tdiv 6 = p := ⟨_, rfl⟩
  obtain ⟨r, hr⟩ : ∃ p, textOf q6 = p := ⟨_, rfl⟩
  have HP0 := Lib.hid hp0
  have HP1 := Lib.hid hp1
  have HTL := Lib.hid hl
  have HTR := Lib.hid hr
  have HQ6 := Lib.hid hq
  have HI0 := Lib.hid h0
  have HI1 := Lib.hid h1
  have HI2 := Lib.hid h2
  have HI6 : Hid (I64 q6) := Lib.hid (by rw [← hq]; exact tdiv6 h2)
  have HQ : Hid (IntKind.i64.wrap (n2.tdiv 6) = q6) := Lib.hid (by rw [IntWalk.i64_in _ (tdiv6 h2), hq])
  clear hp0 hp1 hl hr hq h0 h1 h2
  go_enter Try.func23, Try.ntmps23
  go_upto_region 1 with (fail)
  have hb0 : Blk ((w.alloc (.cells #[.int .i64 n0, .int .i64 n1, .int .i64 n2] 48)).alloc (.cells #[.int .i64 0, .int .i64 0, .string ⟨#[]⟩, .string ⟨#[]⟩] 39)) w.heap.size 48 #[.int .i64 n0, .int .i64 n1, .int .i64 n2] := (Blk.new w _ _).alloc _
  have hb1 : Blk ((w.alloc (.cells #[.int .i64 n0, .int .i64 n1, .int .i64 n2] 48)).alloc (.cells #[.int .i64 0, .int .i64 0, .string ⟨#[]⟩, .string ⟨#[]⟩] 39)) (w.heap.size + 1) 39 #[.int .i64 0, .int .i64 0, .string ⟨#[]⟩, .string ⟨#[]⟩] := by
    have := Blk.new (w.alloc (.cells #[.int .i64 n0, .int .i64 n1, .int .i64 n2] 48)) 39 #[.int .i64 0, .int .i64 0, .string ⟨#[]⟩, .string ⟨#[]⟩]
    have h2 : Blk ((w.alloc (.cells #[.int .i64 n0, .int .i64 n1, .int .i64 n2] 48)).alloc (.cells #[.int .i64 0, .int .i64 0, .string ⟨#[]⟩, .string ⟨#[]⟩] 39)) (w.heap.size + 1) 39 #[.int .i64 0, .int .i64 0, .string ⟨#[]⟩, .string ⟨#[]⟩] := by simpa [Nat.add_assoc] using this
    exact h2
  have hw0 : Below w.heap.size w ((w.alloc (.cells #[.int .i64 n0, .int .i64 n1, .int .i64 n2] 48)).alloc (.cells #[.int .i64 0, .int .i64 0, .string ⟨#[]⟩, .string ⟨#[]⟩] 39)) := ((Below.refl _ _).alloc (Nat.le_refl _) _).alloc (by simp) _
  obtain ⟨w1, hw1⟩ : ∃ w1, w1 = (w.alloc (.cells #[.int .i64 n0, .int .i64 n1, .int .i64 n2] 48)).alloc (.cells #[.int .i64 0, .int .i64 0, .string ⟨#[]⟩, .string ⟨#[]⟩] 39) := ⟨_, rfl⟩
  obtain ⟨gq, hgq⟩ : ∃ g, g = w.heap.size := ⟨_, rfl⟩
  obtain ⟨gr, hgr⟩ : ∃ g, g = w.heap.size + 1 := ⟨_, rfl⟩
  rw [← hw1] at hb0 hb1 hw0 ⊢
  rw [← hgr] at hb1 ⊢
  rw [← hgq] at hb0
  have HGq : Hid (w.heap.size ≤ gq) := Lib.hid (by omega)
  have HGr : Hid (w.heap.size ≤ gr) := Lib.hid (by omega)
  have HNrq : Hid (gr ≠ gq) := Lib.hid (by omega)
  rw [show (⟨w.heap.size, 0, none⟩ : Addr) = ⟨gq, 0, none⟩ from by rw [hgq]]
  have HBq := Lib.hid hb0
  have HBr := Lib.hid hb1
  have HW := Lib.hid hw0
  clear hb0 hb1 hw0 hw1 hgq hgr

  refine wp_region_noPanic ?_
  refine wp_region_held_drew (S := fun W => Blk W gq 48 #[.int .i64 n0, .int .i64 n1, .int .i64 n2] ∧ Below w.heap.size w W) (by kernel_rfl) (⟨HBq.out.drew, HW.out.drew⟩) (fun hS0 => ?_)
  change wpAnyH _ _ _ _ _ 15 #[false, false, false, false, false, false, false, false, false, false, false, false, false, false, false] _ (World.drew _)
  refine wpAnyH_take (i := 0) (v := .pointer (some ⟨gq, 0, none⟩)) rfl (by kernel_rfl) (by kernel_rfl) (by kernel_rfl) (fun _ _ _ h => h) (Or.inl ⟨by rfl, fun w' hS' => by go_simp⟩) hS0 ?_
  change wpAnyH _ _ _ _ _ _ _ (Act.put _ (some 3) (.pointer (some ⟨gq, 0, none⟩))) _
  simp only [Act.put, List.setIfInBounds_toArray, List.set_cons_zero, List.set_cons_succ]
  refine wpAnyH_take (i := 1) (v := .int .i64 n0) rfl (by kernel_rfl) (by kernel_rfl) (by kernel_rfl) (fun _ _ _ h => h) (Or.inl ⟨by rfl, fun w' hS' => by obtain ⟨y0, y1, y2⟩ := blk3 hS'.1; go_simp⟩) hS0 ?_
  change wpAnyH _ _ _ _ _ _ _ (Act.put _ (some 4) (.int .i64 n0)) _
  simp only [Act.put, List.setIfInBounds_toArray, List.set_cons_zero, List.set_cons_succ]
  refine wpAnyH_take (i := 3) (v := .pointer (some ⟨gq, 1, none⟩)) rfl (by kernel_rfl) (by kernel_rfl) (by kernel_rfl) (fun _ _ _ h => h) (Or.inl ⟨by rfl, fun w' hS' => by go_simp⟩) hS0 ?_
  change wpAnyH _ _ _ _ _ _ _ (Act.put _ (some 6) (.pointer (some ⟨gq, 1, none⟩))) _
  simp only [Act.put, List.setIfInBounds_toArray, List.set_cons_zero, List.set_cons_succ]
  refine wpAnyH_take (i := 4) (v := .int .i64 n1) rfl (by kernel_rfl) (by kernel_rfl) (by kernel_rfl) (fun _ _ _ h => h) (Or.inl ⟨by rfl, fun w' hS' => by obtain ⟨y0, y1, y2⟩ := blk3 hS'.1; go_simp⟩) hS0 ?_
  change wpAnyH _ _ _ _ _ _ _ (Act.put _ (some 7) (.int .i64 n1)) _
  simp only [Act.put, List.setIfInBounds_toArray, List.set_cons_zero, List.set_cons_succ]
  refine wpAnyH_take (i := 6) (v := .pointer (some ⟨gq, 2, none⟩)) rfl (by kernel_rfl) (by kernel_rfl) (by kernel_rfl) (fun _ _ _ h => h) (Or.inl ⟨by rfl, fun w' hS' => by go_simp⟩) hS0 ?_
  change wpAnyH _ _ _ _ _ _ _ (Act.put _ (some 9) (.pointer (some ⟨gq, 2, none⟩))) _
  simp only [Act.put, List.setIfInBounds_toArray, List.set_cons_zero, List.set_cons_succ]
  refine wpAnyH_take (i := 7) (v := .int .i64 n2) rfl (by kernel_rfl) (by kernel_rfl) (by kernel_rfl) (fun _ _ _ h => h) (Or.inl ⟨by rfl, fun w' hS' => by obtain ⟨y0, y1, y2⟩ := blk3 hS'.1; go_simp⟩) hS0 ?_
  change wpAnyH _ _ _ _ _ _ _ (Act.put _ (some 10) (.int .i64 n2)) _
  simp only [Act.put, List.setIfInBounds_toArray, List.set_cons_zero, List.set_cons_succ]
  refine wpAnyH_take (i := 9) (v := .pointer (some ⟨gq, 2, none⟩)) rfl (by kernel_rfl) (by kernel_rfl) (by kernel_rfl) (fun _ _ _ h => h) (Or.inl ⟨by rfl, fun w' hS' => by go_simp⟩) hS0 ?_
  change wpAnyH _ _ _ _ _ _ _ (Act.put _ (some 12) (.pointer (some ⟨gq, 2, none⟩))) _
  simp only [Act.put, List.setIfInBounds_toArray, List.set_cons_zero, List.set_cons_succ]
  refine wpAnyH_take (i := 10) (v := .int .i64 n2) rfl (by kernel_rfl) (by kernel_rfl) (by kernel_rfl) (fun _ _ _ h => h) (Or.inl ⟨by rfl, fun w' hS' => by obtain ⟨y0, y1, y2⟩ := blk3 hS'.1; go_simp⟩) hS0 ?_
  change wpAnyH _ _ _ _ _ _ _ (Act.put _ (some 13) (.int .i64 n2)) _
  simp only [Act.put, List.setIfInBounds_toArray, List.set_cons_zero, List.set_cons_succ]
  refine wpAnyH_take (i := 11) (v := .int .i64 q6) rfl (by kernel_rfl) (by kernel_rfl) (by kernel_rfl) (fun _ _ _ h => h) (Or.inl ⟨by rfl, fun w' hS' => by have hwr := HQ.out; go_simp; try exact hwr⟩) hS0 ?_
  change wpAnyH _ _ _ _ _ _ _ (Act.put _ (some 14) (.int .i64 q6)) _
  simp only [Act.put, List.setIfInBounds_toArray, List.set_cons_zero, List.set_cons_succ]
  refine wpAnyH_ready (rs := [2]) (by kernel_rfl) (by simp) (AllReadyH.cons rfl (fun K hK => ?_) (AllReadyH.nil))
  · skip
    go_simp
    refine (pick16_v n0 4 p0 HP0.out _ HI0.out (by omega) (by omega)).mono ?_
    rintro e W ⟨rfl, rfl⟩
    refine hK.out _ _ hS0 (fun hS1 => ?_)
    clear hK K
    simp only [List.setIfInBounds_toArray, List.set_cons_zero, List.set_cons_succ]
    refine wpAnyH_ready (rs := [5]) (by kernel_rfl) (by simp) (AllReadyH.cons rfl (fun K hK => ?_) (AllReadyH.nil))
    · skip
      go_simp
      refine (pick16_v n1 5 p1 HP1.out _ HI1.out (by omega) (by omega)).mono ?_
      rintro e W ⟨rfl, rfl⟩
      refine hK.out _ _ hS1 (fun hS2 => ?_)
      clear hK K
      simp only [List.setIfInBounds_toArray, List.set_cons_zero, List.set_cons_succ]
      refine wpAnyH_ready (rs := [8]) (by kernel_rfl) (by simp) (AllReadyH.cons rfl (fun K hK => ?_) (AllReadyH.nil))
      · skip
        go_simp
        refine (text_v n2 l HTL.out _ HI2.out).mono ?_
        rintro e W5 ⟨rfl, hb4⟩
        refine hK.out _ _ ⟨Blk.below hS2.1 hb4 hS2.1.lt, hS2.2.trans (hb4.mono hS2.2.size)⟩ (fun hS3 => ?_)
        clear hK K
        simp only [List.setIfInBounds_toArray, List.set_cons_zero, List.set_cons_succ]
        refine wpAnyH_ready (rs := [12]) (by kernel_rfl) (by simp) (AllReadyH.cons rfl (fun K hK => ?_) (AllReadyH.nil))
        · skip
          go_simp
          refine (text_v q6 r HTR.out _ HI6.out).mono ?_
          rintro e W8 ⟨rfl, hb7⟩
          refine hK.out _ _ ⟨Blk.below hS3.1 hb7 hS3.1.lt, hS3.2.trans (hb7.mono hS3.2.size)⟩ (fun hS6 => ?_)
          clear hK K
          simp only [List.setIfInBounds_toArray, List.set_cons_zero, List.set_cons_succ]
          refine wpAnyH_take (i := 13) (v := .agg #[.int .i64 p0, .int .i64 p1, .string l, .string r]) rfl (by kernel_rfl) (by kernel_rfl) (by kernel_rfl) (fun _ _ _ h => h) (Or.inl ⟨by rfl, fun w' hS' => by go_simp⟩) hS6 ?_
          change wpAnyH _ _ _ _ _ _ _ (Act.put _ (some 16) (.agg #[.int .i64 p0, .int .i64 p1, .string l, .string r])) _
          simp only [Act.put, List.setIfInBounds_toArray, List.set_cons_zero, List.set_cons_succ]
          refine wpAnyH_ready (rs := [14]) (by kernel_rfl) (by simp) (AllReadyH.cons rfl (fun K hK => ?_) (AllReadyH.nil))
          · skip
            have hkr := (HBr.out.drew.below hb4 HBr.out.lt)
            have hkr := hkr.below hb7 hkr.lt
            obtain ⟨WE, hrE, hkE, hgE⟩ := op_storeT hkr p0 p1 l r
            refine step_op_skip (hrE _ _ _ _ rfl rfl rfl) rfl ?_
            refine hK.out _ _ ⟨Blk.grown hS6.1 hgE (fun e => HNrq.out (Option.some.inj e).symm), grown_below hS6.2 hgE hS6.2.size HGr.out⟩ (fun hSE => ?_)
            clear hK K
            change wpAnyH _ _ _ _ _ _ _ (Act.put _ none (undef)) _
            simp only [Act.put]
            refine wpAnyH_done (by kernel_rfl) ?_ _
            refine NoPanic.normal ?_
            obtain ⟨z0, z1, z2, z3⟩ := blk4 hkE
            have hbE := hSE.2
            clear hrE hgE
            go_wp2_with fail
            refine bodyPost_ret (v := .agg #[.int .i64 p0, .int .i64 p1, .string l, .string r]) (by simp [results, Try.results23, go_sem, z0, z1, z2, z3]) rfl ?_
            exact ⟨by rw [← HP0.out, ← HP1.out, ← HTL.out, ← HTR.out, ← HQ6.out]; rfl, hbE⟩

/-- tasks of raw numbers -/
def tksOf (L : List Tri) : List Tk := (L.take 20).map tkOf
theorem tks_len (L : List Tri) : (tksOf L).length = min 20 L.length := by unfold tksOf; rw [List.length_map, List.length_take]
theorem tk_fit (x : Tri) : (tkOf x).left.size ≤ 140737488351232 ∧ (tkOf x).right.size ≤ 140737488351232 := by
  have h1 := textOf_size x.n2
  have h2 := textOf_size (x.n2.tdiv 6)
  unfold tkOf
  constructor
  · show (textOf x.n2).size ≤ _; omega
  · show (textOf (x.n2.tdiv 6)).size ≤ _; omega
theorem map_fit (L : List Tri) : FitT (L.map tkOf) := fun x hx => by
  obtain ⟨y, _, rfl⟩ := List.mem_map.1 hx
  exact tk_fit y
theorem tks_fit (L : List Tri) : FitT (tksOf L) := map_fit _
/-- tasks in new memory -/
def TksTold (L : List Tk) (w : World) (e : Ending) (w' : World) : Prop := ∃ (A : Option Addr) (n c : Nat), e = .returned (.slice A n c) ∧ L.length = n ∧ n ≤ c ∧ OwnT w w' (.slice A n c) L

set_option maxHeartbeats 4000000 in
theorem tasks_any (A : Option Addr) (L : List Tri) (n c : Nat) (w : World) (ha : TrisAt w A L) (hn : L.length = n) (hf : FitN L) :
    Calls Try.prog 12 #[.slice A n c] w (TksTold (tksOf L) w) := by
  have HA := Lib.hid ha
  have HN := Lib.hid hn
  have HF := Lib.hid hf
  clear ha hn hf
  go_enter Try.func12, Try.ntmps12
  go_wp2_with fail
  go_loopw [3, 4] (fun v i wr => ∃ (k c4 : Nat) (A4 : Option Addr), k ≤ n ∧ k ≤ 20 ∧ v = .slice A4 k c4 ∧ i = .int .i64 k ∧ Hid (OwnT w wr (.slice A4 k c4) ((L.take k).map tkOf))) (fun _ i _ => n - (intOf i).toNat)
  case atStart => exact ⟨0, 0, none, Nat.zero_le _, Nat.zero_le _, rfl, rfl, Lib.hid (OwnR.nil w)⟩
  case round =>
    obtain ⟨k, c4, A4, hk, hk2, rfl, rfl, HO⟩ := hrel
    obtain ⟨w4, rfl⟩ : ∃ w3, w3 = wr := ⟨_, rfl⟩
    by_cases g1 : k < n
    · have t1 : decide ((k : Int) < (n : Int)) = true := decide_eq_true (by omega)
      by_cases g2 : k < 20
      · have t2 : decide ((k : Int) < 20) = true := decide_eq_true (by omega)
        obtain ⟨x, hx⟩ : ∃ x, L[k]? = some x := ⟨_, List.getElem?_eq_getElem (by rw [HN.out]; exact g1)⟩
        have HX := Lib.hid hx
        have HFX := Lib.hid (HF.out x (List.mem_of_getElem? hx))
        obtain ⟨a, rfl, hal, c0, c1, c2⟩ := tri_fields (HA.out.up HO.out.2) hx
        obtain ⟨y, hy⟩ : ∃ y, tkOf x = y := ⟨_, rfl⟩
        have HY := Lib.hid hy
        clear hx hal hy
        go_wp2_with fail
        refine (task_any x.n0 x.n1 x.n2 _ HFX.out.1 HFX.out.2.1 HFX.out.2.2 y HY.out).mono ?_
        rintro e w5 ⟨rfl, hb5⟩
        obtain ⟨A7, c7, w7, hr7, ho7, _⟩ := push_task (HO.out.up hb5) y (k + 1) (by rw [List.length_map, List.length_take, HN.out]; omega) (by omega)
        have HR7 := Lib.hid hr7
        have HO7 : Hid (OwnT w w7 (.slice A7 (k + 1) c7) ((L.take (k + 1)).map tkOf)) := Lib.hid (by rw [take_snoc HX.out, List.map_append]; show OwnT w w7 _ (_ ++ [tkOf x]); rw [HY.out]; exact ho7)
        clear hr7 ho7 c0 c1 c2 hb5
        go_wp2_with (at_builtin; refine wpList_append_run rfl rfl (by simp [Region.wanted]) rfl rfl HR7.out ?_; clear HR7)
        go_roundw
        case rel => exact ⟨k + 1, c7, A7, by omega, by omega, rfl, by go_num, HO7⟩
        case measure => simp [intOf]; omega
      · obtain rfl : k = 20 := by omega
        have t2 : decide (((20 : Nat) : Int) < 20) = false := decide_eq_false (by omega)
        have t3 : decide ((20 : Int) < 20) = false := decide_eq_false (by omega)
        go_wp2_with fail
        go_ret
        exact ⟨A4, 20, c4, rfl, by rw [tks_len, HN.out]; omega, by have := (OwnR.cap HO.out).1; rw [List.length_map, List.length_take, HN.out] at this; omega, HO.out⟩
    · have t1 : decide ((k : Int) < (n : Int)) = false := decide_eq_false (by omega)
      obtain rfl : k = n := by omega
      go_wp2_with fail
      go_ret
      exact ⟨A4, k, c4, rfl, by rw [tks_len, HN.out]; omega, by have := (OwnR.cap HO.out).1; rw [List.length_map, List.length_take, HN.out] at this; omega, by unfold tksOf; rw [show L.take 20 = L.take k from by rw [List.take_of_length_le (by have := HN.out; omega), List.take_of_length_le (by have := HN.out; omega)]]; exact HO.out⟩

end Go.Proofs.Ytaelenjnjoeheaa
