/-
  collatorref16.Drop tells what dropQ says. Nothing that was there is changed.
-/
import Derived.Test.YtaelenjnjoeheaaRta
import Derived.Deep.RegionLaw
namespace Go.Proofs.Ytaelenjnjoeheaa
open Go.RowKit P16

/-- between two rounds -/
structure DropIn (w3 wr : World) (go : Nat) (r : Int) (cl : Bool) (A4 : Option Addr) (m c4 : Nat) (L : List Tk) : Prop where
  own : OwnT w3 wr (.slice A4 m c4) L
  box : Blk wr go 24 #[.int .i64 r, .bool cl, .slice A4 m c4]
  len : L.length = m
theorem DropIn.step {w3 w4 w7 : World} {go : Nat} {r : Int} {cl : Bool} {A4 A7 : Option Addr} {m c4 m7 c7 : Nat} {L L7 : List Tk} (h : DropIn w3 w4 go r cl A4 m c4 L) (ho : OwnT w3 w7 (.slice A7 m7 c7) L7) (hg : w4.grownBy w7 (Value.slice A4 m c4).ownBlock) (hl : L7.length = m7) (hgo : w3.heap.size ≤ go) :
    Blk w7 go 24 #[.int .i64 r, .bool cl, .slice A4 m c4] ∧ DropIn w3 (w7.setCell ⟨go, 2, none⟩ (.slice A7 m7 c7)) go r cl A7 m7 c7 L7 := by
  have hb : Blk w7 go 24 #[.int .i64 r, .bool cl, .slice A4 m c4] := Blk.grown h.box hg (fun e => by
    rcases h.own.1.2 with ⟨h1, _⟩ | ⟨g', cap, cur, h1, _, hh, _⟩
    · rw [h1] at e; cases e
    · rw [h1] at e
      have : go = g' := by simpa [Value.ownBlock] using e
      subst this
      exact blk_ne hh h.box (by decide) rfl)
  refine ⟨hb, OwnR.keep ho (fun k cs hk => Blk.far hk (blk_ne hk hb (by decide)) _) (ho.2.setCell hgo _), Blk.set_ hb 2 _, hl⟩

set_option maxHeartbeats 8000000 in
set_option maxRecDepth 100000 in
theorem rdrop_any (r : Int) (cl : Bool) (T : List Tk) (A : Option Addr) (n c : Nat) (req : Int) (w : World) (k0 : Nat) (r0 : Int) (b0 : Bool) (T0 : List Tk) (e0 : Int) (ht : dropQ ⟨r, cl, T⟩ req = (k0, ⟨r0, b0, T0⟩, e0))
    (ha : TasksAt w A T) (hn : T.length = n) :
    Calls Try.prog 22 #[.agg #[.int .i64 r, .bool cl, .slice A n c], .int .i64 req] w (PutTold k0 r0 b0 T0 e0 w) := by
  obtain ⟨bo, hbo⟩ : ∃ bo, rightB ⟨r, cl, T⟩ = bo := ⟨_, rfl⟩
  have HBO := Lib.hid hbo
  have HT := Lib.hid ht
  have HA := Lib.hid ha
  have HN := Lib.hid hn
  clear hbo ht ha hn
  go_enter Try.func22, Try.ntmps22
  go_upto_region 1 with (fail)
  have hb0 : Blk ((w.alloc (.cells #[.int .i64 r, .bool cl, .slice A n c] 24)).alloc (.cells #[.int .i64 0, .bool false, .slice none 0 0] 24)) w.heap.size 24 #[.int .i64 r, .bool cl, .slice A n c] := (Blk.new w _ _).alloc _
  have hb1 : Blk ((w.alloc (.cells #[.int .i64 r, .bool cl, .slice A n c] 24)).alloc (.cells #[.int .i64 0, .bool false, .slice none 0 0] 24)) (w.heap.size + 1) 24 #[.int .i64 0, .bool false, .slice none 0 0] := by
    have := Blk.new (w.alloc (.cells #[.int .i64 r, .bool cl, .slice A n c] 24)) 24 #[.int .i64 0, .bool false, .slice none 0 0]
    have h2 : Blk ((w.alloc (.cells #[.int .i64 r, .bool cl, .slice A n c] 24)).alloc (.cells #[.int .i64 0, .bool false, .slice none 0 0] 24)) (w.heap.size + 1) 24 #[.int .i64 0, .bool false, .slice none 0 0] := by simpa [Nat.add_assoc] using this
    exact h2
  have hw0 : Below w.heap.size w ((w.alloc (.cells #[.int .i64 r, .bool cl, .slice A n c] 24)).alloc (.cells #[.int .i64 0, .bool false, .slice none 0 0] 24)) := ((Below.refl _ _).alloc (Nat.le_refl _) _).alloc (by simp) _
  obtain ⟨w1, hw1⟩ : ∃ w1, w1 = (w.alloc (.cells #[.int .i64 r, .bool cl, .slice A n c] 24)).alloc (.cells #[.int .i64 0, .bool false, .slice none 0 0] 24) := ⟨_, rfl⟩
  obtain ⟨gq, hgq⟩ : ∃ g, g = w.heap.size := ⟨_, rfl⟩
  obtain ⟨gr, hgr⟩ : ∃ g, g = w.heap.size + 1 := ⟨_, rfl⟩
  rw [← hw1] at hb0 hb1 hw0 ⊢
  rw [← hgr] at hb1 ⊢
  rw [← hgq] at hb0
  have HGq : Hid (w.heap.size ≤ gq) := Lib.hid (by omega)
  have HGr : Hid (w.heap.size ≤ gr) := Lib.hid (by omega)
  have HNrq : Hid (gr ≠ gq) := Lib.hid (by omega)
  rw [show (⟨w.heap.size, 0, none⟩ : Addr) = ⟨gq, 0, none⟩ from by rw [hgq]]
  have HBq := Lib.hid hb0
  have HBr := Lib.hid hb1
  have HW := Lib.hid hw0
  clear hb0 hb1 hw0 hw1 hgq hgr

  obtain ⟨y0, y1, y2⟩ := blk3 HBq.out
  go_wp2_with fail
  refine (rright_any r cl T A n c bo HBO.out _ HN.out).mono ?_
  rintro e w2 ⟨rfl, hb2⟩
  have HBq := Lib.hid (HBq.out.below hb2 HBq.out.lt)
  have HBr := Lib.hid (HBr.out.below hb2 HBr.out.lt)
  have HW := Lib.hid (below_step HW.out hb2)

  clear hb2 y0 y1 y2
  cases bo with
  | false =>
    have HT : Hid (k0 = 0 ∧ r0 = 0 ∧ b0 = false ∧ T0 = [] ∧ e0 = 1) := Lib.hid (by have h := HT.out; rw [drop_bad HBO.out] at h; exact put_parts h)
    obtain ⟨z0, z1, z2⟩ := blk3 HBr.out
    have q0 := Blk.frozen HBr.out 0
    have q1 := Blk.frozen HBr.out 1
    have q2 := Blk.frozen HBr.out 2
    go_wp2_with fail
    refine bodyPost_ret (v := .tuple #[.int .i64 0, .agg #[.int .i64 0, .bool false, .slice none 0 0], .int .i64 1]) (by simp [results, Try.results22, go_sem, z0, z1, z2]) rfl ?_
    rw [HT.out.1, HT.out.2.1, HT.out.2.2.1, HT.out.2.2.2.1, HT.out.2.2.2.2]
    exact ⟨none, 0, 0, rfl, rfl, Nat.le_refl _, RowAt.nil, ((HW.out.setCell HGr.out _).setCell HGr.out _).setCell HGr.out _⟩

  | true =>
    obtain ⟨y0, y1, y2⟩ := blk3 HBq.out
    have e3 := (right_iff.1 HBO.out).2
    simp only [HN.out] at e3
    have hn1 : n ≤ 4096 := by omega
    clear e3
    go_upto_region 5 with (fail)
    obtain ⟨go, w3, hgo, hw3, hbo, hbe3⟩ := box_new w2 24 #[.int .i64 r, .bool cl, .slice none 0 0]
    rw [← hw3, ← hgo]
    have HGo : Hid (w2.heap.size ≤ go) := Lib.hid (by omega)
    have HNor : Hid (go ≠ gr) := Lib.hid (by have := HBr.out.lt; omega)
    have HI0 : Hid (DropIn w2 w3 go r cl none 0 0 (others (T.take 0) req)) := Lib.hid ⟨OwnR.nil' hbe3, hbo, rfl⟩
    clear hgo hw3 hbo hbe3 y0 y1 y2
    go_wp2_with fail
    go_loopw [9] (fun i wr => ∃ (k m c4 : Nat) (A4 : Option Addr), k ≤ n ∧ i = .int .i64 k ∧ Hid (DropIn w2 wr go r cl A4 m c4 (others (T.take k) req))) (fun i _ => n - (intOf i).toNat)
    case atStart => exact ⟨0, 0, 0, none, Nat.zero_le _, rfl, HI0⟩
    case round =>
      obtain ⟨k, m, c4, A4, hk, rfl, HI⟩ := hrel
      obtain ⟨w4, rfl⟩ : ∃ w3, w3 = wr := ⟨_, rfl⟩
      have HBq4 := Lib.hid (HBq.out.below HI.out.own.2 HBq.out.lt)
      obtain ⟨y0, y1, y2⟩ := blk3 HBq4.out
      have hmk : m ≤ k := by
        have h1 := others_len (T.take k) req
        rw [HI.out.len, List.length_take] at h1
        omega
      by_cases g1 : k < n
      · have t9 : decide ((k : Int) < (n : Int)) = true := decide_eq_true (by omega)
        obtain ⟨x, hx⟩ : ∃ x, T[k]? = some x := ⟨_, List.getElem?_eq_getElem (by rw [HN.out]; exact g1)⟩
        have HOT := Lib.hid (others_take hx req)
        have HX := Lib.hid hx
        obtain ⟨a, rfl, hal, c0, c1, c2, c3⟩ := tasks_fields (HA.out.up (below_step HW.out HI.out.own.2)) hx
        clear hx
        by_cases g2 : x.req = req
        · have t0 : (x.req != req) = false := by simp [g2]
          have HI6 : Hid (DropIn w2 w4 go r cl A4 m c4 (others (T.take (k + 1)) req)) := Lib.hid (by rw [HOT.out, if_pos g2]; exact HI.out)
          clear g2
          go_wp2_with fail
          go_roundw
          case rel => exact ⟨k + 1, m, c4, A4, by omega, by go_num, HI6⟩
          case measure => simp [intOf]; omega
        · have t0 : (x.req != req) = true := by simp [g2]
          obtain ⟨A7, c7, w7, hr7, ho7, hgr7⟩ := push_task (HI.out.own.up ((Below.refl _ _).drew)) x (m + 1) (by rw [HI.out.len]) (by omega)
          have hr7 : (Builtin.append_ #[22, 22] 22 #[.slice A4 m c4, .slice (some ⟨w4.heap.size, 0, none⟩) 1 1]).run Try.prog (w4.alloc (.cells #[.int .i64 x.req, .int .i64 x.slot, .string x.left, .string x.right] 39)).drew = .ok (.slice A7 (m + 1) c7) w7 := hr7
          have hgr7 : w4.grownBy w7 (Value.slice A4 m c4).ownBlock := World.grownBy.trans (grown_of_below ((Below.refl _ _).drew) _) hgr7
          obtain ⟨hb7, hi7⟩ := HI.out.step ho7 hgr7 (L7 := others (T.take k) req ++ [x]) (by rw [List.length_append, HI.out.len]; rfl) HGo.out
          have HR7 := Lib.hid hr7
          have HI7 : Hid (DropIn w2 (w7.setCell ⟨go, 2, none⟩ (.slice A7 (m + 1) c7)) go r cl A7 (m + 1) c7 (others (T.take (k + 1)) req)) := Lib.hid (by rw [HOT.out, if_neg g2]; exact hi7)
          have hal4 : Below w4.heap.size w4 (w4.alloc (.cells #[.int .i64 x.req, .int .i64 x.slot, .string x.left, .string x.right] 39)) := (Below.refl _ _).alloc (Nat.le_refl _) _
          obtain ⟨a', ea, _, d0, d1, d2, d3⟩ := tasks_fields ((HA.out.up (below_step HW.out HI.out.own.2)).up hal4) HX.out
          injection ea with ea
          subst ea
          obtain ⟨x0, x1, x2⟩ := blk3 (HBq4.out.below hal4 HBq4.out.lt)
          obtain ⟨u0, u1, u2⟩ := blk3 HI.out.box
          obtain ⟨v0, v1, v2⟩ := blk3 (HI.out.box.below hal4 HI.out.box.lt)
          obtain ⟨z0, z1, z2⟩ := blk3 hb7
          have z4 := Blk.frozen hb7 2
          clear g2 hr7 hgr7 hb7 hi7 ho7 hal4
          go_upto_region 9 with (fail)
          go_region_law ((refine step_append_run2 HR7.out rfl rfl rfl ?_ ?_ ?_; (focus (first | (simp [Act.eval]; done) | (simp [Act.eval, Act.put]; done))); (focus (first | (simp [Act.eval]; done) | (simp [Act.eval, Act.put]; done)))))
          all_goals
            go_simp
            go_wp2_with fail
            go_roundw
            case rel => exact ⟨k + 1, m + 1, c7, A7, by omega, by go_num, HI7⟩
            case measure => simp [intOf]; omega
      · have t9 : decide ((k : Int) < (n : Int)) = false := decide_eq_false (by omega)
        have HO4 : Hid (OwnT w2 w4 (.slice A4 m c4) (others T req)) := Lib.hid (by have := HI.out.own; rwa [List.take_of_length_le (by have := HN.out; omega)] at this)
        have HLN : Hid ((others T req).length = m) := Lib.hid (by have := HI.out.len; rwa [List.take_of_length_le (by have := HN.out; omega)] at this)
        have HCP : Hid (m ≤ c4) := Lib.hid (by rw [← HLN.out]; exact (OwnR.cap HO4.out).1)
        have HLR : Hid (gr < w2.heap.size) := Lib.hid HBr.out.lt
        obtain ⟨k', hk'⟩ : ∃ k', n - m = k' := ⟨_, rfl⟩
        have HWR : Hid (IntKind.i64.wrap ((n : Int) - (m : Int)) = ((k' : Nat) : Int)) := Lib.hid (by rw [IntWalk.i64_in _ (by omega)]; omega)
        have HT : Hid (k0 = k' ∧ r0 = r ∧ b0 = cl ∧ T0 = others T req ∧ e0 = 0) := Lib.hid (by have h := HT.out; rw [drop_ok HBO.out] at h; simp only [HN.out, HLN.out, hk'] at h; exact put_parts h)
        have HBo := Lib.hid HI.out.box
        have HBq := HBq4
        have HBr := Lib.hid (HBr.out.below HI.out.own.2 HBr.out.lt)
        have HW := Lib.hid (below_step HW.out HI.out.own.2)

        clear hmk hk'
        go_upto_region 10 with (fail)
        clear y0 y1 y2
        refine wp_region_noPanic ?_
        refine wp_region_held_drew (S := fun W => (Blk W gq 24 #[.int .i64 r, .bool cl, .slice A n c] ∧ Blk W go 24 #[.int .i64 r, .bool cl, .slice A4 m c4]) ∧ Below w.heap.size w W) (by kernel_rfl) (⟨⟨HBq.out.drew, HBo.out.drew⟩, HW.out.drew⟩) (fun hS0 => ?_)
        change wpAnyH _ _ _ _ _ 11 #[false, false, false, false, false, false, false, false, false, false, false] _ (World.drew _)
        refine wpAnyH_take (i := 0) (v := .pointer (some ⟨gq, 2, none⟩)) rfl (by kernel_rfl) (by kernel_rfl) (by kernel_rfl) (fun _ _ _ h => h) (Or.inl ⟨by rfl, fun w' hS' => by go_simp⟩) hS0 ?_
        change wpAnyH _ _ _ _ _ _ _ (Act.put _ (some 45) (.pointer (some ⟨gq, 2, none⟩))) _
        simp only [Act.put, List.setIfInBounds_toArray, List.set_cons_zero, List.set_cons_succ]
        refine wpAnyH_take (i := 1) (v := .slice A n c) rfl (by kernel_rfl) (by kernel_rfl) (by kernel_rfl) (fun _ _ _ h => h) (Or.inl ⟨by rfl, fun w' hS' => by obtain ⟨y0, y1, y2⟩ := blk3 hS'.1.1; go_simp⟩) hS0 ?_
        change wpAnyH _ _ _ _ _ _ _ (Act.put _ (some 46) (.slice A n c)) _
        simp only [Act.put, List.setIfInBounds_toArray, List.set_cons_zero, List.set_cons_succ]
        refine wpAnyH_take (i := 2) (v := .int .i64 (n : Int)) rfl (by kernel_rfl) (by kernel_rfl) (by kernel_rfl) (fun _ _ _ h => h) (Or.inl ⟨by rfl, fun w' hS' => by go_simp⟩) hS0 ?_
        change wpAnyH _ _ _ _ _ _ _ (Act.put _ (some 47) (.int .i64 (n : Int))) _
        simp only [Act.put, List.setIfInBounds_toArray, List.set_cons_zero, List.set_cons_succ]
        refine wpAnyH_take (i := 3) (v := .pointer (some ⟨go, 2, none⟩)) rfl (by kernel_rfl) (by kernel_rfl) (by kernel_rfl) (fun _ _ _ h => h) (Or.inl ⟨by rfl, fun w' hS' => by go_simp⟩) hS0 ?_
        change wpAnyH _ _ _ _ _ _ _ (Act.put _ (some 48) (.pointer (some ⟨go, 2, none⟩))) _
        simp only [Act.put, List.setIfInBounds_toArray, List.set_cons_zero, List.set_cons_succ]
        refine wpAnyH_take (i := 4) (v := .slice A4 m c4) rfl (by kernel_rfl) (by kernel_rfl) (by kernel_rfl) (fun _ _ _ h => h) (Or.inl ⟨by rfl, fun w' hS' => by obtain ⟨y0, y1, y2⟩ := blk3 hS'.1.2; go_simp⟩) hS0 ?_
        change wpAnyH _ _ _ _ _ _ _ (Act.put _ (some 49) (.slice A4 m c4)) _
        simp only [Act.put, List.setIfInBounds_toArray, List.set_cons_zero, List.set_cons_succ]
        refine wpAnyH_take (i := 5) (v := .int .i64 (m : Int)) rfl (by kernel_rfl) (by kernel_rfl) (by kernel_rfl) (fun _ _ _ h => h) (Or.inl ⟨by rfl, fun w' hS' => by go_simp⟩) hS0 ?_
        change wpAnyH _ _ _ _ _ _ _ (Act.put _ (some 50) (.int .i64 (m : Int))) _
        simp only [Act.put, List.setIfInBounds_toArray, List.set_cons_zero, List.set_cons_succ]
        refine wpAnyH_take (i := 6) (v := (.int .i64 ((k' : Nat) : Int))) rfl (by kernel_rfl) (by kernel_rfl) (by kernel_rfl) (fun _ _ _ h => h) (Or.inl ⟨by rfl, fun w' hS' => by have hwr := HWR.out; go_simp; try exact hwr⟩) hS0 ?_
        change wpAnyH _ _ _ _ _ _ _ (Act.put _ (some 51) ((.int .i64 ((k' : Nat) : Int)))) _
        simp only [Act.put, List.setIfInBounds_toArray, List.set_cons_zero, List.set_cons_succ]
        refine wpAnyH_take (i := 7) (v := .agg #[.int .i64 r, .bool cl, .slice A4 m c4]) rfl (by kernel_rfl) (by kernel_rfl) (by kernel_rfl) (fun _ _ _ h => h) (Or.inl ⟨by rfl, fun w' hS' => by obtain ⟨y0, y1, y2⟩ := blk3 hS'.1.2; go_simp⟩) hS0 ?_
        change wpAnyH _ _ _ _ _ _ _ (Act.put _ (some 52) (.agg #[.int .i64 r, .bool cl, .slice A4 m c4])) _
        simp only [Act.put, List.setIfInBounds_toArray, List.set_cons_zero, List.set_cons_succ]
        refine wpAnyH_take (i := 8) (v := (.int .i64 ((k' : Nat) : Int))) rfl (by kernel_rfl) (by kernel_rfl) (by kernel_rfl) (fun _ _ _ h => h) (Or.inl ⟨by rfl, fun w' hS' => by go_simp⟩) hS0 ?_
        change wpAnyH _ _ _ _ _ _ _ (Act.put _ (some 4) ((.int .i64 ((k' : Nat) : Int)))) _
        simp only [Act.put, List.setIfInBounds_toArray, List.set_cons_zero, List.set_cons_succ]
        refine wpAnyH_ready (rs := [9]) (by kernel_rfl) (by simp) (AllReadyH.cons rfl (fun K hK => ?_) (AllReadyH.nil))
        · skip
          obtain ⟨W6, hr6, hk6, hg6⟩ := op_storeQ HBr.out.drew r cl A4 m c4
          refine step_op_skip (hr6 _ _ _ _ rfl rfl rfl) rfl ?_
          refine hK.out _ _ ⟨⟨Blk.grown hS0.1.1 hg6 (fun e => HNrq.out (Option.some.inj e).symm), Blk.grown hS0.1.2 hg6 (fun e => HNor.out (Option.some.inj e))⟩, grown_below hS0.2 hg6 hS0.2.size HGr.out⟩ (fun hS6 => ?_)
          clear hK K
          change wpAnyH _ _ _ _ _ _ _ (Act.put _ none (undef)) _
          simp only [Act.put]
          refine wpAnyH_take (i := 10) (v := .int .i64 0) rfl (by kernel_rfl) (by kernel_rfl) (by kernel_rfl) (fun _ _ _ h => h) (Or.inl ⟨by rfl, fun w' hS' => by go_simp⟩) hS6 ?_
          change wpAnyH _ _ _ _ _ _ _ (Act.put _ (some 6) (.int .i64 0)) _
          simp only [Act.put, List.setIfInBounds_toArray, List.set_cons_zero, List.set_cons_succ]
          refine wpAnyH_done (by kernel_rfl) ?_ _
          refine NoPanic.normal ?_
          obtain ⟨z0, z1, z2⟩ := blk3 hk6
          have hn6 := (own_new HO4.out).drew.grown hg6 (fun g e => by injection e with e; rw [← e]; exact HLR.out)
          have hb6 := hS6.2
          clear hr6 hg6
          go_wp2_with fail
          refine bodyPost_ret (v := .tuple #[.int .i64 (k' : Int), .agg #[.int .i64 r, .bool cl, .slice A4 m c4], .int .i64 0]) (by simp [results, Try.results22, go_sem, z0, z1, z2]) rfl ?_
          rw [HT.out.1, HT.out.2.1, HT.out.2.2.1, HT.out.2.2.2.1, HT.out.2.2.2.2]
          exact ⟨A4, m, c4, rfl, HLN.out, HCP.out, hn6.at_, hb6⟩

end Go.Proofs.Ytaelenjnjoeheaa
