/-
  rows.Split: a new list that holds the lines of the text; nothing that was there is changed.
-/
import Derived.Test.YtdnckhagknlfhaaSpRange
import Derived.Maps.AppendAt
namespace Go.Proofs.Ytdnckhagknlfhaa.Sp
open Go.RowKit Go.Shelf
open Pl

attribute [local go_sem] Oper.semAt_some

theorem info9 : (Try.prog.info? 9).map (fun i => (i.zero, i.size, i.bytes)) = some (some (.string ⟨#[]⟩), 1, 16) := by kernel_rfl

theorem grown_of_below {W w1 : World} (h : Below W.heap.size W w1) (row : Option Nat) : W.grownBy w1 row := ⟨h.os, h.tape, h.output, h.size, fun i hi _ => h.block i hi⟩

/-- 'l = append(l, x)' behind the call that made x: how it runs, and what is so behind the store -/
theorem app_step {W w1 : World} {n₀ B Bn : Nat} {v r : Value} {k : Nat} {xs : List Value} (x : ByteArray) (hv : Boxed W B 39 v) (hbn : Boxed W Bn 9 r) (hrow : W.ownsRow (Bn + 1) 9 1 v k xs) (hw : Below W.heap.size W w1)
    (hB : B < Bn) (hn : n₀ ≤ B) (hk : k < 1099511627776) (hbase : Bn + 1 ≤ W.heap.size) :
    ∃ A c' w2, (Builtin.append_ #[39, 39] 39 #[v, .slice (some ⟨w1.heap.size, 0, none⟩) 1 1]).run Try.prog (w1.alloc (.cells #[.string x] 9)) = .ok (.slice A (k + 1) c') w2 ∧
      w1.cell? ⟨B, 0, none⟩ = some v ∧ w2.cell? ⟨B, 0, none⟩ = some v ∧ w2.frozen? ⟨B, 0, none⟩ = false ∧
      Boxed (w2.setCell ⟨B, 0, none⟩ (.slice A (k + 1) c')) B 39 (.slice A (k + 1) c') ∧ Boxed (w2.setCell ⟨B, 0, none⟩ (.slice A (k + 1) c')) Bn 9 r ∧
      (w2.setCell ⟨B, 0, none⟩ (.slice A (k + 1) c')).ownsRow (Bn + 1) 9 1 (.slice A (k + 1) c') (k + 1) (xs ++ [.string x]) ∧
      KeepsOthers W (w2.setCell ⟨B, 0, none⟩ (.slice A (k + 1) c')) ∧ Below n₀ W (w2.setCell ⟨B, 0, none⟩ (.slice A (k + 1) c')) := by
  obtain ⟨i0, hi, hz0, hz1, hz2⟩ := info_parts info9
  have hsz := hw.size
  have hrow1 : w1.ownsRow (Bn + 1) 9 1 v k xs := hrow.kept (grown_of_below hw none) (by cases v.ownBlock <;> simp)
  obtain ⟨v', w2, hrun, hown, hgrow, _, _⟩ := run_append_own_at (P := Try.prog) (w1.alloc (.cells #[.string x] 9)) (Bn + 1) 39 39 9 i0 _ 1 16 Try.underlying39 hi hz0 hz1 hz2 rfl (by decide) v k xs (hrow1.alloc _)
    ⟨w1.heap.size, 0, none⟩ 1 1 [.string x] rfl (cell_one_new _ _ _) (by simp [Value.oneCell']) (by unfold maxLen; omega) (by omega) (by simp; omega)
  obtain ⟨g', cap', rfl⟩ := ownsRow_succ hown
  have hlt : ∀ j, v.ownBlock = some j → Bn + 1 ≤ j := fun j hj => (hrow.lt j hj).1
  have hv1 : Boxed w1 B 39 v := (hw.block B hv.lt).trans hv
  have hbn1 : Boxed w1 Bn 9 r := (hw.block Bn hbn.lt).trans hbn
  have hv2 : Boxed w2 B 39 v := (hv1.alloc _).kept hgrow (fun e => by have := hlt B e.symm; omega)
  have hbn2 : Boxed w2 Bn 9 r := (hbn1.alloc _).kept hgrow (fun e => by have := hlt Bn e.symm; omega)
  refine ⟨_, cap', w2, hrun, hv1.cell, hv2.cell, hv2.frozen, hv2.set _, hbn2.other (by omega) _, ?_, ?_, ?_⟩
  · exact ownsRow_setCell_below hown (a := ⟨B, 0, none⟩) (by simp; omega) _
  · refine ⟨?_, fun j o hj ho => ?_⟩
    · have h1 := hgrow.size
      have h2 := (KeepsOthers.setCell w2 ⟨B, 0, none⟩ (.slice (some ⟨g', 0, none⟩) (k + 1) cap')).size
      simp at h1
      omega
    · have hjl : j < W.heap.size := (Array.getElem?_eq_some_iff.1 hj).1
      have hj1 : w1.heap[j]? = some o := (hw.block j hjl).trans hj
      have hj2 : (w1.alloc (.cells #[.string x] 9)).heap[j]? = some o := (Below.heap_alloc _ _ _ (by omega)).trans hj1
      have hjv : some j ≠ v.ownBlock := by
        intro e
        rcases hrow.2 with ⟨rfl, _⟩ | ⟨g, cap, cur, rfl, _, hgb, _⟩
        · simp [Value.ownBlock] at e
        · obtain rfl : j = g := by simpa [Value.ownBlock] using e
          rw [hgb] at hj; cases hj; cases ho
      have hj3 : w2.heap[j]? = some o := (hgrow.block j (by simp; omega) hjv).trans hj2
      exact (KeepsOthers.setCell w2 ⟨B, 0, none⟩ _).same j o hj3 ho
  · exact (((hw.mono (by omega)).alloc (by omega) _).grown hgrow (by simp; omega) (fun j hj => by have := hlt j hj; omega)).setCell (p := ⟨B, 0, none⟩) hn _

/-- an append whose run is known, as a step of a region -/
theorem step_append_in {F : Fence} {n : Nat} {P : Program} {ops : Array Oper} {o : Oper} {a : Act} {w w' : World} {K : Act → World → Prop} {Q : Exit → Act → World → Prop} {E : Prop} {sl x : Operand} {t ty : TypeId} {v u v' : Value}
    (hg : o.guard = none) (hty : o.type = ty) (hop : o.op = Op.call { callee := Callee.builtin Builtin.append, args := #[sl, x], argTypes := #[t, t] }) (hs : a.eval sl = v) (hx : a.eval x = u)
    (hrun : (Builtin.append_ #[t, t] ty #[v, u]).run P w = .ok v' w') (hK : K (a.put o.dst v') w') :
    if Region.wanted o (yielded ops a.tmps) = true then Oper.wpIn F n P o a w K Q else E := by
  subst hty
  rw [if_pos (by simp [Region.wanted, hg])]
  unfold Oper.wpIn
  refine ⟨?_, ?_⟩
  · simp [Oper.about, hop, resolve, Target.leads, Sem.run_pure]
  · rw [Oper.semAt_plain F _ _ (by rw [hop]; intro c hc'; cases hc')]
    simp [execOp, hop, resolve, invoke, builtin, hs, hx, hrun, Result.andThen]
    exact hK

/-- between two rounds: the list so far, in its box; what was there is as it was -/
def SplitI (w : World) (pre : List ByteArray) (W : World) : Prop := (∃ v, Boxed W w.heap.size 39 v ∧ W.ownsRow (w.heap.size + 1 + 1) 9 1 v pre.length (pre.map .string)) ∧ Below w.heap.size w W
theorem splitI_own (w : World) (B : Nat) (hB : w.heap.size ≤ B) : OwnFrom B (SplitI w) := by
  have h := OwnFrom.and (Own.from (holdsRow_own (w.heap.size + 1 + 1) w.heap.size 39 9 1 (fun pre : List ByteArray => pre.length) (fun pre => pre.map Value.string) (fun _ _ => True)) B) (ownFrom_below (Nat.le_refl _) hB)
  intro s X Y row ⟨⟨v, hv, hr⟩, hb⟩ hg hrow
  obtain ⟨⟨v', hv', hr', _⟩, hb'⟩ := h s X Y row ⟨⟨v, hv, hr, trivial⟩, hb⟩ hg hrow
  exact ⟨⟨v', hv', hr'⟩, hb'⟩
theorem splitI_set {w W : World} {pre : List ByteArray} (h : SplitI w pre W) (u : Value) : SplitI w pre (W.setCell ⟨w.heap.size + 1, 0, none⟩ u) := by
  obtain ⟨⟨v, hv, hr⟩, hb⟩ := h
  exact ⟨⟨v, hv.other (by omega) u, ownsRow_setCell_below hr (a := ⟨w.heap.size + 1, 0, none⟩) (by simp) u⟩, hb.setCell (p := ⟨w.heap.size + 1, 0, none⟩) (by simp) u⟩

theorem row_shape {W : World} {base : Nat} {e : TypeId} {v : Value} {n : Nat} {xs : List Value} (h : W.ownsRow base e 1 v n xs) : ∃ A c, v = .slice A n c ∧ n ≤ c ∧ c ≤ maxLen := by
  rcases h.2 with ⟨rfl, rfl⟩ | ⟨g, cap, cur, rfl, _, _, h1, h2, _⟩
  · exact ⟨none, 0, rfl, Nat.le_refl _, Nat.zero_le _⟩
  · exact ⟨_, cap, rfl, h1, h2⟩

theorem own_new {w : World} {n : Nat} {e : TypeId} {size m c : Nat} {A : Option Addr} {xs : List Value} (h : w.ownsRow (n + 1 + 1) e size (.slice A m c) m xs) : ∀ a, A = some a → n ≤ a.block := fun a ha => by
  subst ha
  rcases h.2 with ⟨e0, _⟩ | ⟨g, cap, cur, e0, hb, _⟩
  · cases e0
  · injection e0 with e0
    injection e0 with e0
    subst e0
    show n ≤ g
    omega
set_option maxRecDepth 100000 in
set_option maxHeartbeats 2000000 in
theorem split_in (n : Nat) (hn : 5 ≤ n) (s : ByteArray) (hs : s.size ≤ 1099511627776) (w : World) :
    CallsIn Fence.wide n Try.prog 18 #[.string s] w fun e W' => ∃ (ys : List ByteArray) (A : Option Addr) (c : Nat), e = .returned (.slice A ys.length c) ∧ txts ys = splitL (txt s) ∧ Strs W' W'.heap.size A ys ∧ ys.length ≤ c ∧ c ≤ maxLen ∧ (∀ a, A = some a → w.heap.size ≤ a.block) ∧ Below w.heap.size w W' := by
  have h1 : 1 ≤ n := by omega
  refine callsIn_of_wp_marks Try.func18 rfl trivial ?_ rfl
  simp only [Try.ntmps18, List.size_toArray, List.length_cons, List.length_nil, Nat.reduceAdd, Nat.reduceSub, Array.replicate_succ, Array.replicate_zero, List.push_toArray, List.append_toArray, List.nil_append, List.cons_append]
  gi_wp2_with (refine ⟨trivial, ?_⟩; gi_at_call 36; refine (lines_in _ _ _).mono ?_; rintro e w' ⟨rfl, rfl⟩)
  have bO := Boxed.new w 39 (.slice none 0 0)
  have bN := Boxed.new (w.alloc (.cells #[.slice none 0 0] 39)) 9 (.string s)
  rw [World.size_alloc] at bN
  have hB0 : Below w.heap.size w ((w.alloc (.cells #[.slice none 0 0] 39)).alloc (.cells #[.string s] 9)) := ((Below.refl _ w).alloc (Nat.le_refl _) _).alloc (by simp) _
  have hsl := split_length (txt s)
  have hsl2 : (txt s).length = s.size := (Lib.size_eq s).symm
  have hmix : Try.prog.follows .mixedOrders = true := by kernel_rfl
  refine range_box h1 (gf := 54) (lb := #[.pointer (some ⟨w.heap.size + 1, 0, none⟩)]) rfl (enters_of Try.func54 (by kernel_rfl) rfl) (fun x : ByteArray => #[Value.string x]) (fun _ => rfl) (w.heap.size + 1) 9
    (SplitI w) (splitI_own w _ (by simp; omega)) (fun pre W u h => splitI_set h u) (by simp) ⟨⟨_, bO.alloc _, World.ownsRow_nil _ _ _ _⟩, hB0⟩
    (fun pre x => pre.length < 1099511627776 ∧ x.size ≤ 1099511627776) (fun ys => txts ys = splitL (txt s)) ?iter
    (fun x => { tmps := #[Value.string s, undef, Value.slice none 0 0, Value.pointer (some { block := w.heap.size, off := 0 }), Value.string x, Value.string s, Value.func (Fn.func 54) #[] #[Value.pointer (some { block := w.heap.size + 1, off := 0 })], Value.string x, undef, undef, undef, undef, undef, undef], defers := [] }) ?assign ?body ?done
  case iter =>
    intro l J W hset hY hold h0
    refine (iter_in (n - 1) l (w.heap.size + 1) (by omega) s (by omega) J hset ?_ W ((hold _ (by simp)).trans bN) h0)
    intro pre x r W' hJ hb hlen hxs
    exact hY pre x _ W' hJ hb ⟨by omega, by omega⟩
  case assign =>
    intro l x W K hK
    gi_wp2
    exact hK
  case body =>
    rintro l pre x r W ⟨⟨v, hv, hrow⟩, hB⟩ hbn ⟨hpl, hxs⟩
    have hc := hv.cell
    have hx2 : x.size ≤ 140737488355328 := by omega
    have hblt : w.heap.size + 1 + 1 ≤ W.drew.heap.size := hbn.lt
    have hn2 : 1 ≤ n - 1 - 1 := by omega
    clear bO bN hB0 hsl hsl2
    gi_wp2
    refine wpIn_region_any hmix ?_
    change wpAnyIn _ _ _ _ _ _ _ _ _ (World.drew _)
    refine wpAnyIn_ready (rs := [0, 1]) (by kernel_rfl) (by simp) (AllReadyIn.cons rfl (fun K hK => ?_) (AllReadyIn.cons rfl (fun K hK => ?_) AllReadyIn.nil))
    · go_simp
      refine hK _ _ ?_
      clear hK K
      refine wpAnyIn_ready (rs := [1]) (by kernel_rfl) (by simp) (AllReadyIn.cons rfl (fun K hK => ?_) AllReadyIn.nil)
      go_simp
      refine hK _ _ ?_
      clear hK K
      refine wpAnyIn_ready (rs := [2]) (by kernel_rfl) (by simp) (AllReadyIn.cons rfl (fun K hK => ?_) AllReadyIn.nil)
      go_simp
      refine ⟨trivial, (CallsIn.inRound l (callsIn_wide.2 (clone_any _ _ hx2))).mono ?_⟩
      rintro e w1 ⟨rfl, hbw⟩
      obtain ⟨A2, c2, w2, hrun, hc1, hc2, hf2, q1, q2, q3, q4, q5⟩ := app_step (W := W.drew) (n₀ := w.heap.size) x hv hbn hrow hbw (by omega) (by omega) hpl hblt
      have hc1a : (w1.alloc (.cells #[.string x] 9)).cell? ⟨w.heap.size, 0, none⟩ = some v := (World.cell?_alloc_lt _ _ _ (by have := hbw.size; simp at this hblt ⊢; omega)).trans hc1
      refine hK _ _ ?_
      clear hK K
      refine wpAnyIn_ready (rs := [3]) (by kernel_rfl) (by simp) (AllReadyIn.cons rfl (fun K hK => ?_) AllReadyIn.nil)
      go_simp
      refine hK _ _ ?_
      clear hK K
      refine wpAnyIn_ready (rs := [4]) (by kernel_rfl) (by simp) (AllReadyIn.cons rfl (fun K hK => ?_) AllReadyIn.nil)
      refine step_append_in rfl rfl rfl rfl rfl hrun (hK _ _ ?_)
      clear hK K
      refine wpAnyIn_ready (rs := [5]) (by kernel_rfl) (by simp) (AllReadyIn.cons rfl (fun K hK => ?_) AllReadyIn.nil)
      go_simp
      refine hK _ _ ?_
      clear hK K
      refine wpAnyIn_done (by kernel_rfl) ?_ _
      exact ⟨((KeepsOthers.drew W).trans q4).from _, ⟨⟨_, q1, by simpa using q3⟩, hB.drew.trans q5⟩, q2⟩
    · go_simp
      refine hK _ _ ?_
      clear hK K
      refine wpAnyIn_ready (rs := [0, 2]) (by kernel_rfl) (by simp) (AllReadyIn.cons rfl (fun K hK => ?_) (AllReadyIn.cons rfl (fun K hK => ?_) AllReadyIn.nil))
      · go_simp
        refine hK _ _ ?_
        clear hK K
        refine wpAnyIn_ready (rs := [2]) (by kernel_rfl) (by simp) (AllReadyIn.cons rfl (fun K hK => ?_) AllReadyIn.nil)
        go_simp
        refine ⟨trivial, (CallsIn.inRound l (callsIn_wide.2 (clone_any _ _ hx2))).mono ?_⟩
        rintro e w1 ⟨rfl, hbw⟩
        obtain ⟨A2, c2, w2, hrun, hc1, hc2, hf2, q1, q2, q3, q4, q5⟩ := app_step (W := W.drew) (n₀ := w.heap.size) x hv hbn hrow hbw (by omega) (by omega) hpl hblt
        have hc1a : (w1.alloc (.cells #[.string x] 9)).cell? ⟨w.heap.size, 0, none⟩ = some v := (World.cell?_alloc_lt _ _ _ (by have := hbw.size; simp at this hblt ⊢; omega)).trans hc1
        refine hK _ _ ?_
        clear hK K
        refine wpAnyIn_ready (rs := [3]) (by kernel_rfl) (by simp) (AllReadyIn.cons rfl (fun K hK => ?_) AllReadyIn.nil)
        go_simp
        refine hK _ _ ?_
        clear hK K
        refine wpAnyIn_ready (rs := [4]) (by kernel_rfl) (by simp) (AllReadyIn.cons rfl (fun K hK => ?_) AllReadyIn.nil)
        refine step_append_in rfl rfl rfl rfl rfl hrun (hK _ _ ?_)
        clear hK K
        refine wpAnyIn_ready (rs := [5]) (by kernel_rfl) (by simp) (AllReadyIn.cons rfl (fun K hK => ?_) AllReadyIn.nil)
        go_simp
        refine hK _ _ ?_
        clear hK K
        refine wpAnyIn_done (by kernel_rfl) ?_ _
        exact ⟨((KeepsOthers.drew W).trans q4).from _, ⟨⟨_, q1, by simpa using q3⟩, hB.drew.trans q5⟩, q2⟩
      · go_simp
        refine ⟨trivial, (CallsIn.inRound l (callsIn_wide.2 (clone_any _ _ hx2))).mono ?_⟩
        rintro e w1 ⟨rfl, hbw⟩
        obtain ⟨A2, c2, w2, hrun, hc1, hc2, hf2, q1, q2, q3, q4, q5⟩ := app_step (W := W.drew) (n₀ := w.heap.size) x hv hbn hrow hbw (by omega) (by omega) hpl hblt
        have hc1a : (w1.alloc (.cells #[.string x] 9)).cell? ⟨w.heap.size, 0, none⟩ = some v := (World.cell?_alloc_lt _ _ _ (by have := hbw.size; simp at this hblt ⊢; omega)).trans hc1
        refine hK _ _ ?_
        clear hK K
        refine wpAnyIn_ready (rs := [0, 3]) (by kernel_rfl) (by simp) (AllReadyIn.cons rfl (fun K hK => ?_) (AllReadyIn.cons rfl (fun K hK => ?_) AllReadyIn.nil))
        · go_simp
          refine hK _ _ ?_
          clear hK K
          refine wpAnyIn_ready (rs := [3]) (by kernel_rfl) (by simp) (AllReadyIn.cons rfl (fun K hK => ?_) AllReadyIn.nil)
          go_simp
          refine hK _ _ ?_
          clear hK K
          refine wpAnyIn_ready (rs := [4]) (by kernel_rfl) (by simp) (AllReadyIn.cons rfl (fun K hK => ?_) AllReadyIn.nil)
          refine step_append_in rfl rfl rfl rfl rfl hrun (hK _ _ ?_)
          clear hK K
          refine wpAnyIn_ready (rs := [5]) (by kernel_rfl) (by simp) (AllReadyIn.cons rfl (fun K hK => ?_) AllReadyIn.nil)
          go_simp
          refine hK _ _ ?_
          clear hK K
          refine wpAnyIn_done (by kernel_rfl) ?_ _
          exact ⟨((KeepsOthers.drew W).trans q4).from _, ⟨⟨_, q1, by simpa using q3⟩, hB.drew.trans q5⟩, q2⟩
        · go_simp
          refine hK _ _ ?_
          clear hK K
          refine wpAnyIn_ready (rs := [0]) (by kernel_rfl) (by simp) (AllReadyIn.cons rfl (fun K hK => ?_) AllReadyIn.nil)
          go_simp
          refine hK _ _ ?_
          clear hK K
          refine wpAnyIn_ready (rs := [4]) (by kernel_rfl) (by simp) (AllReadyIn.cons rfl (fun K hK => ?_) AllReadyIn.nil)
          refine step_append_in rfl rfl rfl rfl rfl hrun (hK _ _ ?_)
          clear hK K
          refine wpAnyIn_ready (rs := [5]) (by kernel_rfl) (by simp) (AllReadyIn.cons rfl (fun K hK => ?_) AllReadyIn.nil)
          go_simp
          refine hK _ _ ?_
          clear hK K
          refine wpAnyIn_done (by kernel_rfl) ?_ _
          exact ⟨((KeepsOthers.drew W).trans q4).from _, ⟨⟨_, q1, by simpa using q3⟩, hB.drew.trans q5⟩, q2⟩
  case done =>
    rintro D ys W hD hys ⟨⟨v, hv, hrow⟩, hB⟩ hK
    have hc := hv.cell
    obtain ⟨A, c, rfl, hlc, hcm⟩ := row_shape hrow
    have hrow2 := ownsRow_putObj hrow (.deferred none) hK rfl
    gi_wp2
    refine ⟨by simp, .inl ⟨_, _, rfl, run_takeDeferred hK, ?_⟩⟩
    exact ⟨_, results_tmp rfl _ _ _, ys, A, c, rfl, hys, Strs.of_own hrow2, hlc, hcm, own_new hrow2, hB.trans (belowK_b (w := w) (Nat.le_refl _) W D _ _ (by simp at hD; omega) hK rfl rfl)⟩

/-- Split, wherever it is called -/
theorem split_any (s : ByteArray) (hs : s.size ≤ 1099511627776) (w : World) :
    Calls Try.prog 18 #[.string s] w fun e W' => ∃ (ys : List ByteArray) (A : Option Addr) (c : Nat), e = .returned (.slice A ys.length c) ∧ txts ys = splitL (txt s) ∧ Strs W' W'.heap.size A ys ∧ ys.length ≤ c ∧ c ≤ maxLen ∧ (∀ a, A = some a → w.heap.size ≤ a.block) ∧ Below w.heap.size w W' :=
  callsIn_wide.1 (split_in 5 (Nat.le_refl _) s hs w)

end Go.Proofs.Ytdnckhagknlfhaa.Sp
