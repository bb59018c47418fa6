/-
  How a law's row is closed: the call returned true, and nothing that was there before it is changed: so each argument reads as it did. How an argument that is a list of slots, of numbers or of yes and no reads, and one that is a slot.
-/
import Derived.Test.YtndhaickelbkiaaOrder
import Derived.ProofKit
import Derived.OpenShut
import Derived.SizedLaws
import Derived.JoinedCond
import Derived.Deep.CondSized
import Derived.Carry
import Derived.Deep.Slices
import Derived.Deep.Fields
import Derived.Deep.Grids
import Derived.ChangeSame
namespace Go.Proofs.Ytndhaickelbkiaa
open Go.ChangeShapes Go.WideShapes Go.ChangeAt Go.RowKit Go.Deep

theorem own : ownKnob Try.prog.godebug = none := by kernel_rfl
theorem laidOut : laidOutB Try.prog = true := by kernel_rfl
theorem cellsInt : Try.prog.cellsOf 3 = 1 := by kernel_rfl
theorem cellsBool : Try.prog.cellsOf 4 = 1 := by kernel_rfl
theorem cellsText : Try.prog.cellsOf 9 = 1 := by kernel_rfl
theorem cellsU64 : Try.prog.cellsOf 24 = 1 := by kernel_rfl
theorem cellsKey : Try.prog.cellsOf 26 = 2 := by kernel_rfl
theorem cellsSlot : Try.prog.cellsOf 28 = 5 := by kernel_rfl

theorem trodAll_below {H : Type} {enc : TypeId × Value → H} {W W' : World} (hb : Below W.heap.size W W') : ∀ (ts : List TypeId) {vs : List Value} {ds : List (DataW H)} {ps : List MemPlace},
    (∀ t ∈ ts, Try.prog.readableRec t = true ∧ t < Try.prog.types.size) → DataW.TrodAll enc Try.prog W 0 (fun _ => true) true ts vs ds ps → (∀ x ∈ ps, x.block < W.heap.size) →
    DataW.TrodAll enc Try.prog W' 0 (fun b => decide (b < W.heap.size)) true ts vs ds ps
  | [], vs, ds, ps, _, h, _ => by
    obtain ⟨rfl, rfl, rfl⟩ := trodAll_nil h
    exact trodAll_mk0
  | t :: ts, vs, ds, ps, ht, h, hlt => by
    obtain ⟨v0, vs0, d0, ds0, p0, q0, rfl, rfl, rfl, h0, r0⟩ := trodAll_cons h
    exact trodAll_cons_mk (Below.trod laidOut (ht t (by simp)).1 (ht t (by simp)).2 h0 hb (fun x hx => hlt x (by simp [hx]))) (trodAll_below hb ts (fun t' h' => ht t' (by simp [h'])) r0 (fun x hx => hlt x (by simp [hx])))

theorem law_post {H : Type} {enc : TypeId × Value → H} {f : Func} {s : ChangeSpec} {W W' : World} {args : Array Value} {ds gs : List (DataW H)} {before : List MemPlace}
    (hW : DataW.Whole enc Try.prog f.params.toList s.vars false W args.toList ds gs before) (hv : s.vars = []) (hres : f.resultTypes = #[4])
    (hfn : (s.fn H (ds ++ gs)).results = [.lit (.bool true)] ∧ (s.fn H (ds ++ gs)).args = ds ∧ (s.fn H (ds ++ gs)).vars = [])
    (hts : ∀ t ∈ f.params.toList, Try.prog.readableRec t = true ∧ t < Try.prog.types.size) (hb : Below W.heap.size W W') :
    s.post enc Try.prog f false true false false W args (.bool true) W' := by
  have hW' := hW
  obtain ⟨p, q, hA, hV, rfl, _, _⟩ := hW
  have hV0 : gs = [] ∧ q = [] := by rw [hv] at hV; exact trodVars_none hV
  obtain ⟨rfl, rfl⟩ := hV0
  have hlt : ∀ x ∈ p, x.block < W.heap.size := fun x hx => hW'.lt x (by simp [hx])
  have hA' := trodAll_below hb _ hts hA hlt
  refine ⟨ds, [], p ++ [], [], p, [], hW', ?_, ?_, ?_, World.keptBut_mono (fun x hx => ⟨hx, ?_⟩) (hb.frame (· ∈ p ++ [])), fun h => by cases h⟩
  · rw [hfn.1, hres]; exact trodAll_cons_mk (shut_bool Try.underlying4 _) trodAll_mk0
  · rw [hfn.2.1]; exact hA'
  · rw [hfn.2.2, hv]; rfl
  · exact Or.inr (by simpa using hx)

section
variable {H : Type} {enc : TypeId × Value → H} {W : World} {n : Nat} {v : Value} {y : DataW H × List MemPlace}
theorem field_int (h : DataW.trod enc Try.prog W 0 (fun _ => true) true n 3 [v] = some y) : ∃ x : Int, v = .int .i64 x ∧ (Lit.int .i64 x).wf = true := by
  obtain ⟨x, hc, _, hw⟩ := DataW.trod_int Try.underlying3 h
  exact ⟨x, by simpa using hc, hw⟩
theorem field_u64 (h : DataW.trod enc Try.prog W 0 (fun _ => true) true n 24 [v] = some y) : ∃ x : Int, v = .int .u64 x ∧ (Lit.int .u64 x).wf = true := by
  obtain ⟨x, hc, _, hw⟩ := DataW.trod_int Try.underlying24 h
  exact ⟨x, by simpa using hc, hw⟩
theorem field_text (h : DataW.trod enc Try.prog W 0 (fun _ => true) true n 9 [v] = some y) : ∃ s : ByteArray, v = .string s ∧ y.1 = .lit (.string s.data.toList) := by
  obtain ⟨s, hc, hy, hs⟩ := DataW.trod_string Try.underlying9 h
  exact ⟨s, by simpa using hc, by rw [hy]⟩
theorem weightsAll_in {P : Program} {e : TypeId} : ∀ {l : List (DataW H)} {x : DataW H}, x ∈ l → ∀ {k : Nat}, k ∈ x.weights P e → k ∈ DataW.weightsAll P e l
  | d :: l, x, hx, k, hk => by
    simp only [DataW.weightsAll, List.mem_append]
    rcases List.mem_cons.1 hx with rfl | hx
    · exact .inl hk
    · exact .inr (weightsAll_in hx hk)
/-- the cells of a slot that came in -/
theorem slot_cells {cs : List Value} (h : DataW.trod enc Try.prog W 0 (fun _ => true) true n 28 cs = some y) (hl : cs.length = 5) (hw : ∀ k ∈ y.1.weights Try.prog 28, k ≤ reachBytes) : ∃ x : Sl, cs = x.cells ∧ FitS [x] := by
  obtain ⟨ys, n', _, hag, _, hyl, hfld⟩ := DataW.trod_struct Try.underlying28 h
  match cs, hl with
  | [u0, u1, u2, u3, u4], _ =>
    have hy4 : ys.length = 4 := hyl
    have h0 : DataW.trod enc Try.prog W 0 (fun _ => true) true n' 26 (([u0, u1, u2, u3, u4].drop 0).take (Try.prog.cellsOf 26)) = ys[0]? := hfld 0 _ rfl
    have h1 : DataW.trod enc Try.prog W 0 (fun _ => true) true n' 9 (([u0, u1, u2, u3, u4].drop 2).take (Try.prog.cellsOf 9)) = ys[1]? := hfld 1 _ rfl
    have h2 : DataW.trod enc Try.prog W 0 (fun _ => true) true n' 9 (([u0, u1, u2, u3, u4].drop 3).take (Try.prog.cellsOf 9)) = ys[2]? := hfld 2 _ rfl
    have h3 : DataW.trod enc Try.prog W 0 (fun _ => true) true n' 9 (([u0, u1, u2, u3, u4].drop 4).take (Try.prog.cellsOf 9)) = ys[3]? := hfld 3 _ rfl
    simp only [cellsKey, cellsText, List.drop_zero, List.drop_succ_cons, List.take_succ_cons, List.take_zero] at h0 h1 h2 h3
    rw [List.getElem?_eq_getElem (by omega)] at h0 h1 h2 h3
    obtain ⟨zs, m, _, _, _, hzl, hkf⟩ := DataW.trod_struct Try.underlying26 h0
    have hz2 : zs.length = 2 := hzl
    have j0 : DataW.trod enc Try.prog W 0 (fun _ => true) true m 24 (([u0, u1].drop 0).take (Try.prog.cellsOf 24)) = zs[0]? := hkf 0 _ rfl
    have j1 : DataW.trod enc Try.prog W 0 (fun _ => true) true m 3 (([u0, u1].drop 1).take (Try.prog.cellsOf 3)) = zs[1]? := hkf 1 _ rfl
    simp only [cellsU64, cellsInt, List.drop_zero, List.drop_succ_cons, List.take_succ_cons, List.take_zero] at j0 j1
    rw [List.getElem?_eq_getElem (by omega)] at j0 j1
    obtain ⟨a, rfl, hwa⟩ := field_u64 j0
    obtain ⟨b, rfl, hwb⟩ := field_int j1
    obtain ⟨s1, rfl, f1⟩ := field_text h1
    obtain ⟨s2, rfl, f2⟩ := field_text h2
    obtain ⟨s3, rfl, f3⟩ := field_text h3
    have hle : ∀ (i : Nat) (hi : i < ys.length) (s : ByteArray), (i = 1 ∨ i = 2 ∨ i = 3) → ys[i].1 = .lit (.string s.data.toList) → s.size ≤ 140737488355328 := fun i hi s hc hf => by
      have hda : y.1 = .agg (ys.map (·.1)) := congrArg Prod.fst hag
      have hm : s.data.toList.length ∈ y.1.weights Try.prog 28 := by
        rw [hda]
        simp only [DataW.weights, Try.underlying28]
        refine DataW.weights_mem_each (j := i) (t := 9) (d := .lit (.string s.data.toList)) ?_ ?_ _ (by simp [DataW.weights])
        · rcases hc with rfl | rfl | rfl <;> rfl
        · rw [List.getElem?_map, List.getElem?_eq_getElem hi, ← hf]; rfl
      have := hw _ hm
      simp only [reachBytes, Array.length_toList] at this
      show s.data.size ≤ _
      omega
    refine ⟨⟨a, b, s1, s2, s3⟩, rfl, fun x hx => ?_⟩
    have e : x = ⟨a, b, s1, s2, s3⟩ := by simpa using hx
    subst e
    exact ⟨⟨hle 1 (by omega) s1 (.inl rfl) f1, hle 2 (by omega) s2 (.inr (.inl rfl)) f2, hle 3 (by omega) s3 (.inr (.inr rfl)) f3⟩, hwa, hwb⟩
end

section
variable {H : Type} {enc : TypeId × Value → H} {W : World} {base : Nat} {v : Value} {d : DataW H} {p : List MemPlace} {ts : List TypeId} {ds : List (DataW H)} {j : Nat}
set_option maxRecDepth 100000 in
/-- a list of slots that came in -/
theorem open_slots (hval : Value.okWide Try.prog W .any base 22 v) (h : DataW.Trod enc Try.prog W 0 (fun _ => true) true 22 v d p)
    (hsz : (DataW.weightsEach Try.prog ts ds).all (· ≤ reachBytes) = true) (ht : ts[j]? = some 22) (hd : ds[j]? = some d) :
    ∃ A L c, v = .slice A L.length c ∧ SlotsAt W A L ∧ L.length ≤ c ∧ FitS L := by
  obtain ⟨a0, len, cap, rfl⟩ := okWide_slice Try.underlying22 hval
  obtain ⟨fuel, hf⟩ := h
  rcases open_slice Try.underlying22 hf with ⟨hc, hx⟩ | ⟨a, len', cap', m, n, D, Pl, hc, _, hl, hm, hmm, hx, hi⟩
  · simp [Value.cells] at hc
    obtain ⟨rfl, rfl, rfl⟩ := hc
    exact ⟨none, [], 0, rfl, RowAt.nil, Nat.le_refl _, FitS.nil⟩
  · simp [Value.cells] at hc
    obtain ⟨rfl, rfl, rfl⟩ := hc
    simp only [Prod.mk.injEq] at hx
    obtain ⟨rfl, rfl⟩ := hx
    have hex : ∀ i, ∃ x : Sl, i < len → (∀ k u, x.cells[k]? = some u → W.cell? (a.add (i * 5 + k)) = some u) ∧ FitS [x] := by
      intro i
      by_cases hil : i < len
      · have him : i < m := by rw [hmm]; simp; omega
        obtain ⟨cs', hcs, htr⟩ := hi i him
        rw [cellsSlot] at hcs
        obtain ⟨_, hcl, hat⟩ := World.cells?_some hcs
        have hw : ∀ k ∈ (D i).weights Try.prog 28, k ≤ reachBytes := fun k hk => by
          have := List.all_eq_true.1 hsz k (DataW.weights_mem_each ht hd k (by
            simp only [DataW.weights, Try.underlying22, List.mem_cons, List.mem_append]
            exact .inr (.inl (weightsAll_in (List.mem_map.2 ⟨i, List.mem_range.2 hil, rfl⟩) hk))))
          simpa using this
        obtain ⟨x, hx, hfx⟩ := slot_cells htr (by simpa using hcl) hw
        refine ⟨x, fun _ => ⟨fun k u hk => ?_, hfx⟩⟩
        have hk5 : k < 5 := by have := (List.getElem?_eq_some_iff.1 hk).1; exact this
        have := hat k hk5
        rw [add_twice] at this
        rw [this, hx]
        simpa using hk
      · exact ⟨zeroS, fun h => absurd h hil⟩
    obtain ⟨f, hf'⟩ := Classical.skolem.1 hex
    have hlen : ((List.range len).map f).length = len := by simp
    refine ⟨some a, (List.range len).map f, cap, by rw [hlen], fun hne => ?_, by rw [hlen]; exact hl, fun x hx => ?_⟩
    · have hpos : 0 < len := by
        rcases Nat.eq_zero_or_pos len with e | e
        · subst e; exact absurd rfl hne
        · exact e
      refine ⟨a, rfl, ?_, fun k x hk i u hu => ?_⟩
      · have := lt_of_cell ((hf' 0 hpos).1 0 _ rfl)
        rwa [add_block] at this
      · obtain ⟨hk1, hk2⟩ := List.getElem?_eq_some_iff.1 hk
        rw [hlen] at hk1
        have hx : x = f k := by rw [← hk2]; simp
        subst hx
        exact (hf' k hk1).1 i u hu
    · obtain ⟨i, hi, rfl⟩ := List.mem_map.1 hx
      exact (hf' i (List.mem_range.1 hi)).2 _ (List.mem_singleton.2 rfl)
/-- a slot that came in -/
theorem open_slotV (hval : Value.okWide Try.prog W .any base 28 v) (h : DataW.Trod enc Try.prog W 0 (fun _ => true) true 28 v d p)
    (hsz : (DataW.weightsEach Try.prog ts ds).all (· ≤ reachBytes) = true) (ht : ts[j]? = some 28) (hd : ds[j]? = some d) :
    ∃ x : Sl, v = .agg #[.int .u64 x.sum, .int .i64 x.len, .string x.left, .string x.right, .string x.val] ∧ FitS [x] := by
  obtain ⟨cs, rfl, hl⟩ := okWide_struct Try.underlying28 hval
  obtain ⟨fuel, hf⟩ := h
  obtain ⟨l⟩ := cs
  obtain ⟨x, hx, hfx⟩ := slot_cells (y := (d, p)) hf (by simpa [Value.cells, cellsSlot] using hl) (fun k hk => by
    have := List.all_eq_true.1 hsz k (DataW.weights_mem_each ht hd k hk)
    simpa using this)
  refine ⟨x, ?_, hfx⟩
  have : l = x.cells := by simpa [Value.cells] using hx
  rw [this]
  rfl
theorem open_intsL (hval : Value.okWide Try.prog W .any base 23 v) (h : DataW.Trod enc Try.prog W 0 (fun _ => true) true 23 v d p) :
    ∃ A zs c, v = .slice A zs.length c ∧ IntsAt W A zs ∧ zs.length ≤ 9223372036854775807 ∧ InRange zs := by
  obtain ⟨a0, len, cap, rfl⟩ := okWide_slice Try.underlying23 hval
  obtain ⟨fuel, hf⟩ := h
  rcases open_ints Try.underlying23 Try.underlying3 cellsInt hf with ⟨hc, hx⟩ | ⟨a, len', cap', zs, hc, _, hl, hm, hzl, hx, hcell, hwf⟩
  · simp [Value.cells] at hc
    obtain ⟨rfl, rfl, rfl⟩ := hc
    exact ⟨none, [], 0, rfl, RowAt.nil, by simp, fun z hz => by cases hz⟩
  · simp [Value.cells] at hc
    obtain ⟨rfl, rfl, rfl⟩ := hc
    simp at hzl
    have hlen : (zs.take len).length = len := by simp; omega
    refine ⟨some a, zs.take len, cap, by rw [hlen], fun hne => ?_, by rw [hlen]; unfold maxLen at hm; omega, fun z hz => ?_⟩
    · have h0 : 0 < zs.length := by
        rcases Nat.eq_zero_or_pos zs.length with e | e
        · have : zs = [] := List.eq_nil_of_length_eq_zero e
          subst this; simp at hne
        · exact e
      refine ⟨a, rfl, ?_, fun k z hk i u hu => ?_⟩
      · have := lt_of_cell (hcell 0 h0)
        rwa [add_block] at this
      · have hi0 : i = 0 := by have := (List.getElem?_eq_some_iff.1 hu).1; simp [icells] at this; exact this
        subst hi0
        have hu' : u = .int .i64 z := by simpa [icells] using hu.symm
        subst hu'
        rw [List.getElem?_take] at hk
        split at hk
        · obtain ⟨hk1, rfl⟩ := List.getElem?_eq_some_iff.1 hk
          rw [Nat.mul_one, Nat.add_zero, hcell k hk1]
          simp [List.getD, List.getElem?_eq_getElem hk1]
        · cases hk
    · have := hwf z (List.mem_of_mem_take hz)
      have h1 : IntKind.i64.min = -9223372036854775808 := rfl
      have h2 : IntKind.i64.max = 9223372036854775807 := rfl
      simp only [Lit.wf, Bool.and_eq_true, decide_eq_true_eq] at this
      omega
theorem open_boolsL (hval : Value.okWide Try.prog W .any base 44 v) (h : DataW.Trod enc Try.prog W 0 (fun _ => true) true 44 v d p) :
    ∃ A bs c, v = .slice A bs.length c ∧ BoolsAt W A bs ∧ bs.length ≤ 9223372036854775807 := by
  obtain ⟨a0, len, cap, rfl⟩ := okWide_slice Try.underlying44 hval
  obtain ⟨fuel, hf⟩ := h
  rcases open_bools Try.underlying44 Try.underlying4 cellsBool hf with ⟨hc, hx⟩ | ⟨a, len', cap', B, hc, _, hl, hm, hx, hcell⟩
  · simp [Value.cells] at hc
    obtain ⟨rfl, rfl, rfl⟩ := hc
    exact ⟨none, [], 0, rfl, RowAt.nil, by simp⟩
  · simp [Value.cells] at hc
    obtain ⟨rfl, rfl, rfl⟩ := hc
    refine ⟨some a, (List.range len).map B, cap, by simp, fun hne => ?_, by simp; unfold maxLen at hm; omega⟩
    have hpos : 0 < len := by
      rcases Nat.eq_zero_or_pos len with e | e
      · subst e; exact absurd rfl hne
      · exact e
    refine ⟨a, rfl, ?_, fun k z hk i u hu => ?_⟩
    · have := lt_of_cell (hcell 0 (by omega))
      rwa [add_block] at this
    · have hi0 : i = 0 := by have := (List.getElem?_eq_some_iff.1 hu).1; simp [bcells] at this; exact this
      subst hi0
      have hu' : u = .bool z := by simpa [bcells] using hu.symm
      subst hu'
      obtain ⟨hk1, hk2⟩ := List.getElem?_eq_some_iff.1 hk
      simp at hk1 hk2
      rw [Nat.mul_one, Nat.add_zero, hcell k (by omega), hk2]
theorem int_range {z : Int} (g : (Lit.int .i64 z).wf = true) : -9223372036854775808 ≤ z ∧ z ≤ 9223372036854775807 := by
  have h1 : IntKind.i64.min = -9223372036854775808 := rfl
  have h2 : IntKind.i64.max = 9223372036854775807 := rfl
  simp only [Lit.wf, Bool.and_eq_true, decide_eq_true_eq] at g
  omega
end

end Go.Proofs.Ytndhaickelbkiaa
