/-
  How a law's row is closed: the call returned true, and nothing that was there before it is changed: so each argument reads as it did. How an argument that is a list of three numbers each, of numbers, or of tasks, or a queue, reads.
-/
import Derived.Test.YtaelenjnjoeheaaLw
import Derived.ProofKit
import Derived.OpenShut
import Derived.SizedLaws
import Derived.JoinedCond
import Derived.Deep.CondSized
import Derived.Carry
import Derived.Deep.Slices
import Derived.Deep.Fields
import Derived.Deep.Grids
import Derived.ChangeSame
import Derived.Laws.IdiomArrays
namespace Go.Proofs.Ytaelenjnjoeheaa
open Go.ChangeShapes Go.WideShapes Go.ChangeAt Go.RowKit Go.Deep P16

theorem own : ownKnob Try.prog.godebug = none := by kernel_rfl
theorem laidOut : laidOutB Try.prog = true := by kernel_rfl
theorem cellsInt : Try.prog.cellsOf 3 = 1 := by kernel_rfl
theorem cellsBool : Try.prog.cellsOf 4 = 1 := by kernel_rfl
theorem cellsStr : Try.prog.cellsOf 9 = 1 := by kernel_rfl
theorem cellsTri : Try.prog.cellsOf 48 = 3 := by kernel_rfl
theorem cellsTask : Try.prog.cellsOf 39 = 4 := by kernel_rfl
theorem cellsTasks : Try.prog.cellsOf 22 = 1 := by kernel_rfl
theorem cellsQueue : Try.prog.cellsOf 24 = 3 := by kernel_rfl

theorem trodAll_below {H : Type} {enc : TypeId × Value → H} {W W' : World} (hb : Below W.heap.size W W') : ∀ (ts : List TypeId) {vs : List Value} {ds : List (DataW H)} {ps : List MemPlace},
    (∀ t ∈ ts, Try.prog.readableRec t = true ∧ t < Try.prog.types.size) → DataW.TrodAll enc Try.prog W 0 (fun _ => true) true ts vs ds ps → (∀ x ∈ ps, x.block < W.heap.size) →
    DataW.TrodAll enc Try.prog W' 0 (fun b => decide (b < W.heap.size)) true ts vs ds ps
  | [], vs, ds, ps, _, h, _ => by
    obtain ⟨rfl, rfl, rfl⟩ := trodAll_nil h
    exact trodAll_mk0
  | t :: ts, vs, ds, ps, ht, h, hlt => by
    obtain ⟨v0, vs0, d0, ds0, p0, q0, rfl, rfl, rfl, h0, r0⟩ := trodAll_cons h
    exact trodAll_cons_mk (Below.trod laidOut (ht t (by simp)).1 (ht t (by simp)).2 h0 hb (fun x hx => hlt x (by simp [hx]))) (trodAll_below hb ts (fun t' h' => ht t' (by simp [h'])) r0 (fun x hx => hlt x (by simp [hx])))

theorem law_post {H : Type} {enc : TypeId × Value → H} {f : Func} {s : ChangeSpec} {W W' : World} {args : Array Value} {ds gs : List (DataW H)} {before : List MemPlace}
    (hW : DataW.Whole enc Try.prog f.params.toList s.vars false W args.toList ds gs before) (hv : s.vars = []) (hres : f.resultTypes = #[4])
    (hfn : (s.fn H (ds ++ gs)).results = [.lit (.bool true)] ∧ (s.fn H (ds ++ gs)).args = ds ∧ (s.fn H (ds ++ gs)).vars = [])
    (hts : ∀ t ∈ f.params.toList, Try.prog.readableRec t = true ∧ t < Try.prog.types.size) (hb : Below W.heap.size W W') :
    s.post enc Try.prog f false true false false W args (.bool true) W' := by
  have hW' := hW
  obtain ⟨p, q, hA, hV, rfl, _, _⟩ := hW
  have hV0 : gs = [] ∧ q = [] := by rw [hv] at hV; exact trodVars_none hV
  obtain ⟨rfl, rfl⟩ := hV0
  have hlt : ∀ x ∈ p, x.block < W.heap.size := fun x hx => hW'.lt x (by simp [hx])
  have hA' := trodAll_below hb _ hts hA hlt
  refine ⟨ds, [], p ++ [], [], p, [], hW', ?_, ?_, ?_, World.keptBut_mono (fun x hx => ⟨hx, ?_⟩) (hb.frame (· ∈ p ++ [])), fun h => by cases h⟩
  · rw [hfn.1, hres]; exact trodAll_cons_mk (shut_bool Try.underlying4 _) trodAll_mk0
  · rw [hfn.2.1]; exact hA'
  · rw [hfn.2.2, hv]; rfl
  · exact Or.inr (by simpa using hx)

theorem int_range {z : Int} (g : (Lit.int .i64 z).wf = true) : -9223372036854775808 ≤ z ∧ z ≤ 9223372036854775807 := by
  have h1 : IntKind.i64.min = -9223372036854775808 := rfl
  have h2 : IntKind.i64.max = 9223372036854775807 := rfl
  simp only [Lit.wf, Bool.and_eq_true, decide_eq_true_eq] at g
  omega

/-- numbers -/
def icells (n : Int) : List Value := [.int .i64 n]
abbrev IntsAt (w : World) (A : Option Addr) (L : List Int) : Prop := RowAt icells 1 w A L
section
variable {H : Type} {enc : TypeId × Value → H} {W : World} {n base : Nat} {v : Value} {y : DataW H × List MemPlace} {d : DataW H} {p : List MemPlace}
theorem field_int (h : DataW.trod enc Try.prog W 0 (fun _ => true) true n 3 [v] = some y) : ∃ x : Int, v = .int .i64 x ∧ I64 x := by
  obtain ⟨x, hc, _, hw⟩ := DataW.trod_int Try.underlying3 h
  exact ⟨x, by simpa using hc, int_range hw⟩
theorem field_bool (h : DataW.trod enc Try.prog W 0 (fun _ => true) true n 4 [v] = some y) : ∃ b : Bool, v = .bool b := by
  obtain ⟨x, hc, _⟩ := DataW.trod_bool Try.underlying4 h
  exact ⟨x, by simpa using hc⟩
theorem field_textW (h : DataW.trod enc Try.prog W 0 (fun _ => true) true n 9 [v] = some y) : ∃ s : ByteArray, v = .string s ∧ y.1 = .lit (.string s.data.toList) := by
  obtain ⟨s, hc, hy, _⟩ := DataW.trod_string Try.underlying9 h
  exact ⟨s, by simpa using hc, by rw [hy]⟩
theorem weightsAll_in {P : Program} {e : TypeId} : ∀ {l : List (DataW H)} {x : DataW H}, x ∈ l → ∀ {k : Nat}, k ∈ x.weights P e → k ∈ DataW.weightsAll P e l
  | d :: l, x, hx, k, hk => by
    simp only [DataW.weightsAll, List.mem_append]
    rcases List.mem_cons.1 hx with rfl | hx
    · exact .inl hk
    · exact .inr (weightsAll_in hx hk)
theorem tri_in {cs : List Value} (h : DataW.trod enc Try.prog W 0 (fun _ => true) true n 48 cs = some y) (hl : cs.length = 3) : ∃ z : Tri, cs = z.cells ∧ (I64 z.n0 ∧ I64 z.n1 ∧ I64 z.n2) := by
  match cs, hl with
  | [c0, c1, c2], _ =>
    obtain ⟨y0, y1, y2, m, _, h0, h1, h2⟩ := trod_array3 Try.underlying48 cellsInt h
    obtain ⟨a, rfl, ha⟩ := field_int h0
    obtain ⟨b, rfl, hb⟩ := field_int h1
    obtain ⟨c, rfl, hc⟩ := field_int h2
    exact ⟨⟨a, b, c⟩, rfl, ha, hb, hc⟩
/-- a list of three numbers each that came in -/
theorem open_tris (hval : Value.okWide Try.prog W .any base 25 v) (h : DataW.Trod enc Try.prog W 0 (fun _ => true) true 25 v d p) :
    ∃ A zs c, v = .slice A zs.length c ∧ TrisAt W A zs ∧ zs.length ≤ 9223372036854775807 ∧ FitN zs := by
  obtain ⟨a0, len, cap, rfl⟩ := okWide_slice Try.underlying25 hval
  obtain ⟨fuel, hf⟩ := h
  rcases open_slice Try.underlying25 hf with ⟨hc, hx⟩ | ⟨a, len', cap', m, n, D, Pl, hc, _, hl, hm, hmm, hx, hi⟩
  · simp [Value.cells] at hc
    obtain ⟨rfl, rfl, rfl⟩ := hc
    exact ⟨none, [], 0, rfl, RowAt.nil, by simp, fun z hz => by cases hz⟩
  · simp [Value.cells] at hc
    obtain ⟨rfl, rfl, rfl⟩ := hc
    have hex : ∀ i, ∃ z : Tri, i < len → (∀ k u, z.cells[k]? = some u → W.cell? (a.add (i * 3 + k)) = some u) ∧ (I64 z.n0 ∧ I64 z.n1 ∧ I64 z.n2) := by
      intro i
      by_cases hil : i < len
      · have him : i < m := by rw [hmm]; simp; omega
        obtain ⟨cs', hcs, htr⟩ := hi i him
        rw [cellsTri] at hcs
        obtain ⟨_, hcl, hat⟩ := World.cells?_some hcs
        obtain ⟨z, hz, hfz⟩ := tri_in htr (by simpa using hcl)
        refine ⟨z, fun _ => ⟨fun k u hk => ?_, hfz⟩⟩
        have hk3 : k < 3 := by have := (List.getElem?_eq_some_iff.1 hk).1; exact this
        have := hat k hk3
        rw [add_twice] at this
        rw [this, hz]
        simpa using hk
      · exact ⟨⟨0, 0, 0⟩, fun h => absurd h hil⟩
    obtain ⟨f, hf'⟩ := Classical.skolem.1 hex
    have hlen : ((List.range len).map f).length = len := by simp
    refine ⟨some a, (List.range len).map f, cap, by rw [hlen], fun hne => ?_, by rw [hlen]; unfold maxLen at hm; omega, fun z hz => ?_⟩
    · have hpos : 0 < len := by
        rcases Nat.eq_zero_or_pos len with e | e
        · subst e; exact absurd rfl hne
        · exact e
      refine ⟨a, rfl, ?_, fun k z hk i u hu => ?_⟩
      · have := lt_of_cell ((hf' 0 hpos).1 0 _ rfl)
        rwa [add_block] at this
      · obtain ⟨hk1, hk2⟩ := List.getElem?_eq_some_iff.1 hk
        rw [hlen] at hk1
        have hz : z = f k := by rw [← hk2]; simp
        subst hz
        exact (hf' k hk1).1 i u hu
    · obtain ⟨i, hi, rfl⟩ := List.mem_map.1 hz
      exact (hf' i (List.mem_range.1 hi)).2
theorem open_intsL (hval : Value.okWide Try.prog W .any base 44 v) (h : DataW.Trod enc Try.prog W 0 (fun _ => true) true 44 v d p) :
    ∃ A zs c, v = .slice A zs.length c ∧ IntsAt W A zs ∧ zs.length ≤ 9223372036854775807 ∧ (∀ z ∈ zs, I64 z) := by
  obtain ⟨a0, len, cap, rfl⟩ := okWide_slice Try.underlying44 hval
  obtain ⟨fuel, hf⟩ := h
  rcases open_ints Try.underlying44 Try.underlying3 cellsInt hf with ⟨hc, hx⟩ | ⟨a, len', cap', zs, hc, _, hl, hm, hzl, hx, hcell, hwf⟩
  · simp [Value.cells] at hc
    obtain ⟨rfl, rfl, rfl⟩ := hc
    exact ⟨none, [], 0, rfl, RowAt.nil, by simp, fun z hz => by cases hz⟩
  · simp [Value.cells] at hc
    obtain ⟨rfl, rfl, rfl⟩ := hc
    simp at hzl
    have hlen : (zs.take len).length = len := by simp; omega
    refine ⟨some a, zs.take len, cap, by rw [hlen], fun hne => ?_, by rw [hlen]; unfold maxLen at hm; omega, fun z hz => ?_⟩
    · have h0 : 0 < zs.length := by
        rcases Nat.eq_zero_or_pos zs.length with e | e
        · have : zs = [] := List.eq_nil_of_length_eq_zero e
          subst this; simp at hne
        · exact e
      refine ⟨a, rfl, ?_, fun k z hk i u hu => ?_⟩
      · have := lt_of_cell (hcell 0 h0)
        rwa [add_block] at this
      · have hi0 : i = 0 := by have := (List.getElem?_eq_some_iff.1 hu).1; simp [icells] at this; exact this
        subst hi0
        have hu' : u = .int .i64 z := by simpa [icells] using hu.symm
        subst hu'
        rw [List.getElem?_take] at hk
        split at hk
        · obtain ⟨hk1, rfl⟩ := List.getElem?_eq_some_iff.1 hk
          rw [Nat.mul_one, Nat.add_zero, hcell k hk1]
          simp [List.getD, List.getElem?_eq_getElem hk1]
        · cases hk
    · exact int_range (hwf z (List.mem_of_mem_take hz))

/-- the cells of a task that came in -/
theorem task_in {cs : List Value} (h : DataW.trod enc Try.prog W 0 (fun _ => true) true n 39 cs = some y) (hl : cs.length = 4) (hw : ∀ k ∈ y.1.weights Try.prog 39, k ≤ reachBytes) :
    ∃ x : Tk, cs = Tk.cells x ∧ x.left.size ≤ 140737488351232 ∧ x.right.size ≤ 140737488351232 := by
  obtain ⟨ys, n', _, hag, _, hyl, hfld⟩ := DataW.trod_struct Try.underlying39 h
  match cs, hl with
  | [u0, u1, u2, u3], _ =>
    have hy4 : ys.length = 4 := hyl
    have h0 : DataW.trod enc Try.prog W 0 (fun _ => true) true n' 3 (([u0, u1, u2, u3].drop 0).take (Try.prog.cellsOf 3)) = ys[0]? := hfld 0 _ rfl
    have h1 : DataW.trod enc Try.prog W 0 (fun _ => true) true n' 3 (([u0, u1, u2, u3].drop 1).take (Try.prog.cellsOf 3)) = ys[1]? := hfld 1 _ rfl
    have h2 : DataW.trod enc Try.prog W 0 (fun _ => true) true n' 9 (([u0, u1, u2, u3].drop 2).take (Try.prog.cellsOf 9)) = ys[2]? := hfld 2 _ rfl
    have h3 : DataW.trod enc Try.prog W 0 (fun _ => true) true n' 9 (([u0, u1, u2, u3].drop 3).take (Try.prog.cellsOf 9)) = ys[3]? := hfld 3 _ rfl
    simp only [cellsInt, cellsStr, List.drop_zero, List.drop_succ_cons, List.take_succ_cons, List.take_zero] at h0 h1 h2 h3
    rw [List.getElem?_eq_getElem (by omega)] at h0 h1 h2 h3
    obtain ⟨a, rfl, _⟩ := field_int h0
    obtain ⟨b, rfl, _⟩ := field_int h1
    obtain ⟨l, rfl, f2⟩ := field_textW h2
    obtain ⟨r, rfl, f3⟩ := field_textW h3
    have hle : ∀ (q : Nat) (hq : q < ys.length) (s : ByteArray), (q = 2 ∨ q = 3) → ys[q].1 = .lit (.string s.data.toList) → s.size ≤ 140737488351232 := fun q hq s hc hf => by
      have hda : y.1 = .agg (ys.map (·.1)) := congrArg Prod.fst hag
      have hm : s.data.toList.length ∈ y.1.weights Try.prog 39 := by
        rw [hda]
        simp only [DataW.weights, Try.underlying39]
        refine DataW.weights_mem_each (j := q) (t := 9) (d := .lit (.string s.data.toList)) ?_ ?_ _ (by simp [DataW.weights])
        · rcases hc with rfl | rfl <;> rfl
        · rw [List.getElem?_map, List.getElem?_eq_getElem hq, ← hf]; rfl
      have := hw _ hm
      simp only [reachBytes, Array.length_toList] at this
      show s.data.size ≤ _
      omega
    exact ⟨⟨a, b, l, r⟩, rfl, hle 2 (by omega) l (.inl rfl) f2, hle 3 (by omega) r (.inr rfl) f3⟩
set_option maxRecDepth 100000 in
/-- a list of tasks that came in -/
theorem tasks_in {cs : List Value} (h : DataW.trod enc Try.prog W 0 (fun _ => true) true n 22 cs = some y) (hw : ∀ k ∈ y.1.weights Try.prog 22, k ≤ reachBytes) :
    ∃ A R c, cs = [.slice A R.length c] ∧ TasksAt W A R ∧ R.length ≤ c ∧ c ≤ maxLen ∧ FitT R := by
  rcases open_slice Try.underlying22 h with ⟨hc, hx⟩ | ⟨a, len, cap, m, n, D, Pl, hc, _, hl, hm, hmm, hx, hi⟩
  · exact ⟨none, [], 0, hc, RowAt.nil, Nat.le_refl _, Nat.zero_le _, FitT.nil⟩
  · subst hx
    have hex : ∀ i, ∃ x : Tk, i < len → (∀ k u, (Tk.cells x)[k]? = some u → W.cell? (a.add (i * 4 + k)) = some u) ∧ x.left.size ≤ 140737488351232 ∧ x.right.size ≤ 140737488351232 := by
      intro i
      by_cases hil : i < len
      · have him : i < m := by rw [hmm]; simp; omega
        obtain ⟨cs', hcs, htr⟩ := hi i him
        rw [cellsTask] at hcs
        obtain ⟨_, hcl, hat⟩ := World.cells?_some hcs
        have hw2 : ∀ k ∈ (D i).weights Try.prog 39, k ≤ reachBytes := fun k hk => hw k (by
          simp only [DataW.weights, Try.underlying22, List.mem_cons, List.mem_append]
          exact .inr (.inl (weightsAll_in (List.mem_map.2 ⟨i, List.mem_range.2 hil, rfl⟩) hk)))
        obtain ⟨x, hx, hf⟩ := task_in htr (by simpa using hcl) hw2
        refine ⟨x, fun _ => ⟨fun k u hk => ?_, hf⟩⟩
        have hk4 : k < 4 := by have := (List.getElem?_eq_some_iff.1 hk).1; exact this
        have := hat k hk4
        rw [add_twice] at this
        rw [this, hx]
        simpa using hk
      · exact ⟨zeroT, fun h => absurd h hil⟩
    obtain ⟨f, hf'⟩ := Classical.skolem.1 hex
    have hlen : ((List.range len).map f).length = len := by simp
    refine ⟨some a, (List.range len).map f, cap, by rw [hlen]; exact hc, fun hne => ?_, by rw [hlen]; exact hl, hm, fun x hx => ?_⟩
    · have hpos : 0 < len := by
        rcases Nat.eq_zero_or_pos len with e | e
        · subst e; exact absurd rfl hne
        · exact e
      refine ⟨a, rfl, ?_, fun k x hk i u hu => ?_⟩
      · have := lt_of_cell ((hf' 0 hpos).1 0 _ rfl)
        rwa [add_block] at this
      · obtain ⟨hk1, hk2⟩ := List.getElem?_eq_some_iff.1 hk
        rw [hlen] at hk1
        have hx : x = f k := by rw [← hk2]; simp
        subst hx
        exact (hf' k hk1).1 i u hu
    · obtain ⟨i, hi, rfl⟩ := List.mem_map.1 hx
      exact (hf' i (List.mem_range.1 hi)).2
end
section
variable {H : Type} {enc : TypeId × Value → H} {W : World} {base : Nat} {v : Value} {d : DataW H} {p : List MemPlace} {ts : List TypeId} {ds : List (DataW H)} {j : Nat}
theorem open_tasksG (hval : Value.okWide Try.prog W .any base 22 v) (h : DataW.Trod enc Try.prog W 0 (fun _ => true) true 22 v d p)
    (hsz : (DataW.weightsEach Try.prog ts ds).all (· ≤ reachBytes) = true) (ht : ts[j]? = some 22) (hd : ds[j]? = some d) :
    ∃ A R c, v = .slice A R.length c ∧ TasksAt W A R ∧ R.length ≤ c ∧ c ≤ maxLen ∧ FitT R := by
  obtain ⟨a0, len, cap, rfl⟩ := okWide_slice Try.underlying22 hval
  obtain ⟨fuel, hf⟩ := h
  obtain ⟨A, R, c, hc, h1, h2, h3, h4⟩ := tasks_in (y := (d, p)) hf (fun k hk => by
    have := List.all_eq_true.1 hsz k (DataW.weights_mem_each ht hd k hk)
    simpa using this)
  exact ⟨A, R, c, by simpa [Value.cells] using hc, h1, h2, h3, h4⟩
/-- a queue that came in -/
theorem open_queueG (hval : Value.okWide Try.prog W .any base 24 v) (h : DataW.Trod enc Try.prog W 0 (fun _ => true) true 24 v d p)
    (hsz : (DataW.weightsEach Try.prog ts ds).all (· ≤ reachBytes) = true) (ht : ts[j]? = some 24) (hd : ds[j]? = some d) :
    ∃ r b A R c, v = .agg #[.int .i64 r, .bool b, .slice A R.length c] ∧ TasksAt W A R ∧ R.length ≤ c ∧ c ≤ maxLen ∧ FitT R := by
  obtain ⟨cs, rfl, hl⟩ := okWide_struct Try.underlying24 hval
  obtain ⟨fuel, hf⟩ := h
  obtain ⟨l⟩ := cs
  obtain ⟨ys, n', _, hag, _, hyl, hfld⟩ := DataW.trod_struct (x := (d, p)) Try.underlying24 hf
  have hl3 : l.length = 3 := by simpa [Value.cells, cellsQueue] using hl
  match l, hl3 with
  | [u0, u1, u2], _ =>
    have hy3 : ys.length = 3 := hyl
    have h0 : DataW.trod enc Try.prog W 0 (fun _ => true) true n' 3 (([u0, u1, u2].drop 0).take (Try.prog.cellsOf 3)) = ys[0]? := hfld 0 _ rfl
    have h1 : DataW.trod enc Try.prog W 0 (fun _ => true) true n' 4 (([u0, u1, u2].drop 1).take (Try.prog.cellsOf 4)) = ys[1]? := hfld 1 _ rfl
    have h2 : DataW.trod enc Try.prog W 0 (fun _ => true) true n' 22 (([u0, u1, u2].drop 2).take (Try.prog.cellsOf 22)) = ys[2]? := hfld 2 _ rfl
    simp only [cellsInt, cellsBool, cellsTasks, List.drop_zero, List.drop_succ_cons, List.take_succ_cons, List.take_zero] at h0 h1 h2
    rw [List.getElem?_eq_getElem (by omega)] at h0 h1 h2
    obtain ⟨a, rfl, _⟩ := field_int h0
    obtain ⟨b, rfl⟩ := field_bool h1
    obtain ⟨A, R, c, hc, g1, g2, g3, g4⟩ := tasks_in h2 (fun k hk => by
      have hm : k ∈ d.weights Try.prog 24 := by
        have hda : d = .agg (ys.map (·.1)) := congrArg Prod.fst hag
        rw [hda]
        simp only [DataW.weights, Try.underlying24]
        refine DataW.weights_mem_each (j := 2) (t := 22) (d := ys[2].1) rfl ?_ _ hk
        rw [List.getElem?_map, List.getElem?_eq_getElem (by omega)]
        rfl
      have := List.all_eq_true.1 hsz k (DataW.weights_mem_each ht hd k hm)
      simpa using this)
    obtain rfl : u2 = .slice A R.length c := by simpa using hc
    exact ⟨a, b, A, R, c, rfl, g1, g2, g3, g4⟩
end

end Go.Proofs.Ytaelenjnjoeheaa
