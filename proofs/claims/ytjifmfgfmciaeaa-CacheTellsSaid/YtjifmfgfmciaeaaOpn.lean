/-
  How a law's row is closed: the call returned true, and nothing that was there before it is changed: so each argument reads as it did. How an argument that is an array of numbers, a list of these, or of yes and no, reads.
-/
import Derived.Test.YtjifmfgfmciaeaaLw
import Derived.ProofKit
import Derived.OpenShut
import Derived.SizedLaws
import Derived.JoinedCond
import Derived.Deep.CondSized
import Derived.Carry
import Derived.Deep.Slices
import Derived.Deep.Fields
import Derived.Deep.Grids
import Derived.ChangeSame
import Derived.Laws.IdiomArrays
namespace Go.Proofs.Ytjifmfgfmciaeaa
open Go.ChangeShapes Go.WideShapes Go.ChangeAt Go.RowKit Go.Deep

theorem own : ownKnob Try.prog.godebug = none := by kernel_rfl
theorem laidOut : laidOutB Try.prog = true := by kernel_rfl
theorem cellsInt : Try.prog.cellsOf 3 = 1 := by kernel_rfl
theorem cellsBool : Try.prog.cellsOf 4 = 1 := by kernel_rfl
theorem cellsTri : Try.prog.cellsOf 22 = 3 := by kernel_rfl
theorem cellsQuad : Try.prog.cellsOf 50 = 4 := by kernel_rfl
/-- a list of yes and no -/
def bcells (b : Bool) : List Value := [.bool b]
abbrev BoolsAt (w : World) (A : Option Addr) (L : List Bool) : Prop := RowAt bcells 1 w A L

theorem trodAll_below {H : Type} {enc : TypeId × Value → H} {W W' : World} (hb : Below W.heap.size W W') : ∀ (ts : List TypeId) {vs : List Value} {ds : List (DataW H)} {ps : List MemPlace},
    (∀ t ∈ ts, Try.prog.readableRec t = true ∧ t < Try.prog.types.size) → DataW.TrodAll enc Try.prog W 0 (fun _ => true) true ts vs ds ps → (∀ x ∈ ps, x.block < W.heap.size) →
    DataW.TrodAll enc Try.prog W' 0 (fun b => decide (b < W.heap.size)) true ts vs ds ps
  | [], vs, ds, ps, _, h, _ => by
    obtain ⟨rfl, rfl, rfl⟩ := trodAll_nil h
    exact trodAll_mk0
  | t :: ts, vs, ds, ps, ht, h, hlt => by
    obtain ⟨v0, vs0, d0, ds0, p0, q0, rfl, rfl, rfl, h0, r0⟩ := trodAll_cons h
    exact trodAll_cons_mk (Below.trod laidOut (ht t (by simp)).1 (ht t (by simp)).2 h0 hb (fun x hx => hlt x (by simp [hx]))) (trodAll_below hb ts (fun t' h' => ht t' (by simp [h'])) r0 (fun x hx => hlt x (by simp [hx])))

theorem law_post {H : Type} {enc : TypeId × Value → H} {f : Func} {s : ChangeSpec} {W W' : World} {args : Array Value} {ds gs : List (DataW H)} {before : List MemPlace}
    (hW : DataW.Whole enc Try.prog f.params.toList s.vars false W args.toList ds gs before) (hv : s.vars = []) (hres : f.resultTypes = #[4])
    (hfn : (s.fn H (ds ++ gs)).results = [.lit (.bool true)] ∧ (s.fn H (ds ++ gs)).args = ds ∧ (s.fn H (ds ++ gs)).vars = [])
    (hts : ∀ t ∈ f.params.toList, Try.prog.readableRec t = true ∧ t < Try.prog.types.size) (hb : Below W.heap.size W W') :
    s.post enc Try.prog f false true false false W args (.bool true) W' := by
  have hW' := hW
  obtain ⟨p, q, hA, hV, rfl, _, _⟩ := hW
  have hV0 : gs = [] ∧ q = [] := by rw [hv] at hV; exact trodVars_none hV
  obtain ⟨rfl, rfl⟩ := hV0
  have hlt : ∀ x ∈ p, x.block < W.heap.size := fun x hx => hW'.lt x (by simp [hx])
  have hA' := trodAll_below hb _ hts hA hlt
  refine ⟨ds, [], p ++ [], [], p, [], hW', ?_, ?_, ?_, World.keptBut_mono (fun x hx => ⟨hx, ?_⟩) (hb.frame (· ∈ p ++ [])), fun h => by cases h⟩
  · rw [hfn.1, hres]; exact trodAll_cons_mk (shut_bool Try.underlying4 _) trodAll_mk0
  · rw [hfn.2.1]; exact hA'
  · rw [hfn.2.2, hv]; rfl
  · exact Or.inr (by simpa using hx)

theorem int_range {z : Int} (g : (Lit.int .i64 z).wf = true) : -9223372036854775808 ≤ z ∧ z ≤ 9223372036854775807 := by
  have h1 : IntKind.i64.min = -9223372036854775808 := rfl
  have h2 : IntKind.i64.max = 9223372036854775807 := rfl
  simp only [Lit.wf, Bool.and_eq_true, decide_eq_true_eq] at g
  omega

section
variable {H : Type} {enc : TypeId × Value → H} {W : World} {n base : Nat} {v : Value} {y : DataW H × List MemPlace} {d : DataW H} {p : List MemPlace}
theorem field_int (h : DataW.trod enc Try.prog W 0 (fun _ => true) true n 3 [v] = some y) : ∃ x : Int, v = .int .i64 x ∧ I64 x := by
  obtain ⟨x, hc, _, hw⟩ := DataW.trod_int Try.underlying3 h
  exact ⟨x, by simpa using hc, int_range hw⟩
theorem tri_in {cs : List Value} (h : DataW.trod enc Try.prog W 0 (fun _ => true) true n 22 cs = some y) (hl : cs.length = 3) : ∃ z : Tri, cs = triC z ∧ TriFit z := by
  match cs, hl with
  | [c0, c1, c2], _ =>
    obtain ⟨y0, y1, y2, m, _, h0, h1, h2⟩ := trod_array3 Try.underlying22 cellsInt h
    obtain ⟨a, rfl, ha⟩ := field_int h0
    obtain ⟨b, rfl, hb⟩ := field_int h1
    obtain ⟨c, rfl, hc⟩ := field_int h2
    exact ⟨(a, b, c), rfl, ha, hb, hc⟩
/-- three numbers that came in -/
theorem open_tri (hval : Value.okWide Try.prog W .any base 22 v) (h : DataW.Trod enc Try.prog W 0 (fun _ => true) true 22 v d p) :
    ∃ z0 z1 z2 : Int, v = .agg #[.int .i64 z0, .int .i64 z1, .int .i64 z2] ∧ TriFit (z0, z1, z2) := by
  simp only [Value.okWide, Try.underlying22] at hval
  obtain ⟨cs, rfl, hl, _⟩ := hval
  obtain ⟨fuel, hf⟩ := h
  obtain ⟨l⟩ := cs
  obtain ⟨z, hz, hfz⟩ := tri_in (y := (d, p)) hf (by simpa [Value.cells, cellsTri] using hl)
  have : l = triC z := by simpa [Value.cells] using hz
  exact ⟨z.1, z.2.1, z.2.2, by rw [this]; rfl, hfz⟩
/-- four numbers that came in -/
theorem open_quad (hval : Value.okWide Try.prog W .any base 50 v) (h : DataW.Trod enc Try.prog W 0 (fun _ => true) true 50 v d p) :
    ∃ z0 z1 z2 z3 : Int, v = .agg #[.int .i64 z0, .int .i64 z1, .int .i64 z2, .int .i64 z3] ∧ I64 z0 ∧ I64 z1 ∧ I64 z2 ∧ I64 z3 := by
  simp only [Value.okWide, Try.underlying50] at hval
  obtain ⟨cs, rfl, hl, _⟩ := hval
  obtain ⟨fuel, hf⟩ := h
  obtain ⟨l⟩ := cs
  rw [cellsQuad] at hl
  match l, hl with
  | [c0, c1, c2, c3], _ =>
    obtain ⟨y0, y1, y2, y3, m, _, h0, h1, h2, h3⟩ := trod_array4 Try.underlying50 cellsInt hf
    obtain ⟨a, rfl, ha⟩ := field_int h0
    obtain ⟨b, rfl, hb⟩ := field_int h1
    obtain ⟨c, rfl, hc⟩ := field_int h2
    obtain ⟨e, rfl, he⟩ := field_int h3
    exact ⟨a, b, c, e, rfl, ha, hb, hc, he⟩
/-- a list of three numbers each that came in -/
theorem open_tris (hval : Value.okWide Try.prog W .any base 23 v) (h : DataW.Trod enc Try.prog W 0 (fun _ => true) true 23 v d p) :
    ∃ A zs c, v = .slice A zs.length c ∧ TrisAt W A zs ∧ zs.length ≤ 9223372036854775807 ∧ ∀ z ∈ zs, TriFit z := by
  obtain ⟨a0, len, cap, rfl⟩ := okWide_slice Try.underlying23 hval
  obtain ⟨fuel, hf⟩ := h
  rcases open_slice Try.underlying23 hf with ⟨hc, hx⟩ | ⟨a, len', cap', m, n, D, Pl, hc, _, hl, hm, hmm, hx, hi⟩
  · simp [Value.cells] at hc
    obtain ⟨rfl, rfl, rfl⟩ := hc
    exact ⟨none, [], 0, rfl, RowAt.nil, by simp, fun z hz => by cases hz⟩
  · simp [Value.cells] at hc
    obtain ⟨rfl, rfl, rfl⟩ := hc
    have hex : ∀ i, ∃ z : Tri, i < len → (∀ k u, (triC z)[k]? = some u → W.cell? (a.add (i * 3 + k)) = some u) ∧ TriFit z := by
      intro i
      by_cases hil : i < len
      · have him : i < m := by rw [hmm]; simp; omega
        obtain ⟨cs', hcs, htr⟩ := hi i him
        rw [cellsTri] at hcs
        obtain ⟨_, hcl, hat⟩ := World.cells?_some hcs
        obtain ⟨z, hz, hfz⟩ := tri_in htr (by simpa using hcl)
        refine ⟨z, fun _ => ⟨fun k u hk => ?_, hfz⟩⟩
        have hk3 : k < 3 := by have := (List.getElem?_eq_some_iff.1 hk).1; exact this
        have := hat k hk3
        rw [add_twice] at this
        rw [this, hz]
        simpa using hk
      · exact ⟨(0, 0, 0), fun h => absurd h hil⟩
    obtain ⟨f, hf'⟩ := Classical.skolem.1 hex
    have hlen : ((List.range len).map f).length = len := by simp
    refine ⟨some a, (List.range len).map f, cap, by rw [hlen], fun hne => ?_, by rw [hlen]; unfold maxLen at hm; omega, fun z hz => ?_⟩
    · have hpos : 0 < len := by
        rcases Nat.eq_zero_or_pos len with e | e
        · subst e; exact absurd rfl hne
        · exact e
      refine ⟨a, rfl, ?_, fun k z hk i u hu => ?_⟩
      · have := lt_of_cell ((hf' 0 hpos).1 0 _ rfl)
        rwa [add_block] at this
      · obtain ⟨hk1, hk2⟩ := List.getElem?_eq_some_iff.1 hk
        rw [hlen] at hk1
        have hz : z = f k := by rw [← hk2]; simp
        subst hz
        exact (hf' k hk1).1 i u hu
    · obtain ⟨i, hi, rfl⟩ := List.mem_map.1 hz
      exact (hf' i (List.mem_range.1 hi)).2
theorem open_boolsL (hval : Value.okWide Try.prog W .any base 45 v) (h : DataW.Trod enc Try.prog W 0 (fun _ => true) true 45 v d p) :
    ∃ A bs c, v = .slice A bs.length c ∧ BoolsAt W A bs ∧ bs.length ≤ 9223372036854775807 := by
  obtain ⟨a0, len, cap, rfl⟩ := okWide_slice Try.underlying45 hval
  obtain ⟨fuel, hf⟩ := h
  rcases open_bools Try.underlying45 Try.underlying4 cellsBool hf with ⟨hc, hx⟩ | ⟨a, len', cap', B, hc, _, hl, hm, hx, hcell⟩
  · simp [Value.cells] at hc
    obtain ⟨rfl, rfl, rfl⟩ := hc
    exact ⟨none, [], 0, rfl, RowAt.nil, by simp⟩
  · simp [Value.cells] at hc
    obtain ⟨rfl, rfl, rfl⟩ := hc
    refine ⟨some a, (List.range len).map B, cap, by simp, fun hne => ?_, by simp; unfold maxLen at hm; omega⟩
    have hpos : 0 < len := by
      rcases Nat.eq_zero_or_pos len with e | e
      · subst e; exact absurd rfl hne
      · exact e
    refine ⟨a, rfl, ?_, fun k z hk i u hu => ?_⟩
    · have := lt_of_cell (hcell 0 (by omega))
      rwa [add_block] at this
    · have hi0 : i = 0 := by have := (List.getElem?_eq_some_iff.1 hu).1; simp [bcells] at this; exact this
      subst hi0
      have hu' : u = .bool z := by simpa [bcells] using hu.symm
      subst hu'
      obtain ⟨hk1, hk2⟩ := List.getElem?_eq_some_iff.1 hk
      simp at hk1 hk2
      rw [Nat.mul_one, Nat.add_zero, hcell k (by omega), hk2]
end

end Go.Proofs.Ytjifmfgfmciaeaa
