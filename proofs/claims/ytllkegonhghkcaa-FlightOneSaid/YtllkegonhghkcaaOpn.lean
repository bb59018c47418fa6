/-
  How a law's row is closed: the call returned true, and nothing that was there before it is changed: so each argument reads as it did. How an argument that is two numbers, a list of three numbers each, or a list of fills, reads.
-/
import Derived.Test.YtllkegonhghkcaaFst
import Derived.ProofKit
import Derived.OpenShut
import Derived.SizedLaws
import Derived.JoinedCond
import Derived.Deep.CondSized
import Derived.Carry
import Derived.Deep.Slices
import Derived.Deep.Fields
import Derived.Deep.Grids
import Derived.ChangeSame
import Derived.Laws.IdiomArrays
namespace Go.Proofs.Ytllkegonhghkcaa
open Go.ChangeShapes Go.WideShapes Go.ChangeAt Go.RowKit Go.Deep P15

theorem own : ownKnob Try.prog.godebug = none := by kernel_rfl
theorem laidOut : laidOutB Try.prog = true := by kernel_rfl
theorem cellsInt : Try.prog.cellsOf 3 = 1 := by kernel_rfl
theorem cellsStr : Try.prog.cellsOf 9 = 1 := by kernel_rfl
theorem cellsIs : Try.prog.cellsOf 26 = 1 := by kernel_rfl
theorem cellsTri : Try.prog.cellsOf 46 = 3 := by kernel_rfl
theorem cellsPair : Try.prog.cellsOf 24 = 2 := by kernel_rfl
theorem cellsFill : Try.prog.cellsOf 28 = 4 := by kernel_rfl

theorem trodAll_below {H : Type} {enc : TypeId × Value → H} {W W' : World} (hb : Below W.heap.size W W') : ∀ (ts : List TypeId) {vs : List Value} {ds : List (DataW H)} {ps : List MemPlace},
    (∀ t ∈ ts, Try.prog.readableRec t = true ∧ t < Try.prog.types.size) → DataW.TrodAll enc Try.prog W 0 (fun _ => true) true ts vs ds ps → (∀ x ∈ ps, x.block < W.heap.size) →
    DataW.TrodAll enc Try.prog W' 0 (fun b => decide (b < W.heap.size)) true ts vs ds ps
  | [], vs, ds, ps, _, h, _ => by
    obtain ⟨rfl, rfl, rfl⟩ := trodAll_nil h
    exact trodAll_mk0
  | t :: ts, vs, ds, ps, ht, h, hlt => by
    obtain ⟨v0, vs0, d0, ds0, p0, q0, rfl, rfl, rfl, h0, r0⟩ := trodAll_cons h
    exact trodAll_cons_mk (Below.trod laidOut (ht t (by simp)).1 (ht t (by simp)).2 h0 hb (fun x hx => hlt x (by simp [hx]))) (trodAll_below hb ts (fun t' h' => ht t' (by simp [h'])) r0 (fun x hx => hlt x (by simp [hx])))

theorem law_post {H : Type} {enc : TypeId × Value → H} {f : Func} {s : ChangeSpec} {W W' : World} {args : Array Value} {ds gs : List (DataW H)} {before : List MemPlace}
    (hW : DataW.Whole enc Try.prog f.params.toList s.vars false W args.toList ds gs before) (hv : s.vars = []) (hres : f.resultTypes = #[4])
    (hfn : (s.fn H (ds ++ gs)).results = [.lit (.bool true)] ∧ (s.fn H (ds ++ gs)).args = ds ∧ (s.fn H (ds ++ gs)).vars = [])
    (hts : ∀ t ∈ f.params.toList, Try.prog.readableRec t = true ∧ t < Try.prog.types.size) (hb : Below W.heap.size W W') :
    s.post enc Try.prog f false true false false W args (.bool true) W' := by
  have hW' := hW
  obtain ⟨p, q, hA, hV, rfl, _, _⟩ := hW
  have hV0 : gs = [] ∧ q = [] := by rw [hv] at hV; exact trodVars_none hV
  obtain ⟨rfl, rfl⟩ := hV0
  have hlt : ∀ x ∈ p, x.block < W.heap.size := fun x hx => hW'.lt x (by simp [hx])
  have hA' := trodAll_below hb _ hts hA hlt
  refine ⟨ds, [], p ++ [], [], p, [], hW', ?_, ?_, ?_, World.keptBut_mono (fun x hx => ⟨hx, ?_⟩) (hb.frame (· ∈ p ++ [])), fun h => by cases h⟩
  · rw [hfn.1, hres]; exact trodAll_cons_mk (shut_bool Try.underlying4 _) trodAll_mk0
  · rw [hfn.2.1]; exact hA'
  · rw [hfn.2.2, hv]; rfl
  · exact Or.inr (by simpa using hx)

theorem int_range {z : Int} (g : (Lit.int .i64 z).wf = true) : -9223372036854775808 ≤ z ∧ z ≤ 9223372036854775807 := by
  have h1 : IntKind.i64.min = -9223372036854775808 := rfl
  have h2 : IntKind.i64.max = 9223372036854775807 := rfl
  simp only [Lit.wf, Bool.and_eq_true, decide_eq_true_eq] at g
  omega

section
variable {H : Type} {enc : TypeId × Value → H} {W : World} {n base : Nat} {v : Value} {y : DataW H × List MemPlace} {d : DataW H} {p : List MemPlace}
theorem field_int (h : DataW.trod enc Try.prog W 0 (fun _ => true) true n 3 [v] = some y) : ∃ x : Int, v = .int .i64 x ∧ I64 x := by
  obtain ⟨x, hc, _, hw⟩ := DataW.trod_int Try.underlying3 h
  exact ⟨x, by simpa using hc, int_range hw⟩
theorem tri_in {cs : List Value} (h : DataW.trod enc Try.prog W 0 (fun _ => true) true n 46 cs = some y) (hl : cs.length = 3) : ∃ z : Tri, cs = triC z ∧ TriFit z := by
  match cs, hl with
  | [c0, c1, c2], _ =>
    obtain ⟨y0, y1, y2, m, _, h0, h1, h2⟩ := trod_array3 Try.underlying46 cellsInt h
    obtain ⟨a, rfl, ha⟩ := field_int h0
    obtain ⟨b, rfl, hb⟩ := field_int h1
    obtain ⟨c, rfl, hc⟩ := field_int h2
    exact ⟨(a, b, c), rfl, ha, hb, hc⟩
/-- a list of two things of one cell each -/
theorem pair_in {c0 c1 : Value} (h : DataW.trod enc Try.prog W 0 (fun _ => true) true n 24 [c0, c1] = some y) : ∃ a b : Int, c0 = .int .i64 a ∧ c1 = .int .i64 b ∧ I64 a ∧ I64 b := by
  cases n with
  | zero => simp [DataW.trod] at h
  | succ m =>
    unfold DataW.trod at h
    rw [Try.underlying24] at h
    have hr : List.range 2 = [0, 1] := rfl
    simp [hr, cellsInt] at h
    obtain ⟨_, h⟩ := h
    rcases e0 : DataW.trod enc Try.prog W 0 (fun _ => true) true m 3 [c0] with _ | y0
    · simp [e0] at h
    · rcases e1 : DataW.trod enc Try.prog W 0 (fun _ => true) true m 3 [c1] with _ | y1
      · simp [e0, e1] at h
      · obtain ⟨a, ha, hfa⟩ := field_int e0
        obtain ⟨b, hb, hfb⟩ := field_int e1
        exact ⟨a, b, ha, hb, hfa, hfb⟩
/-- two numbers that came in -/
theorem open_pair (hval : Value.okWide Try.prog W .any base 24 v) (h : DataW.Trod enc Try.prog W 0 (fun _ => true) true 24 v d p) :
    ∃ z0 z1 : Int, v = .agg #[.int .i64 z0, .int .i64 z1] ∧ I64 z0 ∧ I64 z1 := by
  simp only [Value.okWide, Try.underlying24] at hval
  obtain ⟨cs, rfl, hl, _⟩ := hval
  obtain ⟨fuel, hf⟩ := h
  obtain ⟨l⟩ := cs
  rw [cellsPair] at hl
  match l, hl with
  | [c0, c1], _ =>
    obtain ⟨a, b, rfl, rfl, ha, hb⟩ := pair_in hf
    exact ⟨a, b, rfl, ha, hb⟩
/-- a list of three numbers each that came in -/
theorem open_tris (hval : Value.okWide Try.prog W .any base 23 v) (h : DataW.Trod enc Try.prog W 0 (fun _ => true) true 23 v d p) :
    ∃ A zs c, v = .slice A zs.length c ∧ TrisAt W A zs ∧ zs.length ≤ 9223372036854775807 ∧ ∀ z ∈ zs, TriFit z := by
  obtain ⟨a0, len, cap, rfl⟩ := okWide_slice Try.underlying23 hval
  obtain ⟨fuel, hf⟩ := h
  rcases open_slice Try.underlying23 hf with ⟨hc, hx⟩ | ⟨a, len', cap', m, n, D, Pl, hc, _, hl, hm, hmm, hx, hi⟩
  · simp [Value.cells] at hc
    obtain ⟨rfl, rfl, rfl⟩ := hc
    exact ⟨none, [], 0, rfl, RowAt.nil, by simp, fun z hz => by cases hz⟩
  · simp [Value.cells] at hc
    obtain ⟨rfl, rfl, rfl⟩ := hc
    have hex : ∀ i, ∃ z : Tri, i < len → (∀ k u, (triC z)[k]? = some u → W.cell? (a.add (i * 3 + k)) = some u) ∧ TriFit z := by
      intro i
      by_cases hil : i < len
      · have him : i < m := by rw [hmm]; simp; omega
        obtain ⟨cs', hcs, htr⟩ := hi i him
        rw [cellsTri] at hcs
        obtain ⟨_, hcl, hat⟩ := World.cells?_some hcs
        obtain ⟨z, hz, hfz⟩ := tri_in htr (by simpa using hcl)
        refine ⟨z, fun _ => ⟨fun k u hk => ?_, hfz⟩⟩
        have hk3 : k < 3 := by have := (List.getElem?_eq_some_iff.1 hk).1; exact this
        have := hat k hk3
        rw [add_twice] at this
        rw [this, hz]
        simpa using hk
      · exact ⟨(0, 0, 0), fun h => absurd h hil⟩
    obtain ⟨f, hf'⟩ := Classical.skolem.1 hex
    have hlen : ((List.range len).map f).length = len := by simp
    refine ⟨some a, (List.range len).map f, cap, by rw [hlen], fun hne => ?_, by rw [hlen]; unfold maxLen at hm; omega, fun z hz => ?_⟩
    · have hpos : 0 < len := by
        rcases Nat.eq_zero_or_pos len with e | e
        · subst e; exact absurd rfl hne
        · exact e
      refine ⟨a, rfl, ?_, fun k z hk i u hu => ?_⟩
      · have := lt_of_cell ((hf' 0 hpos).1 0 _ rfl)
        rwa [add_block] at this
      · obtain ⟨hk1, hk2⟩ := List.getElem?_eq_some_iff.1 hk
        rw [hlen] at hk1
        have hz : z = f k := by rw [← hk2]; simp
        subst hz
        exact (hf' k hk1).1 i u hu
    · obtain ⟨i, hi, rfl⟩ := List.mem_map.1 hz
      exact (hf' i (List.mem_range.1 hi)).2
/-- a field that is a list of numbers -/
theorem field_ints (h : DataW.trod enc Try.prog W 0 (fun _ => true) true n 26 [v] = some y) :
    ∃ A zs c, v = .slice A zs.length c ∧ IntsAt W A zs ∧ zs.length ≤ c ∧ c ≤ maxLen ∧ ∀ z ∈ zs, I64 z := by
  rcases open_ints Try.underlying26 Try.underlying3 cellsInt h with ⟨hc, hx⟩ | ⟨a, len', cap', zs, hc, _, hl, hm, hzl, hx, hcell, hwf⟩
  · have hv : v = .slice none 0 0 := by simpa using hc
    exact ⟨none, [], 0, hv, RowAt.nil, Nat.le_refl _, Nat.zero_le _, by simp⟩
  · have hv : v = .slice (some a) len' cap' := by simpa using hc
    subst hv
    simp at hzl
    have hlen : (zs.take len').length = len' := by simp; omega
    refine ⟨some a, zs.take len', cap', by rw [hlen], fun hne => ?_, by rw [hlen]; exact hl, hm, fun z hz => ?_⟩
    · have h0 : 0 < zs.length := by
        rcases Nat.eq_zero_or_pos zs.length with e | e
        · have : zs = [] := List.eq_nil_of_length_eq_zero e
          subst this; simp at hne
        · exact e
      refine ⟨a, rfl, ?_, fun k z hk j u hu => ?_⟩
      · have := lt_of_cell (hcell 0 h0)
        rwa [add_block] at this
      · have hj : j = 0 := by have := (List.getElem?_eq_some_iff.1 hu).1; simp [icells] at this; exact this
        subst hj
        have hu' : u = .int .i64 z := by simpa [icells] using hu.symm
        subst hu'
        rw [List.getElem?_take] at hk
        split at hk
        · obtain ⟨hi1, rfl⟩ := List.getElem?_eq_some_iff.1 hk
          rw [Nat.mul_one, Nat.add_zero, hcell k hi1]
          simp [List.getD, List.getElem?_eq_getElem hi1]
        · cases hk
    · exact int_range (hwf z (List.mem_of_mem_take hz))
/-- a field that is a text -/
theorem field_text (h : DataW.trod enc Try.prog W 0 (fun _ => true) true n 9 [v] = some y) : ∃ s : ByteArray, v = .string s ∧ s.size ≤ maxLen := by
  obtain ⟨s, hc, _, hs⟩ := DataW.trod_string Try.underlying9 h
  exact ⟨s, by simpa using hc, hs⟩
/-- fills that came in, as they lie in memory -/
structure RawF (W : World) (A : Option Addr) (R : List Fw) : Prop where
  row : RowAt Fw.cells 4 W A R
  wait : ∀ x ∈ R, WaitAt W x
  fit : ∀ x ∈ R, x.left.size ≤ maxLen ∧ x.right.size ≤ maxLen ∧ I64 x.by_ ∧ (∀ z ∈ x.wait, I64 z) ∧ x.cap ≤ maxLen
set_option maxRecDepth 100000 in
/-- a list of fills that came in -/
theorem open_fills (hval : Value.okWide Try.prog W .any base 22 v) (h : DataW.Trod enc Try.prog W 0 (fun _ => true) true 22 v d p) :
    ∃ A R c, v = .slice A R.length c ∧ RawF W A R ∧ R.length ≤ c ∧ c ≤ maxLen := by
  obtain ⟨a0, len, cap, rfl⟩ := okWide_slice Try.underlying22 hval
  obtain ⟨fuel, hf⟩ := h
  rcases open_slice Try.underlying22 hf with ⟨hc, hx⟩ | ⟨a, len', cap', m, n, D, Pl, hc, _, hl, hm, hmm, hx, hi⟩
  · simp [Value.cells] at hc
    obtain ⟨rfl, rfl, rfl⟩ := hc
    exact ⟨none, [], 0, rfl, ⟨RowAt.nil, fun x hx => (by cases hx), fun x hx => (by cases hx)⟩, Nat.le_refl _, Nat.zero_le _⟩
  · simp [Value.cells] at hc
    obtain ⟨rfl, rfl, rfl⟩ := hc
    have hex : ∀ i, ∃ x : Fw, i < len → (∀ k u, x.cells[k]? = some u → W.cell? (a.add (i * 4 + k)) = some u) ∧ WaitAt W x ∧ x.left.size ≤ maxLen ∧ x.right.size ≤ maxLen ∧ I64 x.by_ ∧ (∀ z ∈ x.wait, I64 z) ∧ x.cap ≤ maxLen := by
      intro i
      by_cases hil : i < len
      · have him : i < m := by rw [hmm]; simp; omega
        obtain ⟨cs', hcs, htr⟩ := hi i him
        rw [cellsFill] at hcs
        obtain ⟨_, hcl, hat⟩ := World.cells?_some hcs
        obtain ⟨ys, n', _, _, _, hyl, hfld⟩ := DataW.trod_struct Try.underlying28 htr
        match cs', hcl with
        | [u0, u1, u2, u3], _ =>
          have hy4 : ys.length = 4 := hyl
          have h0 : DataW.trod enc Try.prog W 0 (fun _ => true) true n' 9 (([u0, u1, u2, u3].drop 0).take (Try.prog.cellsOf 9)) = ys[0]? := hfld 0 _ rfl
          have h1 : DataW.trod enc Try.prog W 0 (fun _ => true) true n' 9 (([u0, u1, u2, u3].drop 1).take (Try.prog.cellsOf 9)) = ys[1]? := hfld 1 _ rfl
          have h2 : DataW.trod enc Try.prog W 0 (fun _ => true) true n' 3 (([u0, u1, u2, u3].drop 2).take (Try.prog.cellsOf 3)) = ys[2]? := hfld 2 _ rfl
          have h3 : DataW.trod enc Try.prog W 0 (fun _ => true) true n' 26 (([u0, u1, u2, u3].drop 3).take (Try.prog.cellsOf 26)) = ys[3]? := hfld 3 _ rfl
          simp only [cellsIs, cellsInt, cellsStr, List.drop_zero, List.drop_succ_cons, List.take_succ_cons, List.take_zero] at h0 h1 h2 h3
          rw [List.getElem?_eq_getElem (by omega)] at h0 h1 h2 h3
          obtain ⟨l, rfl, l1⟩ := field_text h0
          obtain ⟨r, rfl, r1⟩ := field_text h1
          obtain ⟨b, rfl, b1⟩ := field_int h2
          obtain ⟨B, zs, c, rfl, g1, g2, g3, g4⟩ := field_ints h3
          have c0 := hat 0 (by omega)
          have c1 := hat 1 (by omega)
          have c2 := hat 2 (by omega)
          have c3 := hat 3 (by omega)
          rw [add_twice] at c0 c1 c2 c3
          refine ⟨⟨l, r, b, zs, B, c⟩, fun _ => ⟨fun k u hk => ?_, ⟨g1, g2⟩, l1, r1, b1, g4, g3⟩⟩
          match k, hk with
          | 0, hk => simp [Fw.cells] at hk; subst hk; exact c0
          | 1, hk => simp [Fw.cells] at hk; subst hk; exact c1
          | 2, hk => simp [Fw.cells] at hk; subst hk; exact c2
          | 3, hk => simp [Fw.cells] at hk; subst hk; exact c3
          | k + 4, hk => simp [Fw.cells] at hk
      · exact ⟨⟨⟨#[]⟩, ⟨#[]⟩, 0, [], none, 0⟩, fun h => absurd h hil⟩
    obtain ⟨f, hf'⟩ := Classical.skolem.1 hex
    have hlen : ((List.range len).map f).length = len := by simp
    have hmem : ∀ x ∈ (List.range len).map f, ∃ i, i < len ∧ x = f i := fun x hx => by
      obtain ⟨i, hi, rfl⟩ := List.mem_map.1 hx
      exact ⟨i, List.mem_range.1 hi, rfl⟩
    refine ⟨some a, (List.range len).map f, cap, by rw [hlen], ⟨fun hne => ?_, fun x hx => ?_, fun x hx => ?_⟩, by rw [hlen]; exact hl, hm⟩
    · have hpos : 0 < len := by
        rcases Nat.eq_zero_or_pos len with e | e
        · subst e; exact absurd rfl hne
        · exact e
      refine ⟨a, rfl, ?_, fun k x hk j u hu => ?_⟩
      · have := lt_of_cell ((hf' 0 hpos).1 0 _ rfl)
        rwa [add_block] at this
      · obtain ⟨hk1, hk2⟩ := List.getElem?_eq_some_iff.1 hk
        rw [hlen] at hk1
        have hx : x = f k := by rw [← hk2]; simp
        subst hx
        exact (hf' k hk1).1 j u hu
    · obtain ⟨i, hi, rfl⟩ := hmem x hx
      exact (hf' i hi).2.1
    · obtain ⟨i, hi, rfl⟩ := hmem x hx
      exact (hf' i hi).2.2
end

end Go.Proofs.Ytllkegonhghkcaa
