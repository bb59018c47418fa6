/-
  How an argument that is a list of fills reads, and how long its texts are.
-/
import Derived.Test.YtllkegonhghkcaaOpn
namespace Go.Proofs.Ytllkegonhghkcaa
open Go.ChangeShapes Go.WideShapes Go.ChangeAt Go.RowKit Go.Deep P15

section
variable {H : Type} {enc : TypeId × Value → H} {W : World} {n base : Nat} {v : Value} {y : DataW H × List MemPlace} {d : DataW H} {p : List MemPlace}
/-- a field that is a text -/
theorem field_textW (h : DataW.trod enc Try.prog W 0 (fun _ => true) true n 9 [v] = some y) : ∃ s : ByteArray, v = .string s ∧ y.1 = .lit (.string s.data.toList) := by
  obtain ⟨s, hc, hy, _⟩ := DataW.trod_string Try.underlying9 h
  exact ⟨s, by simpa using hc, by rw [hy]⟩
theorem weightsAll_in {P : Program} {e : TypeId} : ∀ {l : List (DataW H)} {x : DataW H}, x ∈ l → ∀ {k : Nat}, k ∈ x.weights P e → k ∈ DataW.weightsAll P e l
  | d :: l, x, hx, k, hk => by
    simp only [DataW.weightsAll, List.mem_append]
    rcases List.mem_cons.1 hx with rfl | hx
    · exact .inl hk
    · exact .inr (weightsAll_in hx hk)
/-- fills that came in, as they lie in memory -/
structure RawG (W : World) (A : Option Addr) (R : List Fw) : Prop where
  row : RowAt Fw.cells 4 W A R
  wait : ∀ x ∈ R, WaitAt W x
  fit : ∀ x ∈ R, x.left.size ≤ 140737488351232 ∧ x.right.size ≤ 140737488351232 ∧ I64 x.by_ ∧ (∀ z ∈ x.wait, I64 z) ∧ x.cap ≤ maxLen
set_option maxRecDepth 100000 in
/-- a list of fills that came in -/
theorem open_fillsG {ts : List TypeId} {ds : List (DataW H)} {j : Nat} (hval : Value.okWide Try.prog W .any base 22 v) (h : DataW.Trod enc Try.prog W 0 (fun _ => true) true 22 v d p)
    (hsz : (DataW.weightsEach Try.prog ts ds).all (· ≤ reachBytes) = true) (ht : ts[j]? = some 22) (hd : ds[j]? = some d) :
    ∃ A R c, v = .slice A R.length c ∧ RawG W A R ∧ R.length ≤ c ∧ c ≤ maxLen := by
  obtain ⟨a0, len, cap, rfl⟩ := okWide_slice Try.underlying22 hval
  obtain ⟨fuel, hf⟩ := h
  rcases open_slice Try.underlying22 hf with ⟨hc, hx⟩ | ⟨a, len', cap', m, n, D, Pl, hc, _, hl, hm, hmm, hx, hi⟩
  · simp [Value.cells] at hc
    obtain ⟨rfl, rfl, rfl⟩ := hc
    exact ⟨none, [], 0, rfl, ⟨RowAt.nil, fun x hx => (by cases hx), fun x hx => (by cases hx)⟩, Nat.le_refl _, Nat.zero_le _⟩
  · simp [Value.cells] at hc
    obtain ⟨rfl, rfl, rfl⟩ := hc
    simp only [Prod.mk.injEq] at hx
    obtain ⟨rfl, rfl⟩ := hx
    have hex : ∀ i, ∃ x : Fw, i < len → (∀ k u, x.cells[k]? = some u → W.cell? (a.add (i * 4 + k)) = some u) ∧ WaitAt W x ∧ x.left.size ≤ 140737488351232 ∧ x.right.size ≤ 140737488351232 ∧ I64 x.by_ ∧ (∀ z ∈ x.wait, I64 z) ∧ x.cap ≤ maxLen := by
      intro i
      by_cases hil : i < len
      · have him : i < m := by rw [hmm]; simp; omega
        obtain ⟨cs', hcs, htr⟩ := hi i him
        rw [cellsFill] at hcs
        obtain ⟨_, hcl, hat⟩ := World.cells?_some hcs
        obtain ⟨ys, n', _, hag, _, hyl, hfld⟩ := DataW.trod_struct Try.underlying28 htr
        match cs', hcl with
        | [u0, u1, u2, u3], _ =>
          have hy4 : ys.length = 4 := hyl
          have h0 : DataW.trod enc Try.prog W 0 (fun _ => true) true n' 9 (([u0, u1, u2, u3].drop 0).take (Try.prog.cellsOf 9)) = ys[0]? := hfld 0 _ rfl
          have h1 : DataW.trod enc Try.prog W 0 (fun _ => true) true n' 9 (([u0, u1, u2, u3].drop 1).take (Try.prog.cellsOf 9)) = ys[1]? := hfld 1 _ rfl
          have h2 : DataW.trod enc Try.prog W 0 (fun _ => true) true n' 3 (([u0, u1, u2, u3].drop 2).take (Try.prog.cellsOf 3)) = ys[2]? := hfld 2 _ rfl
          have h3 : DataW.trod enc Try.prog W 0 (fun _ => true) true n' 26 (([u0, u1, u2, u3].drop 3).take (Try.prog.cellsOf 26)) = ys[3]? := hfld 3 _ rfl
          simp only [cellsIs, cellsInt, cellsStr, List.drop_zero, List.drop_succ_cons, List.take_succ_cons, List.take_zero] at h0 h1 h2 h3
          rw [List.getElem?_eq_getElem (by omega)] at h0 h1 h2 h3
          obtain ⟨l, rfl, f0⟩ := field_textW h0
          obtain ⟨r, rfl, f1⟩ := field_textW h1
          have hle : ∀ (q : Nat) (hq : q < ys.length) (s : ByteArray), (q = 0 ∨ q = 1) → ys[q].1 = .lit (.string s.data.toList) → s.size ≤ 140737488351232 := fun q hq s hc hf => by
            have hda : D i = .agg (ys.map (·.1)) := congrArg Prod.fst hag
            have hm : s.data.toList.length ∈ (D i).weights Try.prog 28 := by
              rw [hda]
              simp only [DataW.weights, Try.underlying28]
              refine DataW.weights_mem_each (j := q) (t := 9) (d := .lit (.string s.data.toList)) ?_ ?_ _ (by simp [DataW.weights])
              · rcases hc with rfl | rfl <;> rfl
              · rw [List.getElem?_map, List.getElem?_eq_getElem hq, ← hf]; rfl
            have := List.all_eq_true.1 hsz _ (DataW.weights_mem_each ht hd _ (by
              simp only [DataW.weights, Try.underlying22, List.mem_cons, List.mem_append]
              exact .inr (.inl (weightsAll_in (List.mem_map.2 ⟨i, List.mem_range.2 hil, rfl⟩) hm))))
            have := of_decide_eq_true this
            simp only [reachBytes, Array.length_toList] at this
            show s.data.size ≤ _
            omega
          have l1 := hle 0 (by omega) l (.inl rfl) f0
          have r1 := hle 1 (by omega) r (.inr rfl) f1
          obtain ⟨b, rfl, b1⟩ := field_int h2
          obtain ⟨B, zs, c, rfl, g1, g2, g3, g4⟩ := field_ints h3
          have c0 := hat 0 (by omega)
          have c1 := hat 1 (by omega)
          have c2 := hat 2 (by omega)
          have c3 := hat 3 (by omega)
          rw [add_twice] at c0 c1 c2 c3
          refine ⟨⟨l, r, b, zs, B, c⟩, fun _ => ⟨fun k u hk => ?_, ⟨g1, g2⟩, l1, r1, b1, g4, g3⟩⟩
          match k, hk with
          | 0, hk => simp [Fw.cells] at hk; subst hk; exact c0
          | 1, hk => simp [Fw.cells] at hk; subst hk; exact c1
          | 2, hk => simp [Fw.cells] at hk; subst hk; exact c2
          | 3, hk => simp [Fw.cells] at hk; subst hk; exact c3
          | k + 4, hk => simp [Fw.cells] at hk
      · exact ⟨⟨⟨#[]⟩, ⟨#[]⟩, 0, [], none, 0⟩, fun h => absurd h hil⟩
    obtain ⟨f, hf'⟩ := Classical.skolem.1 hex
    have hlen : ((List.range len).map f).length = len := by simp
    have hmem : ∀ x ∈ (List.range len).map f, ∃ i, i < len ∧ x = f i := fun x hx => by
      obtain ⟨i, hi, rfl⟩ := List.mem_map.1 hx
      exact ⟨i, List.mem_range.1 hi, rfl⟩
    refine ⟨some a, (List.range len).map f, cap, by rw [hlen], ⟨fun hne => ?_, fun x hx => ?_, fun x hx => ?_⟩, by rw [hlen]; exact hl, hm⟩
    · have hpos : 0 < len := by
        rcases Nat.eq_zero_or_pos len with e | e
        · subst e; exact absurd rfl hne
        · exact e
      refine ⟨a, rfl, ?_, fun k x hk j u hu => ?_⟩
      · have := lt_of_cell ((hf' 0 hpos).1 0 _ rfl)
        rwa [add_block] at this
      · obtain ⟨hk1, hk2⟩ := List.getElem?_eq_some_iff.1 hk
        rw [hlen] at hk1
        have hx : x = f k := by rw [← hk2]; simp
        subst hx
        exact (hf' k hk1).1 j u hu
    · obtain ⟨i, hi, rfl⟩ := hmem x hx
      exact (hf' i hi).2.1
    · obtain ⟨i, hi, rfl⟩ := hmem x hx
      exact (hf' i hi).2.2
end

end Go.Proofs.Ytllkegonhghkcaa
