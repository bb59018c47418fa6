/-
  AlikeBest returns true for all raw numbers: what Best tells is as great as any Score, and the first one that is; with one more list, no better, it is the same; of no lists it is -1 and 0. No condition of ours.
-/
import Derived.Test.YthnjbiojimjlgaaBest
import Derived.Test.YthnjbiojimjlgaaOpen
import Derived.Deep.Matrix
namespace Go.Proofs.Ythnjbiojimjlgaa
open Go.ChangeShapes Go.WideShapes Go.ChangeAt Go.RowKit

theorem cells23 : Try.prog.cellsOf 23 = 1 := by kernel_rfl
theorem bytes23 : Try.prog.bytesOf 23 = 24 := by kernel_rfl
/-- a list of lists of numbers that came in -/
theorem open_Rows {H : Type} {enc : TypeId × Value → H} {W : World} {base : Nat} {v : Value} {d : DataW H} {p : List MemPlace} {ts : List TypeId} {ds : List (DataW H)} {j : Nat}
    (hval : Value.okWide Try.prog W .any base 36 v) (h : DataW.Trod enc Try.prog W 0 (fun _ => true) true 36 v d p)
    (hsz : (DataW.weightsEach Try.prog ts ds).all (· ≤ reachBytes) = true) (ht : ts[j]? = some 36) (hd : ds[j]? = some d) :
    ∃ A R c, v = .slice A R.length c ∧ Rws W W.heap.size A R ∧ R.length ≤ 140737488355328 ∧ ∀ zs ∈ R, zs.length ≤ 9223372036854775807 ∧ ∀ z ∈ zs, -9223372036854775808 ≤ z ∧ z ≤ 9223372036854775807 := by
  obtain ⟨a0, len, cap, rfl⟩ := okWide_slice Try.underlying36 hval
  obtain ⟨fuel, hf⟩ := h
  rcases Deep.open_int_rows Try.underlying36 Try.underlying23 Try.underlying3 cells23 cells3 hf with ⟨hc, hx⟩ | ⟨a, len', cap', A, L, C, Z, hc, _, hl, hm, hx, hr⟩
  · simp [Value.cells] at hc
    obtain ⟨rfl, rfl, rfl⟩ := hc
    exact ⟨none, [], 0, rfl, fun h => absurd rfl h, by simp, by simp⟩
  · simp [Value.cells] at hc
    obtain ⟨rfl, rfl, rfl⟩ := hc
    simp only [Prod.mk.injEq] at hx
    obtain ⟨rfl, rfl⟩ := hx
    have hlen : ((List.range len).map fun r => (Z r).take (L r)).length = len := by simp
    have hzl : ∀ r, r < len → ((Z r).take (L r)).length = L r := fun r h => by
      obtain ⟨_, h1, _, h2, _⟩ := hr r (by omega)
      rw [List.length_take]
      omega
    have hat : ∀ (r : Nat) zs, ((List.range len).map fun r => (Z r).take (L r))[r]? = some zs → r < len ∧ zs = (Z r).take (L r) := by
      intro r zs h
      obtain ⟨hlt, _⟩ := List.getElem?_eq_some_iff.1 h
      rw [hlen] at hlt
      rw [List.getElem?_map, List.getElem?_range hlt] at h
      simp at h
      exact ⟨hlt, h.symm⟩
    refine ⟨some a, (List.range len).map fun r => (Z r).take (L r), cap, by rw [hlen], ?_, ?_, ?_⟩
    · intro hne
      have h0 : 0 < len := by
        rcases Nat.eq_zero_or_pos len with e | e
        · subst e; simp at hne
        · exact e
      refine ⟨a, rfl, ?_, fun r zs hzs => ?_⟩
      · have := lt_of_cell (hr 0 (by omega)).1
        rwa [add_block] at this
      · obtain ⟨hlt, rfl⟩ := hat r zs hzs
        obtain ⟨h1, h2, h3, h4, h5, h6, h7⟩ := hr r (by omega)
        refine ⟨A r, C r, by rw [hzl r hlt]; exact h1, fun hn => ?_⟩
        have hL : 0 < L r := by
          rcases Nat.eq_zero_or_pos (L r) with e | e
          · rw [e] at hn; simp at hn
          · exact e
        cases hA : A r with
        | none => have := h6 hA; omega
        | some a' =>
          obtain ⟨_, hcell⟩ := h7 a' hA
          refine ⟨a', rfl, ?_, fun i z hi => ?_⟩
          · have := lt_of_cell (hcell 0 (by omega))
            rwa [add_block] at this
          · rw [List.getElem?_take] at hi
            split at hi
            · obtain ⟨hi1, rfl⟩ := List.getElem?_eq_some_iff.1 hi
              rw [hcell i (by omega)]
              simp [List.getD, List.getElem?_eq_getElem hi1]
            · cases hi
    · have := sized_slice hsz ht hd Try.underlying36
      rw [bytes23] at this
      simp only [List.length_map, List.length_range, reachBytes] at this
      rw [hlen]
      omega
    · intro zs hzs
      obtain ⟨r, hri⟩ := List.mem_iff_getElem?.1 hzs
      obtain ⟨hlt, rfl⟩ := hat r zs hri
      obtain ⟨h1, h2, h3, h4, h5, h6, h7⟩ := hr r (by omega)
      refine ⟨by rw [hzl r hlt]; unfold maxLen at h3; omega, fun z hz => ?_⟩
      have := h5 z (List.mem_of_mem_take hz)
      have e1 : IntKind.i64.min = -9223372036854775808 := rfl
      have e2 : IntKind.i64.max = 9223372036854775807 := rfl
      simp only [Lit.wf, Bool.and_eq_true, decide_eq_true_eq] at this
      omega

set_option maxRecDepth 100000 in
theorem best_lifted (os : Os) (started : os.Started) (H : Type) (enc : TypeId × Value → H) :
    ReturnsInHanded {} Try.checked os 6 .any (Rows.alikeBestSpec.pre6 enc Try.prog Try.f6 Rows.alikeBestRow.domain false) (Rows.alikeBestSpec.post enc Try.prog Try.f6 false true false false) := by
  refine returnsInHanded_of_change_sized (C := Try.checked) own started (by kernel_rfl) Try.func6
    (ChangeSpec.witness6 (enc := enc) (C := Try.checked) false ⟨#[], #[.slice none 0 0, .slice none 0 0], []⟩ 8 (by kernel_rfl) (by kernel_rfl) (by kernel_rfl) (by kernel_rfl)) ?_
  intro W base args ds gs before hval0 hW _ hsz0 _
  have hsz : (DataW.weightsEach Try.prog (Try.f6.params.toList ++ Rows.alikeBestSpec.plain.varTypes Try.prog) (ds ++ gs)).all (· ≤ reachBytes) = true := hsz0
  have hval : ∀ (j : Nat) t v, Try.f6.params[j]? = some t → args[j]? = some v → Value.okWide Try.prog W .any base t v := hval0
  clear hsz0 hval0
  have hW' := hW
  obtain ⟨p, q, hA0, hV, rfl, _, _⟩ := hW
  have hA : DataW.TrodAll enc Try.prog W 0 (fun _ => true) true Try.f6.params.toList args.toList ds p := hA0
  rw [Try.params6] at hA hval hsz
  obtain ⟨v0, v1, d0, d1, p0, p1, rfl, rfl, rfl, h0, h1⟩ := trodAll_two hA
  obtain ⟨rfl, rfl⟩ := trodVars_none hV
  obtain ⟨A, R, c, rfl, ha, hl, hz⟩ := open_Rows (hval 0 36 v0 rfl rfl) h0 hsz (j := 0) rfl rfl
  obtain ⟨B, ts, d, rfl, hb, hm, ht⟩ := open_Ints (hval 1 23 v1 rfl rfl) h1 hsz (j := 1) rfl rfl
  refine (best_walk A B R ts c d W ha hb hl hm hz ht).mono fun e W' ⟨he, hb⟩ => ?_
  subst he
  exact ⟨_, rfl, law_post hW' rfl rfl ⟨rfl, rfl, rfl⟩ (by rw [show Try.f6.params.toList = [36, 23] from congrArg Array.toList Try.params6]; intro t ht; simp at ht; rcases ht with rfl | rfl <;> exact ⟨by kernel_rfl, of_decide_eq_true (by kernel_rfl)⟩) hb⟩

theorem alikeBest_holds : Rows.AlikeBestSaid :=
  OpenClaim.holds_of_wide 6 Try.f6 rfl rfl rfl rfl rfl rfl rfl ⟨rfl, rfl, rfl, rfl, rfl⟩ rfl rfl rfl rfl rfl (by kernel_rfl) Try.func6 (by kernel_rfl)
    (of_decide_eq_true (by kernel_rfl)) (by unfold Func.isWrapper; first | (rw [if_pos (by decide +kernel)]; kernel_rfl) | (rw [if_neg (by decide +kernel)]; exact ⟨rfl, rfl⟩))
    (fun os started H enc _ => best_lifted os started H enc)

end Go.Proofs.Ythnjbiojimjlgaa
