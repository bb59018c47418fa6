/-
  RowsRight returns true wherever what comes in is of bulk at most 1048576: Split undoes Join of lines that are right, and of no others; the raw lines are right. (Of longer texts Join may pass what any machine bears: the statement without the bound is false by size.)
-/
import Derived.Test.YtjapbiojjbdplaaRightLaw
import Derived.Test.YtjapbiojjbdplaaOpen
namespace Go.Proofs.Ytjapbiojjbdplaa
open Go.ChangeShapes Go.WideShapes Go.ChangeAt Go.RowKit
open Go.ChangeMaps (open_string)

theorem bulk_one {H : Type} (d : DataW H) : 1 ≤ Rows.uptoBulk d := by
  cases d with
  | lit l => cases l <;> simp [Rows.uptoBulk]
  | nil => simp [Rows.uptoBulk]
  | ptr d => simp [Rows.uptoBulk]
  | slice elems spare => simp [Rows.uptoBulk]
  | agg parts => simp [Rows.uptoBulk]
  | iface t d => simp [Rows.uptoBulk]
  | map entries => simp [Rows.uptoBulk]
  | held h => simp [Rows.uptoBulk]

theorem bulk_strs {H : Type} (ss : List ByteArray) : total ss + ss.length ≤ Rows.uptoBulkAll (strs (H := H) ss) := by
  induction ss with
  | nil => simp [total, txts]
  | cons x xs ih =>
    have h3 : total (x :: xs) = x.size + total xs := by
      unfold total txts
      rw [List.map_cons, List.flatten_cons, List.length_append, txt, ← Lib.size_eq]
    rw [h3, List.length_cons]
    simp only [strs, List.map_cons, Rows.uptoBulkAll, Rows.uptoBulk] at ih ⊢
    rw [← Lib.size_eq]
    omega
theorem size_le_total {ss : List ByteArray} {s : ByteArray} (h : s ∈ ss) : s.size ≤ total ss := by
  obtain ⟨j, hj⟩ := List.mem_iff_getElem?.1 h
  have h1 := total_one hj
  have h2 := total_take ss (j + 1)
  omega

/-- a list of texts that came in -/
theorem open_Strs {H : Type} {enc : TypeId × Value → H} {W : World} {base : Nat} {v : Value} {d : DataW H} {p : List MemPlace}
    (hval : Value.okWide Try.prog W .any base 22 v) (h : DataW.Trod enc Try.prog W 0 (fun _ => true) true 22 v d p) :
    ∃ A ss c, v = .slice A ss.length c ∧ Strs W W.heap.size A ss ∧ ss.length ≤ c ∧ total ss + ss.length ≤ Rows.uptoBulk d := by
  obtain ⟨a0, len, cap, rfl⟩ := okWide_slice Try.underlying22 hval
  obtain ⟨fuel, hf⟩ := h
  rcases open_strings Try.underlying22 Try.underlying9 cells9 hf with ⟨hc, hx⟩ | ⟨a, len', cap', ss, hc, _, hl, hm, hzl, hx, hcell, _⟩
  · simp [Value.cells] at hc
    obtain ⟨rfl, rfl, rfl⟩ := hc
    exact ⟨none, [], 0, rfl, Strs.nil, by simp, by simp [total, txts]⟩
  · simp [Value.cells] at hc
    obtain ⟨rfl, rfl, rfl⟩ := hc
    simp at hzl
    simp only [Prod.mk.injEq] at hx
    obtain ⟨rfl, rfl⟩ := hx
    have hlen : (ss.take len).length = len := by simp; omega
    refine ⟨some a, ss.take len, cap, by rw [hlen], ?_, by omega, ?_⟩
    · intro hne
      have h0 : 0 < ss.length := by
        rcases Nat.eq_zero_or_pos ss.length with e | e
        · have : ss = [] := List.eq_nil_of_length_eq_zero e
          subst this; simp at hne
        · exact e
      refine ⟨a, rfl, ?_, fun i z hi => ?_⟩
      · have := lt_of_cell (hcell 0 h0)
        rwa [add_block] at this
      · rw [List.getElem?_take] at hi
        split at hi
        · obtain ⟨hi1, rfl⟩ := List.getElem?_eq_some_iff.1 hi
          rw [hcell i hi1]
          simp [List.getD, List.getElem?_eq_getElem hi1]
        · cases hi
    · have := bulk_strs (H := H) (ss.take len)
      simp only [Rows.uptoBulk]
      omega

theorem upto_bound {H : Type} {l : List (DataW H)} (hk : Rows.uptoSmall H l = true) : Rows.uptoBulkAll l ≤ 1048576 := of_decide_eq_true hk

set_option maxRecDepth 100000 in
theorem right_lifted (os : Os) (started : os.Started) (H : Type) (enc : TypeId × Value → H) (F : Stop.Interp) :
    ReturnsInHanded {} Try.checked os 5 .any ((Rows.OpenSpec.upto Rows.rowsRightSpec).pre6 enc Try.prog Try.f5 Rows.rowsRightUptoRow.domain false) (((Rows.OpenSpec.upto Rows.rowsRightSpec).at F).post enc Try.prog Try.f5 false true false false) := by
  refine returnsInHanded_of_cond_sized (C := Try.checked) (s := Rows.OpenSpec.upto Rows.rowsRightSpec) (k := Rows.uptoSmall) rfl own started (by kernel_rfl) Try.func5
    (OpenSpec.witness (enc := enc) (C := Try.checked) (s := Rows.OpenSpec.upto Rows.rowsRightSpec) (k := Rows.uptoSmall) rfl false ⟨#[], #[.slice none 0 0, .slice none 0 0, .int .i64 0, .string .empty], []⟩ 8 (by kernel_rfl) (by kernel_rfl) (by kernel_rfl)
      (x := ([.nil, .nil, .lit (.int .i64 0), .lit (.string [])], [], [])) (by kernel_rfl) rfl (by kernel_rfl)) ?_
  intro W base args ds gs before hval0 hW _ hk hsz0 _
  have hsz : (DataW.weightsEach Try.prog (Try.f5.params.toList ++ Rows.rowsRightSpec.plain.varTypes Try.prog) (ds ++ gs)).all (· ≤ reachBytes) = true := hsz0
  have hval : ∀ (j : Nat) t v, Try.f5.params[j]? = some t → args[j]? = some v → Value.okWide Try.prog W .any base t v := hval0
  clear hsz0 hval0
  have hW' := hW
  obtain ⟨p, q, hA0, hV, rfl, _, _⟩ := hW
  have hA : DataW.TrodAll enc Try.prog W 0 (fun _ => true) true Try.f5.params.toList args.toList ds p := hA0
  rw [Try.params5] at hA hval hsz
  obtain ⟨v0, vs0, d0, ds0, p0, q0, hargs0, rfl, rfl, h0, r0⟩ := trodAll_cons hA
  obtain ⟨v1, vs1, d1, ds1, p1, q1, rfl, rfl, rfl, h1, r1⟩ := trodAll_cons r0
  obtain ⟨v2, vs2, d2, ds2, p2, q2, rfl, rfl, rfl, h2, r2⟩ := trodAll_cons r1
  obtain ⟨v3, vs3, d3, ds3, p3, q3, rfl, rfl, rfl, h3, r3⟩ := trodAll_cons r2
  obtain ⟨rfl, rfl, rfl⟩ := trodAll_nil r3
  obtain rfl : args = #[v0, v1, v2, v3] := by cases args; simp_all
  obtain ⟨rfl, rfl⟩ := trodVars_none hV
  obtain ⟨A, ss, c, rfl, ha, hc, hbulk⟩ := open_Strs (hval 0 22 v0 rfl rfl) h0
  obtain ⟨B, zs, d, rfl, hb, hl, hz⟩ := open_Ints (hval 1 23 v1 rfl rfl) h1 hsz (j := 1) rfl rfl
  obtain ⟨at_, rfl, rfl, rfl, wat⟩ := open_int Try.underlying3 (hval 2 3 v2 rfl rfl) h2
  obtain ⟨s, rfl, rfl, rfl, _⟩ := open_string Try.underlying9 (hval 3 9 v3 rfl rfl) h3
  have hu := upto_bound hk
  simp only [List.append_nil, Rows.uptoBulkAll] at hu
  have hs : s.size ≤ 1048576 := by
    have : Rows.uptoBulk (DataW.lit (H := H) (.string s.data.toList)) = s.data.toList.length + 1 := by simp [Rows.uptoBulk]
    rw [this, ← Lib.size_eq] at hu
    omega
  have hat : -9223372036854775808 ≤ at_ ∧ at_ ≤ 9223372036854775807 := by
    have h1 : IntKind.i64.min = -9223372036854775808 := rfl
    have h2 : IntKind.i64.max = 9223372036854775807 := rfl
    simp only [Lit.wf, Bool.and_eq_true, decide_eq_true_eq] at wat
    omega
  have hf : Fit (ss.take 20) := by
    have h1 := total_take ss 20
    refine ⟨by simp; omega, by omega, fun t ht => ?_⟩
    have := size_le_total ht
    omega
  refine (rightLaw_walk A B ss zs c d at_ s W ha hb hc hl hz hat.1 hat.2 hf hs).mono fun e W' ⟨he, hb⟩ => ?_
  subst he
  exact ⟨_, rfl, law_post (s := Rows.rowsRightSpec) hW' rfl rfl ⟨rfl, rfl, rfl⟩ (by rw [show Try.f5.params.toList = [22, 23, 3, 9] from congrArg Array.toList Try.params5]; intro t ht; simp at ht; rcases ht with rfl | rfl | rfl | rfl <;> exact ⟨by kernel_rfl, of_decide_eq_true (by kernel_rfl)⟩) hb⟩

theorem rowsRight_holds : Rows.RowsRightUptoSaid :=
  OpenClaim.holds_of_cond 5 Try.f5 rfl rfl rfl rfl rfl rfl rfl ⟨rfl, rfl, rfl, rfl, rfl⟩ rfl rfl rfl rfl rfl (by kernel_rfl) Try.func5 (by kernel_rfl)
    (of_decide_eq_true (by kernel_rfl)) (by unfold Func.isWrapper; first | (rw [if_pos (by decide +kernel)]; kernel_rfl) | (rw [if_neg (by decide +kernel)]; exact ⟨rfl, rfl⟩))
    (fun os started H enc _ F => right_lifted os started H enc F)

end Go.Proofs.Ytjapbiojjbdplaa
