/-
  RowsTells returns true wherever what comes in is of bulk at most 1048576: the program's answers are the document's. (Of longer texts Join may pass what any machine bears: the statement without the bound is false by size.)
-/
import Derived.Test.YtjapbiojjbdplaaTells
import Derived.Test.YtjapbiojjbdplaaRightRow
namespace Go.Proofs.Ytjapbiojjbdplaa
open Go.ChangeShapes Go.WideShapes Go.ChangeAt Go.RowKit
open Go.ChangeMaps (open_string)

set_option maxRecDepth 100000 in
theorem tells_lifted (os : Os) (started : os.Started) (H : Type) (enc : TypeId × Value → H) (F : Stop.Interp) :
    ReturnsInHanded {} Try.checked os 3 .any ((Rows.OpenSpec.upto Rows.rowsTellsSpec).pre6 enc Try.prog Try.f3 Rows.rowsTellsUptoRow.domain false) (((Rows.OpenSpec.upto Rows.rowsTellsSpec).at F).post enc Try.prog Try.f3 false true false false) := by
  refine returnsInHanded_of_cond_sized (C := Try.checked) (s := Rows.OpenSpec.upto Rows.rowsTellsSpec) (k := Rows.uptoSmall) rfl own started (by kernel_rfl) Try.func3
    (OpenSpec.witness (enc := enc) (C := Try.checked) (s := Rows.OpenSpec.upto Rows.rowsTellsSpec) (k := Rows.uptoSmall) rfl false ⟨#[], #[.string .empty, .slice none 0 0, .slice none 0 0, .slice none 0 0, .slice none 0 0], []⟩ 8 (by kernel_rfl) (by kernel_rfl) (by kernel_rfl)
      (x := ([.lit (.string []), .nil, .nil, .nil, .nil], [], [])) (by kernel_rfl) rfl (by kernel_rfl)) ?_
  intro W base args ds gs before hval0 hW _ hk hsz0 _
  have hsz : (DataW.weightsEach Try.prog (Try.f3.params.toList ++ Rows.rowsTellsSpec.plain.varTypes Try.prog) (ds ++ gs)).all (· ≤ reachBytes) = true := hsz0
  have hval : ∀ (j : Nat) t v, Try.f3.params[j]? = some t → args[j]? = some v → Value.okWide Try.prog W .any base t v := hval0
  clear hsz0 hval0
  have hW' := hW
  obtain ⟨p, q, hA0, hV, rfl, _, _⟩ := hW
  have hA : DataW.TrodAll enc Try.prog W 0 (fun _ => true) true Try.f3.params.toList args.toList ds p := hA0
  rw [Try.params3] at hA hval hsz
  obtain ⟨v0, vs0, d0, ds0, p0, q0, hargs0, rfl, rfl, h0, r0⟩ := trodAll_cons hA
  obtain ⟨v1, vs1, d1, ds1, p1, q1, rfl, rfl, rfl, h1, r1⟩ := trodAll_cons r0
  obtain ⟨v2, vs2, d2, ds2, p2, q2, rfl, rfl, rfl, h2, r2⟩ := trodAll_cons r1
  obtain ⟨v3, vs3, d3, ds3, p3, q3, rfl, rfl, rfl, h3, r3⟩ := trodAll_cons r2
  obtain ⟨v4, vs4, d4, ds4, p4, q4, rfl, rfl, rfl, h4, r4⟩ := trodAll_cons r3
  obtain ⟨rfl, rfl, rfl⟩ := trodAll_nil r4
  obtain rfl : args = #[v0, v1, v2, v3, v4] := by cases args; simp_all
  obtain ⟨rfl, rfl⟩ := trodVars_none hV
  obtain ⟨s, rfl, rfl, rfl, _⟩ := open_string Try.underlying9 (hval 0 9 v0 rfl rfl) h0
  obtain ⟨A, one, c, rfl, ha, hc, hbulk1⟩ := open_Strs (hval 1 22 v1 rfl rfl) h1
  obtain ⟨B, two, d, rfl, hb, hd, hbulk2⟩ := open_Strs (hval 2 22 v2 rfl rfl) h2
  obtain ⟨C, zs, e, rfl, hC, hl1, hz1⟩ := open_Ints (hval 3 23 v3 rfl rfl) h3 hsz (j := 3) rfl rfl
  obtain ⟨D, ts, f, rfl, hD, hl2, hz2⟩ := open_Ints (hval 4 23 v4 rfl rfl) h4 hsz (j := 4) rfl rfl
  have hu := upto_bound hk
  simp only [List.append_nil, Rows.uptoBulkAll] at hu
  have hs : s.size ≤ 1048576 := by
    have : Rows.uptoBulk (DataW.lit (H := H) (.string s.data.toList)) = s.data.toList.length + 1 := by simp [Rows.uptoBulk]
    rw [this, ← Lib.size_eq] at hu
    omega
  have hf : ∀ ss : List ByteArray, total ss ≤ 1048576 → Fit (ss.take 20) := by
    intro ss hss
    have h1 := total_take ss 20
    refine ⟨by simp; omega, by omega, fun t ht => ?_⟩
    have := size_le_total ht
    omega
  refine (tells_walk s A B C D one two zs ts c d e f W ha hb hC hD hc hd hl1 hl2 hz1 hz2 (hf one (by omega)) (hf two (by omega)) (by omega)).mono fun e W' ⟨he, hb⟩ => ?_
  subst he
  exact ⟨_, rfl, law_post (s := Rows.rowsTellsSpec) hW' rfl rfl ⟨rfl, rfl, rfl⟩ (by rw [show Try.f3.params.toList = [9, 22, 22, 23, 23] from congrArg Array.toList Try.params3]; intro t ht; simp at ht; rcases ht with rfl | rfl | rfl <;> exact ⟨by kernel_rfl, of_decide_eq_true (by kernel_rfl)⟩) hb⟩

theorem rowsTells_holds : Rows.RowsTellsUptoSaid :=
  OpenClaim.holds_of_cond 3 Try.f3 rfl rfl rfl rfl rfl rfl rfl ⟨rfl, rfl, rfl, rfl, rfl⟩ rfl rfl rfl rfl rfl (by kernel_rfl) Try.func3 (by kernel_rfl)
    (of_decide_eq_true (by kernel_rfl)) (by unfold Func.isWrapper; first | (rw [if_pos (by decide +kernel)]; kernel_rfl) | (rw [if_neg (by decide +kernel)]; exact ⟨rfl, rfl⟩))
    (fun os started H enc _ F => tells_lifted os started H enc F)

end Go.Proofs.Ytjapbiojjbdplaa
