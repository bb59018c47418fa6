/-
  How an argument that is a list of raw items reads: what its cells hold, and how long it is.
-/
import Derived.Test.YtdnckhagknlfhaaLaw
import Derived.Deep.Slices
import Derived.Deep.Fields
import Derived.ChangeSame
namespace Go.Proofs.Ytdnckhagknlfhaa
open Go.ChangeShapes Go.WideShapes Go.ChangeAt Go.RowKit Go.Deep

theorem cells3 : Try.prog.cellsOf 3 = 1 := by kernel_rfl
theorem cells9 : Try.prog.cellsOf 9 = 1 := by kernel_rfl
theorem cells27 : Try.prog.cellsOf 27 = 1 := by kernel_rfl
theorem cells49 : Try.prog.cellsOf 49 = 4 := by kernel_rfl
theorem bytes49 : Try.prog.bytesOf 49 = 56 := by kernel_rfl

section
variable {H : Type} {enc : TypeId × Value → H} {W : World} {n : Nat} {v : Value} {y : DataW H × List MemPlace}
/-- a field that is a list of numbers -/
theorem field_ints (h : DataW.trod enc Try.prog W 0 (fun _ => true) true n 27 [v] = some y) :
    ∃ A zs c, v = .slice A zs.length c ∧ Ints W W.heap.size A zs ∧ zs.length ≤ 9223372036854775807 ∧ ∀ z ∈ zs, -9223372036854775808 ≤ z ∧ z ≤ 9223372036854775807 := by
  rcases open_ints Try.underlying27 Try.underlying3 cells3 h with ⟨hc, hx⟩ | ⟨a, len', cap', zs, hc, _, hl, hm, hzl, hx, hcell, hwf⟩
  · have hv : v = .slice none 0 0 := by simpa using hc
    exact ⟨none, [], 0, hv, Ints.nil, by simp, by simp⟩
  · have hv : v = .slice (some a) len' cap' := by simpa using hc
    subst hv
    simp at hzl
    have hlen : (zs.take len').length = len' := by simp; omega
    refine ⟨some a, zs.take len', cap', by rw [hlen], ?_, ?_, ?_⟩
    · intro hne
      have h0 : 0 < zs.length := by
        rcases Nat.eq_zero_or_pos zs.length with e | e
        · have : zs = [] := List.eq_nil_of_length_eq_zero e
          subst this; simp at hne
        · exact e
      refine ⟨a, rfl, ?_, fun i z hi => ?_⟩
      · have := lt_of_cell (hcell 0 h0)
        rwa [add_block] at this
      · rw [List.getElem?_take] at hi
        split at hi
        · obtain ⟨hi1, rfl⟩ := List.getElem?_eq_some_iff.1 hi
          rw [hcell i hi1]
          simp [List.getD, List.getElem?_eq_getElem hi1]
        · cases hi
    · rw [hlen]; unfold maxLen at hm; omega
    · intro z hz
      have := hwf z (List.mem_of_mem_take hz)
      have h1 : IntKind.i64.min = -9223372036854775808 := rfl
      have h2 : IntKind.i64.max = 9223372036854775807 := rfl
      simp only [Lit.wf, Bool.and_eq_true, decide_eq_true_eq] at this
      omega
/-- a field that is a number -/
theorem field_int (h : DataW.trod enc Try.prog W 0 (fun _ => true) true n 3 [v] = some y) : ∃ x : Int, v = .int .i64 x ∧ -9223372036854775808 ≤ x ∧ x ≤ 9223372036854775807 := by
  obtain ⟨x, hc, _, hw⟩ := DataW.trod_int Try.underlying3 h
  have hv : v = .int .i64 x := by simpa using hc
  have h1 : IntKind.i64.min = -9223372036854775808 := rfl
  have h2 : IntKind.i64.max = 9223372036854775807 := rfl
  simp only [Lit.wf, Bool.and_eq_true, decide_eq_true_eq] at hw
  exact ⟨x, hv, by omega, by omega⟩
/-- a field that is a text -/
theorem field_text (h : DataW.trod enc Try.prog W 0 (fun _ => true) true n 9 [v] = some y) : ∃ s : ByteArray, v = .string s ∧ s.size ≤ 9223372036854775807 := by
  obtain ⟨s, hc, _, hs⟩ := DataW.trod_string Try.underlying9 h
  have hv : v = .string s := by simpa using hc
  exact ⟨s, hv, by unfold maxLen at hs; omega⟩
end

/-- one raw item, at its place -/
def RawAt (W : World) (a : Addr) (i : Nat) (x : RawI) : Prop :=
  W.cell? (a.add (i * 4)) = some (.slice x.A x.zs.length x.c) ∧ W.cell? (a.add (i * 4 + 1)) = some (.int .i64 x.kind) ∧ W.cell? (a.add (i * 4 + 2)) = some (.string x.data) ∧ W.cell? (a.add (i * 4 + 3)) = some (.int .i64 x.bad) ∧ x.Ok W

set_option maxRecDepth 100000 in
/-- a list of raw items that came in -/
theorem open_Raws {H : Type} {enc : TypeId × Value → H} {W : World} {base : Nat} {v : Value} {d : DataW H} {p : List MemPlace} {ts : List TypeId} {ds : List (DataW H)} {j : Nat}
    (hval : Value.okWide Try.prog W .any base 22 v) (h : DataW.Trod enc Try.prog W 0 (fun _ => true) true 22 v d p)
    (hsz : (DataW.weightsEach Try.prog ts ds).all (· ≤ reachBytes) = true) (ht : ts[j]? = some 22) (hd : ds[j]? = some d) :
    ∃ A rs c, v = .slice A rs.length c ∧ RawsAt W A rs ∧ rs.length ≤ 140737488355328 := by
  obtain ⟨a0, len, cap, rfl⟩ := okWide_slice Try.underlying22 hval
  obtain ⟨fuel, hf⟩ := h
  rcases open_slice Try.underlying22 hf with ⟨hc, hx⟩ | ⟨a, len', cap', m, n, D, Pl, hc, _, hl, hm, hmm, hx, hi⟩
  · simp [Value.cells] at hc
    obtain ⟨rfl, rfl, rfl⟩ := hc
    exact ⟨none, [], 0, rfl, fun k x hk => by simp at hk, by simp⟩
  · simp [Value.cells] at hc
    obtain ⟨rfl, rfl, rfl⟩ := hc
    simp only [Prod.mk.injEq] at hx
    obtain ⟨rfl, rfl⟩ := hx
    have hex : ∀ i, ∃ x : RawI, i < len → RawAt W a i x := by
      intro i
      by_cases hil : i < len
      · have him : i < m := by rw [hmm]; simp; omega
        obtain ⟨cs', hcs, htr⟩ := hi i him
        rw [cells49] at hcs
        obtain ⟨_, hcl, hat⟩ := World.cells?_some hcs
        obtain ⟨ys, n', _, _, _, hyl, hfld⟩ := DataW.trod_struct Try.underlying49 htr
        match cs', hcl with
        | [u0, u1, u2, u3], _ =>
          have hy4 : ys.length = 4 := hyl
          have h0 : DataW.trod enc Try.prog W 0 (fun _ => true) true n' 27 (([u0, u1, u2, u3].drop 0).take (Try.prog.cellsOf 27)) = ys[0]? := hfld 0 _ rfl
          have h1 : DataW.trod enc Try.prog W 0 (fun _ => true) true n' 3 (([u0, u1, u2, u3].drop 1).take (Try.prog.cellsOf 3)) = ys[1]? := hfld 1 _ rfl
          have h2 : DataW.trod enc Try.prog W 0 (fun _ => true) true n' 9 (([u0, u1, u2, u3].drop 2).take (Try.prog.cellsOf 9)) = ys[2]? := hfld 2 _ rfl
          have h3 : DataW.trod enc Try.prog W 0 (fun _ => true) true n' 3 (([u0, u1, u2, u3].drop 3).take (Try.prog.cellsOf 3)) = ys[3]? := hfld 3 _ rfl
          simp only [cells27, cells3, cells9, List.drop_zero, List.drop_succ_cons, List.take_succ_cons, List.take_zero] at h0 h1 h2 h3
          rw [List.getElem?_eq_getElem (by omega)] at h0 h1 h2 h3
          obtain ⟨A, zs, c, rfl, g1, g2, g3⟩ := field_ints h0
          obtain ⟨kd, rfl, k1, k2⟩ := field_int h1
          obtain ⟨s, rfl, s1⟩ := field_text h2
          obtain ⟨bd, rfl, b1, b2⟩ := field_int h3
          have c0 := hat 0 (by omega)
          have c1 := hat 1 (by omega)
          have c2 := hat 2 (by omega)
          have c3 := hat 3 (by omega)
          rw [add_twice] at c0 c1 c2 c3
          exact ⟨⟨A, zs, c, kd, s, bd⟩, fun _ => ⟨c0, c1, c2, c3, ⟨g1, g2, g3, k1, k2, b1, b2, s1⟩⟩⟩
      · exact ⟨⟨none, [], 0, 0, ⟨#[]⟩, 0⟩, fun h => absurd h hil⟩
    obtain ⟨f, hf'⟩ := Classical.skolem.1 hex
    have hlen : ((List.range len).map f).length = len := by simp
    refine ⟨some a, (List.range len).map f, cap, by rw [hlen], fun k x hk => ?_, ?_⟩
    · obtain ⟨hk1, hk2⟩ := List.getElem?_eq_some_iff.1 hk
      rw [hlen] at hk1
      have hx : x = f k := by rw [← hk2]; simp
      subst hx
      obtain ⟨c0, c1, c2, c3, ho⟩ := hf' k hk1
      refine ⟨a, rfl, ?_, c0, ?_, ?_, ?_, ho⟩
      · have := lt_of_cell c0
        rwa [add_block] at this
      · rw [field_at _ _ 1 (by decide)]; exact c1
      · rw [field_at _ _ 2 (by decide)]; exact c2
      · rw [field_at _ _ 3 (by decide)]; exact c3
    · have := sized_slice hsz ht hd Try.underlying22
      rw [bytes49] at this
      simp only [List.length_map, List.length_range, reachBytes] at this
      rw [hlen]
      omega

end Go.Proofs.Ytdnckhagknlfhaa
