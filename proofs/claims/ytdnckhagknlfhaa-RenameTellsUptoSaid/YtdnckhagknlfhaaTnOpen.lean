/-
  How an argument that is a list of items reads: what its cells hold, and how long its texts are.
-/
import Derived.Test.YtdnckhagknlfhaaOpen
import Derived.Test.YtdnckhagknlfhaaItems
namespace Go.Proofs.Ytdnckhagknlfhaa
open Go.ChangeShapes Go.WideShapes Go.ChangeAt Go.RowKit Go.Deep

theorem cells4 : Try.prog.cellsOf 4 = 1 := by kernel_rfl
theorem cells33 : Try.prog.cellsOf 33 = 4 := by kernel_rfl
theorem bulk_mem {H : Type} : ∀ {l : List (DataW H)} {x : DataW H}, x ∈ l → Rows.uptoBulk x ≤ Rows.uptoBulkAll l
  | y :: l, x, h => by
    simp only [Rows.uptoBulkAll]
    rcases List.mem_cons.1 h with rfl | h
    · omega
    · have := bulk_mem h
      omega
/-- one item, at its place -/
def ItemAt (W : World) (a : Addr) (i : Nat) (x : It) (B : Nat) : Prop :=
  W.cell? (a.add (i * 4)) = some (.string x.path) ∧ W.cell? (a.add (i * 4 + 1)) = some (.int .i64 x.kind) ∧ W.cell? (a.add (i * 4 + 2)) = some (.string x.data) ∧ W.cell? (a.add (i * 4 + 3)) = some (.bool x.bad) ∧ x.path.size ≤ B ∧ x.data.size ≤ B

set_option maxRecDepth 100000 in
/-- a list of items that came in -/
theorem open_Items {H : Type} {enc : TypeId × Value → H} {W : World} {base : Nat} {v : Value} {d : DataW H} {p : List MemPlace}
    (hval : Value.okWide Try.prog W .any base 23 v) (h : DataW.Trod enc Try.prog W 0 (fun _ => true) true 23 v d p) :
    ∃ A its c, v = .slice A its.length c ∧ ItemsAt W A its ∧ its.length ≤ c ∧ c ≤ maxLen ∧ ∀ it ∈ its, it.path.size ≤ Rows.uptoBulk d ∧ it.data.size ≤ Rows.uptoBulk d := by
  obtain ⟨a0, len, cap, rfl⟩ := okWide_slice Try.underlying23 hval
  obtain ⟨fuel, hf⟩ := h
  rcases open_slice Try.underlying23 hf with ⟨hc, hx⟩ | ⟨a, len', cap', m, n, D, Pl, hc, _, hl, hm, hmm, hx, hi⟩
  · simp [Value.cells] at hc
    obtain ⟨rfl, rfl, rfl⟩ := hc
    exact ⟨none, [], 0, rfl, fun h => absurd rfl h, Nat.le_refl _, Nat.zero_le _, fun it hi => by cases hi⟩
  · simp [Value.cells] at hc
    obtain ⟨rfl, rfl, rfl⟩ := hc
    simp only [Prod.mk.injEq] at hx
    obtain ⟨rfl, rfl⟩ := hx
    obtain ⟨B, hB⟩ : ∃ B, B = Rows.uptoBulk (DataW.slice ((List.range len).map D) ((List.range (m - len)).map fun j => D (len + j))) := ⟨_, rfl⟩
    have hDB : ∀ i, i < len → Rows.uptoBulk (D i) ≤ B := fun i hil => by
      have h1 := bulk_mem (l := (List.range len).map D) (List.mem_map.2 ⟨i, List.mem_range.2 hil, rfl⟩)
      rw [hB]
      simp only [Rows.uptoBulk]
      omega
    rw [← hB]
    have hex : ∀ i, ∃ x : It, i < len → ItemAt W a i x B := by
      intro i
      by_cases hil : i < len
      · have him : i < m := by rw [hmm]; simp; omega
        obtain ⟨cs', hcs, htr⟩ := hi i him
        rw [cells33] at hcs
        obtain ⟨_, hcl, hat⟩ := World.cells?_some hcs
        obtain ⟨ys, n', _, hag, _, hyl, hfld⟩ := DataW.trod_struct Try.underlying33 htr
        match cs', hcl with
        | [u0, u1, u2, u3], _ =>
          have hy4 : ys.length = 4 := hyl
          have h0 : DataW.trod enc Try.prog W 0 (fun _ => true) true n' 9 (([u0, u1, u2, u3].drop 0).take (Try.prog.cellsOf 9)) = ys[0]? := hfld 0 _ rfl
          have h1 : DataW.trod enc Try.prog W 0 (fun _ => true) true n' 3 (([u0, u1, u2, u3].drop 1).take (Try.prog.cellsOf 3)) = ys[1]? := hfld 1 _ rfl
          have h2 : DataW.trod enc Try.prog W 0 (fun _ => true) true n' 9 (([u0, u1, u2, u3].drop 2).take (Try.prog.cellsOf 9)) = ys[2]? := hfld 2 _ rfl
          have h3 : DataW.trod enc Try.prog W 0 (fun _ => true) true n' 4 (([u0, u1, u2, u3].drop 3).take (Try.prog.cellsOf 4)) = ys[3]? := hfld 3 _ rfl
          simp only [cells4, cells3, cells9, List.drop_zero, List.drop_succ_cons, List.take_succ_cons, List.take_zero] at h0 h1 h2 h3
          rw [List.getElem?_eq_getElem (by omega)] at h0 h1 h2 h3
          obtain ⟨s0, e0, f0, _⟩ := DataW.trod_string Try.underlying9 h0
          obtain ⟨z, rfl, _, _⟩ := field_int h1
          obtain ⟨s2, e2, f2, _⟩ := DataW.trod_string Try.underlying9 h2
          obtain ⟨b, e3, _⟩ := DataW.trod_bool Try.underlying4 h3
          have v0 : u0 = .string s0 := by simpa using e0
          have v2 : u2 = .string s2 := by simpa using e2
          have v3 : u3 = .bool b := by simpa using e3
          subst v0 v2 v3
          have hle := hDB i hil
          have hda : D i = .agg (ys.map (·.1)) := congrArg Prod.fst hag
          rw [hda] at hle
          simp only [Rows.uptoBulk] at hle
          have b0 := bulk_mem (l := ys.map (·.1)) (List.mem_map.2 ⟨ys[0], List.getElem_mem (by omega), rfl⟩)
          have b2 := bulk_mem (l := ys.map (·.1)) (List.mem_map.2 ⟨ys[2], List.getElem_mem (by omega), rfl⟩)
          rw [f0] at b0
          rw [f2] at b2
          simp only [Rows.uptoBulk, Array.length_toList] at b0 b2
          have c0 := hat 0 (by omega)
          have c1 := hat 1 (by omega)
          have c2 := hat 2 (by omega)
          have c3 := hat 3 (by omega)
          rw [add_twice] at c0 c1 c2 c3
          refine ⟨⟨s0, z, s2, b⟩, fun _ => ⟨c0, c1, c2, c3, ?_, ?_⟩⟩
          · show s0.data.size ≤ B
            omega
          · show s2.data.size ≤ B
            omega
      · exact ⟨⟨⟨#[]⟩, 0, ⟨#[]⟩, false⟩, fun h => absurd h hil⟩
    obtain ⟨f, hf'⟩ := Classical.skolem.1 hex
    have hlen : ((List.range len).map f).length = len := by simp
    refine ⟨some a, (List.range len).map f, cap, by rw [hlen], fun hne => ?_, by rw [hlen]; exact hl, hm, fun it hit => ?_⟩
    · have hpos : 0 < len := by
        rcases Nat.eq_zero_or_pos len with e | e
        · subst e; exact absurd rfl hne
        · exact e
      refine ⟨a, rfl, ?_, fun k x hk => ?_⟩
      · have := lt_of_cell (hf' 0 hpos).1
        rwa [add_block] at this
      · obtain ⟨hk1, hk2⟩ := List.getElem?_eq_some_iff.1 hk
        rw [hlen] at hk1
        have hx : x = f k := by rw [← hk2]; simp
        subst hx
        obtain ⟨c0, c1, c2, c3, _, _⟩ := hf' k hk1
        refine ⟨c0, ?_, ?_, ?_⟩
        · rw [field_at _ _ 1 (by decide)]; exact c1
        · rw [field_at _ _ 2 (by decide)]; exact c2
        · rw [field_at _ _ 3 (by decide)]; exact c3
    · obtain ⟨i, hi, rfl⟩ := List.mem_map.1 hit
      obtain ⟨_, _, _, _, h5, h6⟩ := hf' i (List.mem_range.1 hi)
      exact ⟨h5, h6⟩

end Go.Proofs.Ytdnckhagknlfhaa
