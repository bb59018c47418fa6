/-
  slices.SortFunc at files and at candidates, by the library's own contract: the row holds the same ones, sorted; nothing else has turned.
-/
import Derived.Test.YtdnckhagknlfhaaCmp
import Derived.Test.YtdnckhagknlfhaaShelf
import Derived.Shelf.SlSortCmp.NoneTotal
namespace Go.Proofs.Ytdnckhagknlfhaa
open Go.RowKit Go.Sort Go.Shelf Go.Lib

section
variable {α : Type} [Inhabited α] {enc : α → List Value} {k : Nat}
theorem flat_at (hk : ∀ x, (enc x).length = k) (hk0 : 0 < k) : ∀ (l : List α) (t : Nat), t < l.length * k → (l.flatMap enc)[t]? = some ((enc l.toArray[t / k]!)[t % k]!)
  | [], t, h => by simp at h
  | x :: l, t, h => by
    rw [List.flatMap_cons]
    by_cases ht : t < k
    · rw [List.getElem?_append_left (by rw [hk]; exact ht)]
      rw [Nat.div_eq_of_lt ht, Nat.mod_eq_of_lt ht]
      simp [getElem!_pos, hk, ht]
    · rw [List.getElem?_append_right (by rw [hk]; omega), hk]
      have h1 : (t - k) < l.length * k := by
        simp only [List.length_cons, Nat.add_mul, Nat.one_mul] at h
        omega
      rw [flat_at hk hk0 l (t - k) h1]
      have e1 : t / k = (t - k) / k + 1 := by rw [← Nat.div_eq_sub_div hk0 (by omega)]
      have e2 : t % k = (t - k) % k := by rw [Nat.mod_eq_sub_mod (by omega)]
      rw [e1, e2]
      have e3 : (x :: l).toArray[(t - k) / k + 1]! = l.toArray[(t - k) / k]! := by simp [getElem!_def]
      rw [e3]
omit [Inhabited α] in
theorem flat_len (hk : ∀ x, (enc x).length = k) : ∀ l : List α, (l.flatMap enc).length = l.length * k
  | [] => by simp
  | x :: l => by rw [List.flatMap_cons, List.length_append, hk, flat_len hk l]; simp [Nat.add_mul]; omega
theorem flatK_eq (hk : ∀ x, (enc x).length = k) (hk0 : 0 < k) (l : List α) : flatK enc k l.toArray = (l.flatMap enc).toArray := by
  apply Array.ext
  · simp [flatK, flat_len hk]
  · intro t h1 h2
    have ht : t < l.length * k := by simpa [flatK] using h1
    have := flat_at hk hk0 l t ht
    simp [flatK]
    rw [List.getElem?_eq_getElem (by simpa using h2)] at this
    injection this with this
    rw [this]
    simp

/-- down: a row of the call's own holds the elements -/
theorem holdsK_of_own (hk : ∀ x, (enc x).length = k) (hk0 : 0 < k) {w : World} {base : Nat} {e : TypeId} {g n cap : Nat} {l : List α} (h : w.ownsRow base e k (.slice (some ⟨g, 0, none⟩) n cap) n (l.flatMap enc)) : HoldsK enc k w g 0 l.toArray := by
  unfold HoldsK
  rw [flatK_eq hk hk0]
  intro j hj
  have hj' : j < (l.flatMap enc).length := by simpa using hj
  refine ⟨?_, ?_⟩
  · have := h.cells (g := g) rfl j _ (List.getElem?_eq_getElem hj')
    rw [add_zero_block] at this
    rw [Nat.zero_add, this]
    simp
    rw [List.getElem?_eq_getElem hj']
    rfl
  · rw [Nat.zero_add]; exact h.frozenAt j
/-- up: what the sort leaves -/
theorem own_of_sorted (hk : ∀ x, (enc x).length = k) (hk0 : 0 < k) {w : World} {base : Nat} {e : TypeId} {g n cap m : Nat} {l l' : List α} {os : Array Obj} (h : w.ownsRow base e k (.slice (some ⟨g, 0, none⟩) n cap) n (l.flatMap enc)) (hl : l'.length = l.length) :
    (sortWorldK enc k w g 0 m l'.toArray os).ownsRow base e k (.slice (some ⟨g, 0, none⟩) n cap) n (l'.flatMap enc) ∧ w.grownBy (sortWorldK enc k w g 0 m l'.toArray os) (some g) := by
  have hlen : (l.flatMap enc).length = (l'.flatMap enc).length := by rw [flat_len hk, flat_len hk, hl]
  have hglt := (h.lt g rfl).2
  unfold sortWorldK putRowK
  rw [flatK_eq hk hk0]
  refine ⟨?_, ?_⟩
  · have h1 := h.1
    rcases h.2 with ⟨e0, _⟩ | ⟨g', cap', cur, e0, hb, hg, hn, hm, hs, ht⟩
    · cases e0
    · injection e0 with e1 _ e3
      injection e1 with e1
      injection e1 with e1
      subst e1; subst e3
      refine ⟨by rw [← hlen]; exact h1, .inr ⟨g, cap, putCells id 0 (l'.flatMap enc).toArray cur, rfl, hb, ?_, hn, hm, by simpa [putCells] using hs, ?_⟩⟩
      · simp only [grow, putRow, mapBlock, Sort.ahead]
        rw [Array.getElem?_append_left (by simpa using hglt)]
        simp [Array.getElem?_modify, hg, onCells]
      · apply List.ext_getElem?
        intro j
        rw [List.getElem?_take, Array.getElem?_toList]
        by_cases hj : j < n * k
        · have hcap : n * k ≤ cap * k := Nat.mul_le_mul_right k hn
          have hjc : j < cur.size := by rw [hs]; omega
          have hj2 : j < (l'.flatMap enc).length := by rw [← hlen, h1]; exact hj
          simp only [if_pos hj, putCells, Array.getElem?_mapIdx, Array.getElem?_eq_getElem hjc, Option.map_some]
          rw [if_pos (by simpa using hj2), List.getElem?_eq_getElem hj2]
          simp
          rw [List.getElem?_eq_getElem hj2]
          rfl
        · rw [if_neg hj, List.getElem?_eq_none (by rw [← hlen, h1]; omega)]
  · refine ⟨rfl, rfl, rfl, by simp [grow, putRow, mapBlock, Sort.ahead], fun i hi hne => ?_⟩
    simp only [grow, putRow, mapBlock, Sort.ahead]
    rw [Array.getElem?_append_left (by simpa using hi)]
    simp [Array.getElem?_modify, show g ≠ i from fun e => hne (by rw [e])]
end


theorem perm_of {α : Type} [Inhabited α] {l : List α} {d' : Array α} (h : PermIn 0 l.toArray.size l.toArray d') : d'.toList.Perm l := by
  obtain ⟨h1, _, h3⟩ := h
  simp only [List.size_toArray] at h1 h3
  have e1 : d'.extract 0 l.length = d' := by rw [← h1]; simp
  have e2 : l.toArray.extract 0 l.length = l.toArray := by simp
  rw [e1, e2] at h3
  simpa using h3
theorem sorted_of {α : Type} [Inhabited α] {l : List α} {d' : Array α} {lt : α → α → Bool} (hp : PermIn 0 l.toArray.size l.toArray d') (h : SortedIn lt 0 l.toArray.size d') : d'.toList.Pairwise fun x y => lt y x = false := by
  have hsz : d'.size = l.length := by simpa using hp.1
  rw [List.pairwise_iff_getElem]
  intro i j hi hj hij
  have := h i j (Nat.zero_le _) hij (by simpa [← hsz] using hj)
  simpa [getElem!_pos, show i < d'.size by simpa using hi, show j < d'.size by simpa using hj] using this

theorem swo_files : SWO (ltOf fun x y : FM => pcmp x.path.data.toList y.path.data.toList) where
  irrefl x := by
    show decide (pcmp x.path.data.toList x.path.data.toList < 0) = false
    rw [pcmp_self]; rfl
  trans x y z h1 h2 := by
    unfold ltOf at *
    simp only [decide_eq_true_eq] at *
    exact pcmp_trans h1 h2
  ntrans x y z h1 h2 := by
    unfold ltOf at *
    simp only [decide_eq_false_iff_not] at *
    intro h3
    rcases pcmp_val x.path.data.toList y.path.data.toList with e | e | e
    · omega
    · rw [pcmp_zero e] at h3; exact h2 h3
    · exact h2 (pcmp_trans (by rw [pcmp_turn]; omega) h3)
theorem ccmp_neg (x y : CM) : ccmp x y < 0 ↔ y.s < x.s ∨ (y.s = x.s ∧ (x.o < y.o ∨ (x.o = y.o ∧ x.f < y.f))) := by
  unfold ccmp orL orL orL orL
  by_cases h1 : cmpI y.s x.s = 0
  · rw [if_pos h1]
    have e1 := cmpI_zero h1
    by_cases h2 : cmpI x.o y.o = 0
    · rw [if_pos h2]
      have e2 := cmpI_zero h2
      by_cases h3 : cmpI x.f y.f = 0
      · rw [if_pos h3]
        have e3 := cmpI_zero h3
        omega
      · rw [if_neg h3, cmpI_neg]; omega
    · rw [if_neg h2, cmpI_neg]
      have e2 : x.o ≠ y.o := fun e => h2 (by rw [e, cmpI_self])
      omega
  · rw [if_neg h1, cmpI_neg]
    have e1 : y.s ≠ x.s := fun e => h1 (by rw [e, cmpI_self])
    omega
theorem swo_cands : SWO (ltOf ccmp) where
  irrefl x := by unfold ltOf; simp only [decide_eq_false_iff_not]; rw [ccmp_neg]; omega
  trans x y z h1 h2 := by
    unfold ltOf at *
    simp only [decide_eq_true_eq] at *
    rw [ccmp_neg] at *
    omega
  ntrans x y z h1 h2 := by
    unfold ltOf at *
    simp only [decide_eq_false_iff_not] at *
    rw [ccmp_neg] at *
    omega
theorem files_len : ∀ x : FM, x.cells.length = 2 := fun _ => rfl
theorem cands_len : ∀ x : CM, x.cells.length = 3 := fun _ => rfl
theorem files_one : ∀ x : FM, ∀ v ∈ x.cells, v.oneCell' = true := fun x v hv => by
  simp [FM.cells] at hv; rcases hv with rfl | rfl <;> rfl
theorem cands_one : ∀ x : CM, ∀ v ∈ x.cells, v.oneCell' = true := fun x v hv => by
  simp [CM.cells] at hv; rcases hv with rfl | rfl | rfl <;> rfl

/-- what a sort leaves of a row: the same ones, sorted -/
def SortTold {α : Type} (enc : α → List Value) (lt : α → α → Prop) (base : Nat) (e : TypeId) (k n : Nat) (v : Value) (l : List α) (w : World) (r : Ending) (w' : World) : Prop :=
  r = .returned (.tuple #[]) ∧ ∃ l' : List α, l'.Perm l ∧ (l'.Pairwise fun x y => ¬ lt y x) ∧ w'.ownsRow base e k v n (l'.flatMap enc) ∧ w.grownBy w' v.ownBlock

theorem sortFiles_any (v : Value) (base n : Nat) (l : List FM) (w : World) (h : w.ownsRow base 76 2 v n (l.flatMap FM.cells)) (hn : l.length = n) (h1 : n ≤ 65536) :
    Calls Try.prog 41 #[v, .func (.func 42) #[] #[]] w (SortTold FM.cells (fun x y => plt x.path y.path) base 76 2 n v l w) := by
  subst hn
  rcases h.2 with ⟨rfl, h0⟩ | ⟨g, cap, cur, rfl, _, _, _, _, _⟩
  · have hl : l = [] := List.eq_nil_of_length_eq_zero h0
    subst hl
    have hS := AnyF.slices_SortFunc_none (P := Try.prog) (ρ := Try.sortFile_ren) Try.sortFile none 0 (.func (.func 42) #[] #[]) w
    refine Calls.mono (show Calls Try.prog 41 _ _ _ from hS) ?_
    rintro e w' ⟨rfl, rfl⟩
    exact ⟨rfl, [], .refl _, .nil, h, World.grownBy.refl w' _⟩
  · have eg : ∀ args W, (callFunc 42 args).run Try.prog W = .ok (.enter 42 args) W := enters_of Try.func42 (by kernel_rfl) rfl
    have hcon := AnyQ.slices_SortFunc (P := Try.prog) (ρ := Try.sortFile_ren) Try.sortFile 2 Try.isAgg76 Try.sizeOf76 FM.cells files_len files_one (fun x y => pcmp x.path.data.toList y.path.data.toList) swo_files 42 #[] g 0 cap l.toArray w eg
      (fun _ _ _ _ x y => closure_any x y _) (holdsK_of_own files_len (by decide) h) ((h.lt g rfl).2) (by simp; omega)
    simp only [List.size_toArray] at hcon
    refine Calls.mono (show Calls Try.prog 41 _ _ _ from hcon) ?_
    rintro e w' ⟨rfl, d', m, os, hp, hs, rfl⟩
    have hp' : PermIn 0 l.toArray.size l.toArray d' := by simpa using hp
    have hs' : SortedIn (ltOf fun x y : FM => pcmp x.path.data.toList y.path.data.toList) 0 l.toArray.size d' := by simpa using hs
    have hperm := perm_of hp'
    obtain ⟨ho, hg⟩ := own_of_sorted (l' := d'.toList) (m := m) (os := os) files_len (by decide) h hperm.length_eq
    refine ⟨rfl, d'.toList, hperm, (sorted_of hp' hs').imp fun {x y} hxy => ?_, by simpa using ho, by simpa [Value.ownBlock] using hg⟩
    unfold plt
    unfold ltOf at hxy
    simpa using hxy

theorem sortCands_any (v : Value) (base n : Nat) (l : List CM) (w : World) (h : w.ownsRow base 80 3 v n (l.flatMap CM.cells)) (hn : l.length = n) (h1 : n ≤ 65536) :
    Calls Try.prog 46 #[v, .func (.func 24) #[] #[]] w (SortTold CM.cells (fun x y => ccmp x y < 0) base 80 3 n v l w) := by
  subst hn
  rcases h.2 with ⟨rfl, h0⟩ | ⟨g, cap, cur, rfl, _, _, _, _, _⟩
  · have hl : l = [] := List.eq_nil_of_length_eq_zero h0
    subst hl
    have hS := AnyF.slices_SortFunc_none (P := Try.prog) (ρ := Try.sortCand_ren) Try.sortCand none 0 (.func (.func 24) #[] #[]) w
    refine Calls.mono (show Calls Try.prog 46 _ _ _ from hS) ?_
    rintro e w' ⟨rfl, rfl⟩
    exact ⟨rfl, [], .refl _, .nil, h, World.grownBy.refl w' _⟩
  · have eg : ∀ args W, (callFunc 24 args).run Try.prog W = .ok (.enter 24 args) W := enters_of Try.func24 (by kernel_rfl) rfl
    have hcon := AnyQ.slices_SortFunc (P := Try.prog) (ρ := Try.sortCand_ren) Try.sortCand 3 Try.isAgg80 Try.sizeOf80 CM.cells cands_len cands_one ccmp swo_cands 24 #[] g 0 cap l.toArray w eg
      (fun _ _ _ _ x y => better_any x y _) (holdsK_of_own cands_len (by decide) h) ((h.lt g rfl).2) (by simp; omega)
    simp only [List.size_toArray] at hcon
    refine Calls.mono (show Calls Try.prog 46 _ _ _ from hcon) ?_
    rintro e w' ⟨rfl, d', m, os, hp, hs, rfl⟩
    have hp' : PermIn 0 l.toArray.size l.toArray d' := by simpa using hp
    have hs' : SortedIn (ltOf ccmp) 0 l.toArray.size d' := by simpa using hs
    have hperm := perm_of hp'
    obtain ⟨ho, hg⟩ := own_of_sorted (l' := d'.toList) (m := m) (os := os) cands_len (by decide) h hperm.length_eq
    refine ⟨rfl, d'.toList, hperm, (sorted_of hp' hs').imp fun {x y} hxy => ?_, by simpa using ho, by simpa [Value.ownBlock] using hg⟩
    unfold ltOf at hxy
    simpa using hxy

theorem only_alloc' {w w' : World} {row : Option Nat} (o : Obj) (h : (w.alloc o).grownBy w' row) : w.grownBy w' row :=
  ⟨h.os, h.tape, h.output, by have := h.size; simp at this; omega, fun i hi hne => (h.block i (by simp; omega) hne).trans (Below.heap_alloc w o i hi)⟩
set_option maxHeartbeats 1000000 in
theorem rsort_any (v : Value) (base n : Nat) (l : List CM) (w : World) (h : w.ownsRow base 80 3 v n (l.flatMap CM.cells)) (hn : l.length = n) (h1 : n ≤ 65536) :
    Calls Try.prog 25 #[.agg #[v, .func (.func 24) #[] #[]]] w (SortTold CM.cells (fun x y => ccmp x y < 0) base 80 3 n v l w) := by
  have HC := Lib.hid (sortCands_any v base n l (w.alloc (.cells #[v, .func (.func 24) #[] #[]] 56)) (h.alloc _) hn h1)
  clear h hn
  go_enter Try.func25, Try.ntmps25
  go_wp2_with fail
  refine HC.out.mono ?_
  rintro e w' ⟨rfl, l', h2, h3, h4, h5⟩
  have H3 := Lib.hid h3
  clear h3
  go_wp2_with fail
  go_end0
  exact ⟨rfl, l', h2, H3.out.imp (fun {x y} h => by simpa using h), h4, only_alloc' _ h5⟩

end Go.Proofs.Ytdnckhagknlfhaa
