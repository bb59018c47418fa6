/-
  Tasks in memory: a slice of structs of two numbers and two texts; rows that a call makes; how appends run. No walk.
-/
import Derived.Test.YtaelenjnjoeheaaFill
import Derived.Test.YtaelenjnjoeheaaQm
import Derived.Test.YtaelenjnjoeheaaProg
import Derived.ArgAppend
import Derived.Laws.MakeOwn
namespace Go.Proofs.Ytaelenjnjoeheaa
open Go.RowKit P16

def I64 (n : Int) : Prop := -9223372036854775808 ≤ n ∧ n ≤ 9223372036854775807
def Tk.cells (x : Tk) : List Value := [.int .i64 x.req, .int .i64 x.slot, .string x.left, .string x.right]
theorem tk_len : ∀ x : Tk, (Tk.cells x).length = 4 := fun _ => rfl
theorem tk_one : ∀ x : Tk, ∀ v ∈ Tk.cells x, v.oneCell' = true := fun x v hv => by
  simp [Tk.cells] at hv; rcases hv with rfl | rfl | rfl | rfl <;> rfl
theorem infoT : (Try.prog.info? 39).map (fun i => (i.zero, i.size, i.bytes)) = some (some (.agg #[.int .i64 0, .int .i64 0, .string ⟨#[]⟩, .string ⟨#[]⟩]), 4, 48) := by kernel_rfl
abbrev TasksAt (w : World) (A : Option Addr) (L : List Tk) : Prop := RowAt Tk.cells 4 w A L
abbrev OwnT (w0 w : World) (v : Value) (L : List Tk) : Prop := OwnR Tk.cells 4 39 w0 w v L
theorem tasks_fields {w : World} {A : Option Addr} {L : List Tk} (h : TasksAt w A L) {k : Nat} {x : Tk} (hk : L[k]? = some x) :
    ∃ a, A = some a ∧ a.block < w.heap.size ∧ w.cell? (a.add (k * 4)) = some (.int .i64 x.req) ∧ w.cell? ⟨(a.add (k * 4)).block, (a.add (k * 4)).off + 1, none⟩ = some (.int .i64 x.slot) ∧
      w.cell? ⟨(a.add (k * 4)).block, (a.add (k * 4)).off + 2, none⟩ = some (.string x.left) ∧ w.cell? ⟨(a.add (k * 4)).block, (a.add (k * 4)).off + 3, none⟩ = some (.string x.right) := by
  obtain ⟨a, e, hb, hc⟩ := h.at_ hk
  refine ⟨a, e, hb, hc 0 _ rfl, ?_, ?_, ?_⟩
  · rw [field_at _ _ 1 (by decide)]; exact hc 1 _ rfl
  · rw [field_at _ _ 2 (by decide)]; exact hc 2 _ rfl
  · rw [field_at _ _ 3 (by decide)]; exact hc 3 _ rfl
theorem tasks_first {w : World} {A : Option Addr} {L : List Tk} (h : TasksAt w A L) {x : Tk} (hk : L[0]? = some x) :
    ∃ a, A = some a ∧ a.block < w.heap.size ∧ w.cell? a = some (.int .i64 x.req) ∧ w.cell? ⟨a.block, a.off + 1, none⟩ = some (.int .i64 x.slot) ∧
      w.cell? ⟨a.block, a.off + 2, none⟩ = some (.string x.left) ∧ w.cell? ⟨a.block, a.off + 3, none⟩ = some (.string x.right) := by
  obtain ⟨a, e, hb, c0, c1, c2, c3⟩ := tasks_fields h hk
  have : a.add (0 * 4) = a := by simp [Addr.add]
  rw [this] at c0 c1 c2 c3
  exact ⟨a, e, hb, c0, c1, c2, c3⟩
theorem push_task {w0 W : World} {v : Value} {L : List Tk} (h : OwnT w0 W v L) (x : Tk) (m : Nat) (hm : L.length + 1 = m) (hL : m ≤ 1048576) :
    ∃ A' c' W', (Builtin.append_ #[22, 22] 22 #[v, .slice (some ⟨W.heap.size, 0, none⟩) 1 1]).run Try.prog (W.alloc (.cells #[.int .i64 x.req, .int .i64 x.slot, .string x.left, .string x.right] 39)) = .ok (.slice A' m c') W' ∧ OwnT w0 W' (.slice A' m c') (L ++ [x]) ∧ W.grownBy W' v.ownBlock :=
  OwnR.push tk_len tk_one (by decide) infoT rfl Try.underlying22 (by decide) h x m hm hL
theorem append_tasks {w0 w : World} {v : Value} {L M : List Tk} (h : OwnT w0 w v L) {A : Option Addr} (m c : Nat) (hA : TasksAt w A M) (hm : M.length = m) (Y : List Tk) (hY : Y = L ++ M) (hb : Y.length ≤ 1048576) :
    ∃ A' c' w', (Builtin.append_ #[22, 22] 22 #[v, .slice A m c]).run Try.prog w = .ok (.slice A' Y.length c') w' ∧ OwnT w0 w' (.slice A' Y.length c') Y ∧ w.grownBy w' v.ownBlock :=
  OwnR.append tk_len tk_one (by decide) infoT rfl Try.underlying22 (by decide) h m c hA hm Y hY hb
theorem take_snoc {α : Type} {L : List α} {k : Nat} {x : α} (h : L[k]? = some x) : L.take (k + 1) = L.take k ++ [x] := by
  obtain ⟨hk, rfl⟩ := List.getElem?_eq_some_iff.1 h
  exact List.take_succ_eq_append_getElem hk
theorem below_step {a b c : World} (h : Below a.heap.size a b) (h2 : Below b.heap.size b c) : Below a.heap.size a c := h.trans (h2.mono h.size)
theorem Drew.trans {a b c : World} (h : Drew a b) (h2 : Drew b c) : Drew a c := by
  obtain ⟨n, rfl⟩ := h2
  exact h.more n
theorem row_kept {α : Type} {f : α → List Value} {n : Nat} {w w' : World} {A : Option Addr} {L : List α} (h : RowAt f n w A L) (hs : w.heap.size ≤ w'.heap.size) (hk : L ≠ [] → ∀ a, A = some a → w'.heap[a.block]? = w.heap[a.block]?) : RowAt f n w' A L := fun hn => by
  obtain ⟨a, e, hl, hc⟩ := h hn
  refine ⟨a, e, Nat.lt_of_lt_of_le hl hs, fun k x hx j u hu => ?_⟩
  rw [← hc k x hx j u hu]
  exact World.cell?_of_block (by rw [add_block]; exact hk hn a e)
/-- tasks none of which lies below B -/
def TasksNew (B : Nat) (w : World) (A : Option Addr) (L : List Tk) : Prop := TasksAt w A L ∧ (L ≠ [] → ∀ a, A = some a → B ≤ a.block)
theorem TasksNew.at_ {B : Nat} {w : World} {A : Option Addr} {L : List Tk} (h : TasksNew B w A L) : TasksAt w A L := h.1
theorem TasksNew.nil {B : Nat} {w : World} {A : Option Addr} : TasksNew B w A [] := ⟨RowAt.nil, fun h => absurd rfl h⟩
theorem TasksNew.kept {B : Nat} {w w' : World} {A : Option Addr} {L : List Tk} (h : TasksNew B w A L) (hs : w.heap.size ≤ w'.heap.size) (hk : ∀ i, B ≤ i → i < w.heap.size → w'.heap[i]? = w.heap[i]?) : TasksNew B w' A L := by
  refine ⟨row_kept h.1 hs fun hr a e => ?_, h.2⟩
  obtain ⟨a', e', hl, _⟩ := h.1 hr
  rw [e] at e'; injection e' with e'; subst e'
  exact hk _ (h.2 hr a e) hl
theorem TasksNew.up {B : Nat} {w w' : World} {A : Option Addr} {L : List Tk} (h : TasksNew B w A L) (hb : Below w.heap.size w w') : TasksNew B w' A L := h.kept hb.size fun i _ hi => hb.block i hi
theorem TasksNew.drew {B : Nat} {w : World} {A : Option Addr} {L : List Tk} (h : TasksNew B w A L) : TasksNew B w.drew A L := h.up (Below.refl _ _).drew
theorem TasksNew.less {B B' : Nat} {w : World} {A : Option Addr} {L : List Tk} (h : TasksNew B w A L) (hb : B' ≤ B) : TasksNew B' w A L := ⟨h.1, fun hr a e => Nat.le_trans hb (h.2 hr a e)⟩
/-- what is written into a block below B leaves it alone -/
theorem TasksNew.grown {B : Nat} {w w' : World} {A : Option Addr} {L : List Tk} {row : Option Nat} (h : TasksNew B w A L) (hg : w.grownBy w' row) (hr : ∀ g, row = some g → g < B) : TasksNew B w' A L :=
  h.kept hg.size fun i hi hi2 => hg.block i hi2 fun e => by have := hr i e.symm; omega
theorem OwnR.typed {α : Type} {f : α → List Value} {n : Nat} {t : TypeId} {w0 w : World} {v : Value} {L : List α} (h : OwnR f n t w0 w v L) {g : Nat} (hg : v.ownBlock = some g) : w0.heap.size ≤ g ∧ g < w.heap.size := by
  rcases h.1.2 with ⟨rfl, _⟩ | ⟨g', cap, cur, rfl, hb, hh, _⟩
  · cases hg
  · have : g' = g := by simpa [Value.ownBlock] using hg
    subst this
    exact ⟨hb, Blk.lt hh⟩
theorem OwnR.keep {α : Type} {f : α → List Value} {n : Nat} {t : TypeId} {w0 w w' : World} {v : Value} {L : List α} (h : OwnR f n t w0 w v L) (hk : ∀ g cs, Blk w g t cs → Blk w' g t cs) (hb : Below w0.heap.size w0 w') : OwnR f n t w0 w' v L := by
  refine ⟨⟨h.1.1, ?_⟩, hb⟩
  rcases h.1.2 with h1 | ⟨g, cap, cur, h1, h2, h3, h4⟩
  · exact .inl h1
  · exact .inr ⟨g, cap, cur, h1, h2, hk g cur h3, h4⟩
theorem blk_ne {w : World} {g k : Nat} {t s : TypeId} {cs ds : Array Value} (h : Blk w g t cs) (h' : Blk w k s ds) (hn : t ≠ s) : g ≠ k := by
  rintro rfl
  unfold Blk at h h'
  rw [h] at h'
  injection h' with h'
  injection h' with _ h'
  exact hn h'
theorem own_new {w0 w : World} {A : Option Addr} {n c : Nat} {L : List Tk} (h : OwnT w0 w (.slice A n c) L) : TasksNew w0.heap.size w A L := by
  obtain ⟨A', c', e⟩ := OwnR.slice h
  injection e with _ e2 _
  refine ⟨OwnR.at_ tk_len h e2.symm, fun hr a ea => ?_⟩
  obtain ⟨g, cs, e, _, _, _, hg, _⟩ := OwnR.filled tk_len h (List.length_pos_iff.2 hr)
  rw [ea] at e
  injection e with e
  rw [e]; exact hg
/-- what is appended to a list behind which there is no room: all of it lies in new memory, or nothing was appended -/
theorem append_full {w : World} {A B : Option Addr} {L M : List Tk} (n m c : Nat) (hA : TasksAt w A L) (hn : L.length = n) (hB : TasksAt w B M) (hm : M.length = m) (hb : n + m ≤ 1048576) :
    ∃ A' c' w', (Builtin.append_ #[22, 22] 22 #[.slice A n n, .slice B m c]).run Try.prog w = .ok (.slice A' (n + m) c') w' ∧ TasksAt w' A' (L ++ M) ∧ n + m ≤ c' ∧ w.grownBy w' none := by
  subst hn hm
  obtain ⟨i0, hi, hz0, hz1, hz2⟩ := info_parts infoT
  by_cases hM : M = []
  · subst hM
    refine ⟨A, L.length, w, ?_, by simpa using hA, by simp, World.grownBy.refl w _⟩
    have h1 : ∀ X : Option Addr, (Builtin.firstCells 4 0 (.slice X 0 c)).run Try.prog w = .ok #[] w := fun X => by
      cases X <;> simp [Builtin.firstCells, loadCells, loadCellsFrom]
    cases A <;> simp [Builtin.append_, run_underlying Try.underlying22, sizeOf, typeInfo, hi, hz1, Builtin.lenOf, h1, storeCells]
  · obtain ⟨b, rfl, hbl, hbc⟩ := hB hM
    have hmp : 0 < M.length := List.length_pos_iff.2 hM
    cases A with
    | none =>
      have hL : L = [] := Classical.byContradiction fun g => by obtain ⟨a, e, _⟩ := hA g; cases e
      subst hL
      obtain ⟨A', c', w', hr, ho, hg⟩ := append_tasks (OwnR.nil w) M.length c hB rfl M rfl (by simpa using hb)
      refine ⟨A', c', w', by simpa using hr, by simpa using OwnR.at_ tk_len ho rfl, by simpa using (OwnR.cap ho).1, hg⟩
    | some a =>
      have hbytes : (L.length + M.length) * 48 ≤ 1048576 * 48 := Nat.mul_le_mul_right _ hb
      obtain ⟨v', w', hr, ho, hg⟩ := run_append_arg_grows (P := Try.prog) w 22 22 39 i0 _ 4 48 Try.underlying22 hi hz0 hz1 hz2 rfl (by decide)
        a L.length L.length (L.flatMap Tk.cells) (flat_len tk_len L) (fun j u hu => hA.cells tk_len (by decide) j u hu) b M.length c (M.flatMap Tk.cells) (flat_len tk_len M) (fun j u hu => hB.cells tk_len (by decide) j u hu) (by omega) (by unfold maxLen; omega) (by omega)
      obtain ⟨A', c', rfl⟩ := own_slice ho
      have ho' : OwnT w w' (.slice A' (L.length + M.length) c') (L ++ M) := ⟨by rw [List.flatMap_append, List.length_append]; exact ho, ⟨hg.os, hg.tape, hg.output, hg.size, fun i hi => hg.block i hi (by simp)⟩⟩
      exact ⟨A', c', w', hr, OwnR.at_ tk_len ho' (by simp), by have := (OwnR.cap ho').1; simpa using this, hg⟩
/-- a list that has no room, and nothing, or one of one's own -/
def Grows (w0 w : World) (v : Value) (L : List Tk) : Prop := (L = [] ∧ (∃ A, v = .slice A 0 0) ∧ Below w0.heap.size w0 w) ∨ OwnT w0 w v L
theorem Grows.below {w0 w : World} {v : Value} {L : List Tk} (h : Grows w0 w v L) : Below w0.heap.size w0 w := by
  rcases h with ⟨_, _, h⟩ | h
  · exact h
  · exact h.2
theorem Grows.up {w0 w w' : World} {v : Value} {L : List Tk} (h : Grows w0 w v L) (hb : Below w.heap.size w w') : Grows w0 w' v L := by
  rcases h with ⟨h1, h2, h3⟩ | h
  · exact .inl ⟨h1, h2, below_step h3 hb⟩
  · exact .inr (h.up hb)
theorem Grows.slice {w0 w : World} {v : Value} {L : List Tk} (h : Grows w0 w v L) : ∃ A c, v = .slice A L.length c := by
  rcases h with ⟨rfl, ⟨A, rfl⟩, _⟩ | h
  · exact ⟨A, 0, rfl⟩
  · exact h.slice
theorem Grows.at_ {w0 w : World} {A : Option Addr} {n c : Nat} {L : List Tk} (h : Grows w0 w (.slice A n c) L) : TasksAt w A L ∧ L.length = n ∧ n ≤ c := by
  rcases h with ⟨rfl, ⟨A', e⟩, _⟩ | h
  · injection e with _ e1 e2
    subst e1 e2
    exact ⟨RowAt.nil, rfl, Nat.le_refl _⟩
  · obtain ⟨A', c', e⟩ := h.slice
    injection e with _ e2 _
    exact ⟨OwnR.at_ tk_len h e2.symm, e2.symm, by have := (OwnR.cap h).1; omega⟩
theorem Grows.push {w0 W : World} {v : Value} {L : List Tk} (h : Grows w0 W v L) (x : Tk) (m : Nat) (hm : L.length + 1 = m) (hL : m ≤ 1048576) :
    ∃ A' c' W', (Builtin.append_ #[22, 22] 22 #[v, .slice (some ⟨W.heap.size, 0, none⟩) 1 1]).run Try.prog (W.alloc (.cells #[.int .i64 x.req, .int .i64 x.slot, .string x.left, .string x.right] 39)) = .ok (.slice A' m c') W' ∧ Grows w0 W' (.slice A' m c') (L ++ [x]) := by
  rcases h with ⟨rfl, ⟨A, rfl⟩, hb⟩ | h
  · have hm1 : m = 1 := hm.symm
    subst hm1
    have hal : Below W.heap.size W (W.alloc (.cells #[.int .i64 x.req, .int .i64 x.slot, .string x.left, .string x.right] 39)) := (Below.refl _ _).alloc (Nat.le_refl _) _
    have hnew := Blk.new W 39 #[.int .i64 x.req, .int .i64 x.slot, .string x.left, .string x.right]
    have hrow : TasksAt (W.alloc (.cells #[.int .i64 x.req, .int .i64 x.slot, .string x.left, .string x.right] 39)) (some ⟨W.heap.size, 0, none⟩) [x] := RowAt.of_blk (L := [x]) tk_len (by simpa [Tk.cells] using hnew)
    cases A with
    | none =>
      obtain ⟨A', c', W', hr, ho, _⟩ := push_task (OwnR.nil W) x 1 rfl (by omega)
      exact ⟨A', c', W', hr, .inr (OwnR.base ho hb)⟩
    | some a =>
      obtain ⟨i0, hi, hz0, hz1, hz2⟩ := info_parts infoT
      obtain ⟨v', w', hr, ho, hg⟩ := run_append_arg_grows (P := Try.prog) (W.alloc (.cells #[.int .i64 x.req, .int .i64 x.slot, .string x.left, .string x.right] 39)) 22 22 39 i0 _ 4 48 Try.underlying22 hi hz0 hz1 hz2 rfl (by decide)
        a 0 0 [] rfl (fun j u hu => by simp at hu) ⟨W.heap.size, 0, none⟩ 1 1 (Tk.cells x) rfl (fun j u hu => by have := hrow.cells tk_len (by decide) j u (by simpa using hu); exact this) (by omega) (by unfold maxLen; omega) (by omega)
      obtain ⟨A', c', rfl⟩ := own_slice ho
      refine ⟨A', c', w', hr, .inr (OwnR.base (w1 := W.alloc (.cells #[.int .i64 x.req, .int .i64 x.slot, .string x.left, .string x.right] 39)) ⟨?_, ⟨hg.os, hg.tape, hg.output, hg.size, fun i hi => hg.block i hi (by simp)⟩⟩ (below_step hb hal))⟩
      simpa using ho
  · obtain ⟨A', c', W', hr, ho, _⟩ := push_task h x m hm hL
    exact ⟨A', c', W', hr, .inr ho⟩
/-- texts are such as there are -/
def FitT (L : List Tk) : Prop := ∀ x ∈ L, x.left.size ≤ 140737488351232 ∧ x.right.size ≤ 140737488351232
theorem FitT.nil : FitT [] := fun x hx => by cases hx
theorem FitT.sub {L M : List Tk} (h : FitT L) (hm : ∀ x ∈ M, x ∈ L) : FitT M := fun x hx => h x (hm x hx)
theorem FitT.take {L : List Tk} (h : FitT L) (k : Nat) : FitT (L.take k) := h.sub fun _ hx => List.mem_of_mem_take hx
theorem FitT.drop {L : List Tk} (h : FitT L) (k : Nat) : FitT (L.drop k) := h.sub fun _ hx => List.mem_of_mem_drop hx
theorem FitT.append {L M : List Tk} (h : FitT L) (h2 : FitT M) : FitT (L ++ M) := fun x hx => (List.mem_append.1 hx).elim (h x) (h2 x)
theorem FitT.others {L : List Tk} (h : FitT L) (r : Int) : FitT (others L r) := h.sub fun _ hx => others_mem hx
/-- a new box -/
theorem box_new (w : World) (t : TypeId) (cs : Array Value) : ∃ (g : Nat) (v : World), g = w.heap.size ∧ v = w.alloc (.cells cs t) ∧ Blk v g t cs ∧ Below w.heap.size w v :=
  ⟨_, _, rfl, rfl, Blk.new w t cs, (Below.refl _ _).alloc (Nat.le_refl _) _⟩

end Go.Proofs.Ytaelenjnjoeheaa
