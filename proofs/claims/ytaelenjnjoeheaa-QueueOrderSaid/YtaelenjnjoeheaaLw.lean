/-
  What the laws share: a box that is stored into whole; lists of one's own beside it; how a list is taken from.
-/
import Derived.Test.YtaelenjnjoeheaaAwk
import Derived.Deep.CutBlock
namespace Go.Proofs.Ytaelenjnjoeheaa
open Go.RowKit P16

theorem grown3 (w : World) (g : Nat) (a b c : Value) : w.grownBy (((w.setCell ⟨g, 0, none⟩ a).setCell ⟨g, 1, none⟩ b).setCell ⟨g, 2, none⟩ c) (some g) :=
  ((grown_set _ _ _ _).trans (grown_set _ _ _ _)).trans (grown_set _ _ _ _)
theorem Blk.set3 {w : World} {g : Nat} {t : TypeId} {u0 u1 u2 : Value} (hk : Blk w g t #[u0, u1, u2]) (a b c : Value) : Blk (((w.setCell ⟨g, 0, none⟩ a).setCell ⟨g, 1, none⟩ b).setCell ⟨g, 2, none⟩ c) g t #[a, b, c] :=
  ((hk.set_ 0 a).set_ 1 b).set_ 2 c
/-- a box that is stored into whole -/
theorem box_set {w : World} {g : Nat} {t : TypeId} {u0 u1 u2 : Value} (hk : Blk w g t #[u0, u1, u2]) (a b c : Value) : ∃ v, v = ((w.setCell ⟨g, 0, none⟩ a).setCell ⟨g, 1, none⟩ b).setCell ⟨g, 2, none⟩ c ∧ Blk v g t #[a, b, c] ∧ w.grownBy v (some g) :=
  ⟨_, rfl, hk.set3 a b c, grown3 w g a b c⟩
section
variable {α : Type} {f : α → List Value} {n : Nat} {t s : TypeId} {w0 w w' : World} {v : Value} {L : List α} {g : Nat} {cs : Array Value}
theorem OwnR.ne (h : OwnR f n t w0 w v L) (hk : Blk w g s cs) (hs : t ≠ s) : some g ≠ v.ownBlock := fun e => by
  rcases h.1.2 with ⟨rfl, _⟩ | ⟨g', cap, cur, rfl, _, hh, _⟩
  · cases e
  · have : g = g' := by simpa [Value.ownBlock] using e
    subst this
    exact blk_ne hh hk hs rfl
theorem OwnR.far (h : OwnR f n t w0 w v L) (hg : w.grownBy w' (some g)) (hk : Blk w g s cs) (hs : t ≠ s) (h0 : w0.heap.size ≤ g) : OwnR f n t w0 w' v L :=
  h.keep (fun k ds hd => hd.grown hg fun e => by injection e with e; exact blk_ne hd hk hs e) (grown_below h.2 hg h.2.size h0)
theorem OwnR.own_lt (h : OwnR f n t w0 w v L) : ∀ g, v.ownBlock = some g → g < w.heap.size := fun _ e => (OwnR.typed h e).2
end
/-- what is stored into a box below B leaves it alone -/
theorem TasksNew.far {B g : Nat} {w w' : World} {A : Option Addr} {L : List Tk} (h : TasksNew B w A L) (hg : w.grownBy w' (some g)) (hb : g < B) : TasksNew B w' A L :=
  h.grown hg fun _ e => by injection e with e; omega
/-- one more; where the list lies then -/
theorem push_task2 {w0 W : World} {v : Value} {L : List Tk} (h : OwnT w0 W v L) (x : Tk) (m : Nat) (hm : L.length + 1 = m) (hL : m ≤ 1048576) :
    ∃ A' c' W', (Builtin.append_ #[22, 22] 22 #[v, .slice (some ⟨W.heap.size, 0, none⟩) 1 1]).run Try.prog (W.alloc (.cells #[.int .i64 x.req, .int .i64 x.slot, .string x.left, .string x.right] 39)) = .ok (.slice A' m c') W' ∧ OwnT w0 W' (.slice A' m c') (L ++ [x]) ∧ W.grownBy W' v.ownBlock ∧ ∀ g, (Value.slice A' m c').ownBlock = some g → v.ownBlock = some g ∨ W.heap.size ≤ g := by
  subst hm
  obtain ⟨i0, hi, hz0, hz1, hz2⟩ := info_parts infoT
  have hal : Below W.heap.size W (W.alloc (.cells (Tk.cells x).toArray 39)) := (Below.refl _ _).alloc (Nat.le_refl _) _
  have h2 := h.up hal
  have hnew := Blk.new W 39 (Tk.cells x).toArray
  have hb2 : (L.length + 1) * 48 ≤ 1048576 * 48 := Nat.mul_le_mul_right _ hL
  obtain ⟨v', W', hrun, hown, hg, _, hat⟩ := run_append_own_at (P := Try.prog) (W.alloc (.cells (Tk.cells x).toArray 39)) w0.heap.size 22 22 39 i0 _ 4 48 Try.underlying22 hi hz0 hz1 hz2 rfl (by decide) v L.length (L.flatMap Tk.cells) h2.1
    ⟨W.heap.size, 0, none⟩ 1 1 (Tk.cells x) rfl (by
      intro j u hu
      rw [add_zero_block, hnew.cell j]
      simpa using hu) (tk_one x) (by unfold maxLen; omega) (by omega) h2.2.size
  obtain ⟨A', c', rfl⟩ := own_slice hown
  refine ⟨A', c', W', hrun, ⟨?_, h2.2.grown hg h2.2.size (fun k hk => (h2.1.lt k hk).1)⟩, ⟨hg.os, hg.tape, hg.output, by have := hg.size; simp at this; omega, fun i hi hne => (hg.block i (by simp; omega) hne).trans (Below.heap_alloc W _ i hi)⟩, fun g e => ?_⟩
  · rw [List.flatMap_append, List.length_append]
    simpa using hown
  · rcases hat with hat | hat
    · exact .inl (by rw [← hat]; exact e)
    · rw [hat] at e
      injection e with e
      exact .inr (by rw [← e]; simp)
/-- what a Put, or a Drop, told, and where it lies -/
def PutCut (k0 : Nat) (r0 : Int) (b0 : Bool) (T0 : List Tk) (e0 : Int) (v : World) (s1 s2 s3 : Value) (wx : World) : Prop :=
  ∃ (g : Nat) (A : Option Addr) (n c : Nat), s1 = .int .i64 (k0 : Int) ∧ s2 = .pointer (some ⟨g, 0, none⟩) ∧ s3 = .int .i64 e0 ∧ Blk wx g 24 #[.int .i64 r0, .bool b0, .slice A n c] ∧ T0.length = n ∧ n ≤ c ∧ TasksAt wx A T0 ∧ Below v.heap.size v wx ∧ v.heap.size ≤ g
/-- the first task of what is left -/
theorem drop_cons {T : List Tk} {j : Nat} {x : Tk} (h : T[j]? = some x) : T.drop j = x :: T.drop (j + 1) := by
  obtain ⟨hj, rfl⟩ := List.getElem?_eq_some_iff.1 h
  exact List.drop_eq_getElem_cons hj
theorem take_step {r : Int} {c : Bool} {T : List Tk} {j : Nat} {x : Tk} (h : T[j]? = some x) (h0 : 0 ≤ r) (h1 : r ≤ 4096) (h2 : (T.length : Int) ≤ r) : takeQ ⟨r, c, T.drop j⟩ = (x, ⟨r, c, T.drop (j + 1)⟩, 0) := by
  rw [drop_cons h]
  refine take_ok (right_of h0 h1 ?_)
  rw [← drop_cons h]
  show ((T.drop j).length : Int) ≤ r
  rw [List.length_drop]
  omega
/-- what is left of a list behind its first ones -/
theorem op_fromk {o : Oper} {a : Act} {p q : Nat} {A Ad : Option Addr} {n c k : Nat} {x : Int} {W : World} (hA : (if c = k then A else A.map (·.add (k * 4))) = Ad) (ho : o.op = Op.slice 22 (.tmp p) (some (.tmp q)) none none) (hp : a.eval (.tmp p) = .slice A n c) (hq : a.eval (.tmp q) = .int .i64 x) (hx : x = (k : Int)) (h1 : k ≤ n) (h2 : n ≤ c) :
    (execOp a.eval o).run Try.prog W = .ok (.value (.slice Ad (n - k) (c - k))) W := by
  subst hx
  subst hA
  have hp' : a.tmps[p]?.getD undef = .slice A n c := by simpa [Act.eval] using hp
  have hq' : a.tmps[q]?.getD undef = .int .i64 (k : Int) := by simpa [Act.eval] using hq
  have hcell : Try.prog.cellsOf 39 = 4 := by kernel_rfl
  cases A with
  | none =>
    simp only [execOp, ho]
    go_simp
    try simp
  | some b =>
    by_cases hk : c = k
    · obtain rfl : n = c := by omega
      subst hk
      simp only [execOp, ho]
      go_simp
      try simp
    · have hkk : ¬ k = c := fun e => hk e.symm
      simp only [execOp, ho]
      go_simp
      try simp [hk]
theorem tks_20 (L : List Tri) : (tksOf L).length ≤ 20 := by rw [tks_len]; omega

end Go.Proofs.Ytaelenjnjoeheaa
