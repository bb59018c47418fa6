/-
  Items and files: plain mathematics of 'the files of items' (filesM), what items and lists of files are in memory (ItemsAt, FilesAt, Fls), the map of known paths. No walk of a function of the program.
-/
import Derived.Test.YtdnckhagknlfhaaSort
import Derived.Test.YtdnckhagknlfhaaSplit
import Derived.Test.YtdnckhagknlfhaaCommon
namespace Go.Proofs.Ytdnckhagknlfhaa
open Go.RowKit Go.Maps Go.WideMaps

/-- an item -/
structure It where
  path : ByteArray
  kind : Int
  data : ByteArray
  bad : Bool
deriving DecidableEq
def It.cells (x : It) : List Value := [.string x.path, .int .i64 x.kind, .string x.data, .bool x.bad]
/-- the slice '.slice A its.length _' holds the items -/
def ItemsAt (w : World) (A : Option Addr) (its : List It) : Prop :=
  its ≠ [] → ∃ a, A = some a ∧ a.block < w.heap.size ∧ ∀ k it, its[k]? = some it → w.cell? (a.add (k * 4)) = some (.string it.path) ∧ w.cell? ⟨(a.add (k * 4)).block, (a.add (k * 4)).off + 1, none⟩ = some (.int .i64 it.kind) ∧ w.cell? ⟨(a.add (k * 4)).block, (a.add (k * 4)).off + 2, none⟩ = some (.string it.data) ∧ w.cell? ⟨(a.add (k * 4)).block, (a.add (k * 4)).off + 3, none⟩ = some (.bool it.bad)
theorem ItemsAt.at_ {w : World} {A : Option Addr} {its : List It} (h : ItemsAt w A its) {k : Nat} {it : It} (hk : its[k]? = some it) :
    ∃ a, A = some a ∧ a.block < w.heap.size ∧ w.cell? (a.add (k * 4)) = some (.string it.path) ∧ w.cell? ⟨(a.add (k * 4)).block, (a.add (k * 4)).off + 1, none⟩ = some (.int .i64 it.kind) ∧ w.cell? ⟨(a.add (k * 4)).block, (a.add (k * 4)).off + 2, none⟩ = some (.string it.data) ∧ w.cell? ⟨(a.add (k * 4)).block, (a.add (k * 4)).off + 3, none⟩ = some (.bool it.bad) := by
  obtain ⟨a, e, hb, hc⟩ := h (by intro e; subst e; simp at hk)
  exact ⟨a, e, hb, hc k it hk⟩
theorem ItemsAt.up {w w' : World} {A : Option Addr} {its : List It} (h : ItemsAt w A its) (hb : Below w.heap.size w w') : ItemsAt w' A its := fun hn => by
  obtain ⟨a, e, hl, hc⟩ := h hn
  refine ⟨a, e, Nat.lt_of_lt_of_le hl hb.size, fun k it hk => ?_⟩
  obtain ⟨c0, c1, c2, c3⟩ := hc k it hk
  have hlt : (a.add (k * 4)).block < w.heap.size := by rw [add_block]; exact hl
  exact ⟨(hb.cell hlt).trans c0, (hb.cell (p := ⟨_, _, none⟩) hlt).trans c1, (hb.cell (p := ⟨_, _, none⟩) hlt).trans c2, (hb.cell (p := ⟨_, _, none⟩) hlt).trans c3⟩

/-- a text's lines -/
def linesOf (s : ByteArray) : List ByteArray := (Sp.Pl.splitL s.data.toList).map fun l => ⟨l.toArray⟩
theorem lines_of_txts {ys : List ByteArray} {s : ByteArray} (h : Sp.txts ys = Sp.Pl.splitL (Sp.txt s)) : ys = linesOf s := by
  unfold linesOf
  rw [show s.data.toList = Sp.txt s from rfl, ← h, Sp.txts, List.map_map]
  have : ((fun l : List UInt8 => (⟨l.toArray⟩ : ByteArray)) ∘ Sp.txt) = id := by
    funext y
    cases y
    simp [Sp.txt]
  rw [this, List.map_id]

/-- is a path among those that are there -/
def inM (acc : List (ByteArray × ByteArray)) (s : ByteArray) : Bool := acc.any fun p => decide (p.1 = s)
theorem inM_iff {acc : List (ByteArray × ByteArray)} {s : ByteArray} : inM acc s = true ↔ s ∈ acc.map Prod.fst := by
  unfold inM
  simp only [List.any_eq_true, decide_eq_true_eq, List.mem_map]
theorem inM_snoc (acc : List (ByteArray × ByteArray)) (p d s : ByteArray) : inM (acc ++ [(p, d)]) s = (inM acc s || decide (p = s)) := by simp [inM]
def stepF (acc : List (ByteArray × ByteArray)) (it : It) : List (ByteArray × ByteArray) := if it.kind = 2 ∧ inM acc it.path = false then acc ++ [(it.path, it.data)] else acc
/-- the files of items: paths, and what they have -/
def filesM (its : List It) : List (ByteArray × ByteArray) := its.foldl stepF []
theorem filesM_take {its : List It} {k : Nat} {it : It} (h : its[k]? = some it) : filesM (its.take (k + 1)) = stepF (filesM (its.take k)) it := by
  obtain ⟨hk, rfl⟩ := List.getElem?_eq_some_iff.1 h
  rw [List.take_succ_eq_append_getElem hk]
  unfold filesM
  rw [List.foldl_append]
  rfl
theorem stepF_nodup {acc : List (ByteArray × ByteArray)} (h : (acc.map Prod.fst).Nodup) (it : It) : ((stepF acc it).map Prod.fst).Nodup := by
  unfold stepF
  split
  · rename_i hc
    rw [List.map_append, List.nodup_append]
    refine ⟨h, by simp, fun a ha b hb => ?_⟩
    simp at hb
    subst hb
    rintro rfl
    rw [inM_iff.2 ha] at hc
    exact absurd hc.2 (by simp)
  · exact h
theorem filesM_nodup (its : List It) : ((filesM its).map Prod.fst).Nodup := by
  unfold filesM
  suffices h : ∀ (l : List It) (acc : List (ByteArray × ByteArray)), (acc.map Prod.fst).Nodup → ((l.foldl stepF acc).map Prod.fst).Nodup from h its [] (by simp)
  intro l
  induction l with
  | nil => intro acc h; exact h
  | cons it l ih => intro acc h; exact ih _ (stepF_nodup h it)

/-- the map of known paths -/
def Known (acc : List (ByteArray × ByteArray)) (D : DataW Unit) : Prop := ∀ s, D.atKey (keyS s) (.lit (.bool false)) = .lit (.bool (inM acc s))
theorem Known.nil : Known [] (.map []) := fun s => by simp [DataW.atKey, inM]
theorem Known.put {acc : List (ByteArray × ByteArray)} {D : DataW Unit} (h : Known acc D) (hD : Maps.IsMap D) (p d : ByteArray) : Known (acc ++ [(p, d)]) (D.put (keyS p) (.lit (.bool true))) := fun s => by
  rw [inM_snoc]
  by_cases e : s = p
  · subst e; rw [Maps.atKey_put_same hD (keyS_lit _)]; simp
  · rw [Maps.atKey_put_other (fun e' => e (keyS_inj e')), h s, show decide (p = s) = false from by simp; exact fun e' => e e'.symm, Bool.or_false]
theorem zero4 (w : World) : (zeroValue 4).run Try.prog w = .ok (.bool false) w := by kernel_rfl
set_option maxRecDepth 10000 in
theorem lookup_known {w : World} {b n : Nat} {D : DataW Unit} {acc : List (ByteArray × ByteArray)} (hown : w.ownsMap Try.prog 9 (plainElem Try.prog 4) b n D) (hK : Known acc D) (s : ByteArray) (hs : s.size ≤ maxLen) :
    (Instr.lookup 74 (.map (some b)) (.string s) false).run Try.prog w = .ok (.bool (inM acc s)) w := by
  have hkey : keyOf Try.prog 9 (.string s) = some (keyS s) := keyOf_string_mk Try.underlying9 hs
  obtain ⟨v, ps, hrun, hv⟩ := hown.lookup law9 Try.underlying74 (zero4 w) (plainElem_bool Try.underlying4 false) hkey
  rw [hK s] at hv
  have : v = .bool (inM acc s) := by
    unfold plainElem at hv
    rw [Try.underlying4] at hv
    cases v <;> simp at hv
    rw [hv.1]
  rw [hrun, this]

theorem Strs.kept {w w' : World} {A : Option Addr} {ss : List ByteArray} {row : Option Nat} (h : Strs w w.heap.size A ss) (hg : w.grownBy w' row) (hne : ss ≠ [] → ∀ a, A = some a → row ≠ some a.block) : Strs w' w'.heap.size A ss := fun hn => by
  obtain ⟨a, e, hb, hc⟩ := h hn
  exact ⟨a, e, Nat.lt_of_lt_of_le hb hg.size, fun j s hj => (World.cell?_of_block (hg.block (a.add j).block (by rw [add_block]; exact hb) (by rw [add_block]; exact fun e' => hne hn a e e'.symm))).trans (hc j s hj)⟩
/-- a list of files that the call is making behind w0 -/
structure Fls (w0 w : World) (v : Value) (L : List FM) : Prop where
  row : w.ownsRow w0.heap.size 76 2 v L.length (L.flatMap FM.cells)
  lines : ∀ x ∈ L, Strs w w.heap.size x.A x.lines
  apart : ∀ x ∈ L, x.lines ≠ [] → ∀ a, x.A = some a → v.ownBlock ≠ some a.block
  below : Below w0.heap.size w0 w
theorem Fls.up {w0 w w' : World} {v : Value} {L : List FM} (h : Fls w0 w v L) (hb : Below w.heap.size w w') : Fls w0 w' v L :=
  ⟨World.ownsRow.kept h.row (grown_of_below hb none) (by cases v.ownBlock <;> simp), fun x hx => ((h.lines x hx).below hb).more hb.size, h.apart, h.below.trans (hb.mono h.below.size)⟩
theorem info76 : (Try.prog.info? 76).map (fun i => (i.zero, i.size, i.bytes)) = some (some (.agg #[.string ⟨#[]⟩, .slice none 0 0]), 2, 40) := by kernel_rfl
theorem flat_snoc (L : List FM) (m : FM) : (L ++ [m]).flatMap FM.cells = L.flatMap FM.cells ++ m.cells := by simp
theorem flat_one (L : List FM) : ∀ u ∈ L.flatMap FM.cells, u.oneCell' = true := fun u hu => by
  obtain ⟨x, _, hx⟩ := List.mem_flatMap.1 hu
  exact files_one x u hx
/-- one file more -/
theorem Fls.push {w0 W : World} {v : Value} {L : List FM} (h : Fls w0 W v L) (m : FM) (hm : Strs W W.heap.size m.A m.lines) (hap : m.lines ≠ [] → ∀ a, m.A = some a → v.ownBlock ≠ some a.block) (l : Nat) (hl : L.length + 1 = l) (hL : l ≤ 65536) :
    ∃ A' c' W', (Builtin.append_ #[50, 50] 50 #[v, .slice (some ⟨W.heap.size, 0, none⟩) 1 1]).run Try.prog (W.alloc (.cells #[.string m.path, .slice m.A m.lines.length m.c] 76)) = .ok (.slice A' l c') W' ∧ Fls w0 W' (.slice A' l c') (L ++ [m]) ∧ W.grownBy W' v.ownBlock := by
  subst hl
  obtain ⟨i0, hi, hz0, hz1, hz2⟩ := info_parts info76
  have hal : Below W.heap.size W (W.alloc (.cells #[.string m.path, .slice m.A m.lines.length m.c] 76)) := (Below.refl _ _).alloc (Nat.le_refl _) _
  have h2 := h.up hal
  have hm2 : Strs (W.alloc (.cells #[.string m.path, .slice m.A m.lines.length m.c] 76)) (W.alloc (.cells #[.string m.path, .slice m.A m.lines.length m.c] 76)).heap.size m.A m.lines := (hm.below hal).more hal.size
  have hnew := Blk.new W 76 #[.string m.path, .slice m.A m.lines.length m.c]
  obtain ⟨v', W', hrun, hown, hg, _, hat⟩ := run_append_own_at (P := Try.prog) (W.alloc (.cells #[.string m.path, .slice m.A m.lines.length m.c] 76)) w0.heap.size 50 50 76 i0 _ 2 40 Try.underlying50 hi hz0 hz1 hz2 rfl (by decide) v L.length (L.flatMap FM.cells) h2.row
    ⟨W.heap.size, 0, none⟩ 1 1 m.cells rfl (by
      intro j u hu
      rw [add_zero_block, hnew.cell j]
      simpa [FM.cells] using hu) (files_one m) (by unfold maxLen; omega) (by omega) h2.below.size
  have hsh : ∃ A' c', v' = .slice A' (L.length + 1) c' := by
    obtain ⟨g, cap, e, _⟩ := hown.form (by omega)
    exact ⟨_, _, e⟩
  obtain ⟨A', c', rfl⟩ := hsh
  have hlin : ∀ x ∈ L ++ [m], x.lines ≠ [] → ∀ a, x.A = some a → v.ownBlock ≠ some a.block := fun x hx hne a ha => by
    rcases List.mem_append.1 hx with e | e
    · exact h.apart x e hne a ha
    · simp at e; subst e; exact hap hne a ha
  have hstr : ∀ x ∈ L ++ [m], Strs W W.heap.size x.A x.lines := fun x hx => by
    rcases List.mem_append.1 hx with e | e
    · exact h.lines x e
    · simp at e; subst e; exact hm
  have hg0 : W.grownBy W' v.ownBlock := ⟨hg.os, hg.tape, hg.output, by have := hg.size; simp at this; omega, fun i hi hne => (hg.block i (by simp; omega) hne).trans (Below.heap_alloc W _ i hi)⟩
  refine ⟨A', c', W', hrun, ⟨?_, fun x hx => Strs.kept (hstr x hx) hg0 (hlin x hx), fun x hx hne a ha => ?_, h2.below.grown hg h2.below.size (fun k hk => (h2.row.lt k hk).1)⟩, hg0⟩
  · rw [flat_snoc, List.length_append]; exact hown
  · rcases hat with e | e
    · rw [e]; exact hlin x hx hne a ha
    · rw [e]
      obtain ⟨a', e', hb, _⟩ := hstr x hx hne
      rw [ha] at e'
      injection e' with e'
      subst e'
      intro e2
      injection e2 with e2
      simp at e2
      omega

/-- a list of files that is read -/
structure FilesAt (w : World) (A : Option Addr) (L : List FM) : Prop where
  cells : L ≠ [] → ∃ a, A = some a ∧ a.block < w.heap.size ∧ ∀ k x, L[k]? = some x → w.cell? (a.add (k * 2)) = some (.string x.path) ∧ w.cell? ⟨(a.add (k * 2)).block, (a.add (k * 2)).off + 1, none⟩ = some (.slice x.A x.lines.length x.c)
  lines : ∀ x ∈ L, Strs w w.heap.size x.A x.lines
theorem FilesAt.up {w w' : World} {A : Option Addr} {L : List FM} (h : FilesAt w A L) (hb : Below w.heap.size w w') : FilesAt w' A L :=
  ⟨fun hn => by
    obtain ⟨a, e, hl, hc⟩ := h.cells hn
    refine ⟨a, e, Nat.lt_of_lt_of_le hl hb.size, fun k it hk => ?_⟩
    obtain ⟨c0, c1⟩ := hc k it hk
    have hlt : (a.add (k * 2)).block < w.heap.size := by rw [add_block]; exact hl
    exact ⟨(hb.cell hlt).trans c0, (hb.cell (p := ⟨_, _, none⟩) hlt).trans c1⟩, fun x hx => ((h.lines x hx).below hb).more hb.size⟩
theorem files_at {L : List FM} : ∀ {k : Nat} {x : FM}, L[k]? = some x → (L.flatMap FM.cells)[k * 2]? = some (.string x.path) ∧ (L.flatMap FM.cells)[k * 2 + 1]? = some (.slice x.A x.lines.length x.c) := by
  induction L with
  | nil => intro k x h; simp at h
  | cons y L ih =>
    intro k x h
    have e : (y :: L).flatMap FM.cells = y.cells ++ L.flatMap FM.cells := by simp
    have hl : y.cells.length = 2 := rfl
    rw [e]
    cases k with
    | zero => simp at h; subst h; simp [FM.cells]
    | succ k =>
      obtain ⟨h1, h2⟩ := ih (k := k) (by simpa using h)
      refine ⟨?_, ?_⟩
      · rw [List.getElem?_append_right (by omega), hl, show (k + 1) * 2 - 2 = k * 2 from by omega]; exact h1
      · rw [List.getElem?_append_right (by omega), hl, show (k + 1) * 2 + 1 - 2 = k * 2 + 1 from by omega]; exact h2
theorem FilesAt.of_own {w : World} {base n c : Nat} {A : Option Addr} {L : List FM} (h : w.ownsRow base 76 2 (.slice A n c) n (L.flatMap FM.cells)) (hn : L.length = n) (hs : ∀ x ∈ L, Strs w w.heap.size x.A x.lines) : FilesAt w A L :=
  ⟨fun hne => by
    obtain ⟨g, cap, hv, _, hlt⟩ := h.form (by rw [← hn]; exact List.length_pos_iff.2 hne)
    have hA : A = some ⟨g, 0, none⟩ := by injection hv
    subst hA
    refine ⟨_, rfl, hlt, fun k x hk => ?_⟩
    obtain ⟨h1, h2⟩ := files_at hk
    rw [field_at _ _ 1 (by decide)]
    exact ⟨h.cells (g := g) rfl _ _ h1, h.cells (g := g) rfl _ _ h2⟩, hs⟩

end Go.Proofs.Ytdnckhagknlfhaa
