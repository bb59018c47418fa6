/-
  Fills in memory: a slice of structs each of which has a slice of its own. No walk.
-/
import Derived.Test.YtllkegonhghkcaaFill
import Derived.Test.YtllkegonhghkcaaFm
import Derived.Test.YtllkegonhghkcaaProg
namespace Go.Proofs.Ytllkegonhghkcaa
open Go.RowKit P15

theorem zero3 (w : World) : (zeroValue 3).run Try.prog w = .ok (.int .i64 0) w := by kernel_rfl
def I64 (n : Int) : Prop := -9223372036854775808 ≤ n ∧ n ≤ 9223372036854775807
theorem small_i64 {k : Nat} (h : k ≤ 1000) : I64 (k : Int) := ⟨by omega, by omega⟩
/-- numbers -/
def icells (n : Int) : List Value := [.int .i64 n]
theorem i_len : ∀ n : Int, (icells n).length = 1 := fun _ => rfl
theorem i_one : ∀ n : Int, ∀ v ∈ icells n, v.oneCell' = true := fun n v hv => by
  simp [icells] at hv; subst hv; rfl
abbrev IntsAt (w : World) (A : Option Addr) (L : List Int) : Prop := RowAt icells 1 w A L
theorem infoI : (Try.prog.info? 3).map (fun i => (i.zero, i.size, i.bytes)) = some (some (.int .i64 0), 1, 8) := by kernel_rfl
theorem ints_cell {w : World} {A : Option Addr} {L : List Int} (h : IntsAt w A L) {k : Nat} {n : Int} (hk : L[k]? = some n) : ∃ a, A = some a ∧ a.block < w.heap.size ∧ w.cell? (a.add k) = some (.int .i64 n) := by
  obtain ⟨a, e, hb, hc⟩ := h.at_ hk
  have := hc 0 _ rfl
  rw [Nat.mul_one, Nat.add_zero] at this
  exact ⟨a, e, hb, this⟩
/-- a fill as it lies in memory -/
structure Fw where
  left : ByteArray
  right : ByteArray
  by_ : Int
  wait : List Int
  adr : Option Addr
  cap : Nat
def Fw.fl (x : Fw) : Fl := ⟨x.left, x.right, x.by_, x.wait⟩
def Fw.cells (x : Fw) : List Value := [.string x.left, .string x.right, .int .i64 x.by_, .slice x.adr x.wait.length x.cap]
theorem fw_len : ∀ x : Fw, x.cells.length = 4 := fun _ => rfl
theorem fw_one : ∀ x : Fw, ∀ v ∈ x.cells, v.oneCell' = true := fun x v hv => by
  simp [Fw.cells] at hv; rcases hv with rfl | rfl | rfl | rfl <;> rfl
theorem infoF : (Try.prog.info? 28).map (fun i => (i.zero, i.size, i.bytes)) = some (some (.agg #[.string ⟨#[]⟩, .string ⟨#[]⟩, .int .i64 0, .slice none 0 0]), 4, 64) := by kernel_rfl
/-- who waits for it -/
structure WaitAt (w : World) (x : Fw) : Prop where
  ints : IntsAt w x.adr x.wait
  cap : x.wait.length ≤ x.cap
theorem WaitAt.up {w w' : World} {x : Fw} (h : WaitAt w x) (hb : Below w.heap.size w w') : WaitAt w' x := ⟨h.ints.up hb, h.cap⟩
/-- fills that lie in memory -/
def FillsAt (w : World) (A : Option Addr) (L : List Fl) : Prop := ∃ R : List Fw, R.map Fw.fl = L ∧ RowAt Fw.cells 4 w A R ∧ ∀ x ∈ R, WaitAt w x
theorem FillsAt.nil {w : World} {A : Option Addr} : FillsAt w A [] := ⟨[], rfl, RowAt.nil, fun x hx => by cases hx⟩
theorem FillsAt.up {w w' : World} {A : Option Addr} {L : List Fl} (h : FillsAt w A L) (hb : Below w.heap.size w w') : FillsAt w' A L := by
  obtain ⟨R, h1, h2, h3⟩ := h
  exact ⟨R, h1, h2.up hb, fun x hx => (h3 x hx).up hb⟩
theorem FillsAt.at_ {w : World} {A : Option Addr} {L : List Fl} (h : FillsAt w A L) {k : Nat} {x : Fl} (hk : L[k]? = some x) :
    ∃ a B c, A = some a ∧ a.block < w.heap.size ∧ w.cell? (a.add (k * 4)) = some (.string x.left) ∧ w.cell? ⟨(a.add (k * 4)).block, (a.add (k * 4)).off + 1, none⟩ = some (.string x.right) ∧ w.cell? ⟨(a.add (k * 4)).block, (a.add (k * 4)).off + 2, none⟩ = some (.int .i64 x.by_) ∧
      w.cell? ⟨(a.add (k * 4)).block, (a.add (k * 4)).off + 3, none⟩ = some (.slice B x.wait.length c) ∧ IntsAt w B x.wait ∧ x.wait.length ≤ c := by
  obtain ⟨R, rfl, h2, h3⟩ := h
  rw [List.getElem?_map] at hk
  cases hr : R[k]? with
  | none => rw [hr] at hk; cases hk
  | some y =>
    rw [hr] at hk
    injection hk with hk
    subst hk
    obtain ⟨a, e, hb, hc⟩ := h2.at_ hr
    have hw := h3 y (List.mem_of_getElem? hr)
    refine ⟨a, y.adr, y.cap, e, hb, hc 0 _ rfl, ?_, ?_, ?_, hw.ints, hw.cap⟩
    · rw [field_at _ _ 1 (by decide)]; exact hc 1 _ rfl
    · rw [field_at _ _ 2 (by decide)]; exact hc 2 _ rfl
    · rw [field_at _ _ 3 (by decide)]; exact hc 3 _ rfl
theorem FillsAt.take {w : World} {A : Option Addr} {L : List Fl} (h : FillsAt w A L) (k : Nat) : FillsAt w A (L.take k) := by
  obtain ⟨R, rfl, h2, h3⟩ := h
  exact ⟨R.take k, by rw [List.map_take], h2.take k, fun x hx => h3 x (List.mem_of_mem_take hx)⟩
theorem FillsAt.drop {w : World} {A : Option Addr} {L : List Fl} (h : FillsAt w A L) (k c : Nat) (hk : k ≤ L.length) (hc : L.length ≤ c) : FillsAt w (if c = k then A else A.map (·.add (k * 4))) (L.drop k) := by
  obtain ⟨R, rfl, h2, h3⟩ := h
  rw [List.length_map] at hk hc
  exact ⟨R.drop k, by rw [List.map_drop], h2.drop k c hk hc, fun x hx => h3 x (List.mem_of_mem_drop hx)⟩
/-- numbers and texts of fills are such as there are, and there are not too many -/
structure FitF (L : List Fl) : Prop where
  len : L.length ≤ 1000
  each : ∀ x ∈ L, x.wait.length ≤ 1000 ∧ x.left.size ≤ 140737488351232 ∧ x.right.size ≤ 140737488351232
  nums : ∀ n ∈ P15.nums L, I64 n
theorem FitF.sub {L M : List Fl} (h : FitF L) (hl : M.length ≤ L.length) (hm : ∀ x ∈ M, x ∈ L) : FitF M :=
  ⟨Nat.le_trans hl h.len, fun x hx => h.each x (hm x hx), fun n hn => by
    obtain ⟨x, hx, hn⟩ := mem_nums.1 hn
    exact h.nums n (mem_nums.2 ⟨x, hm x hx, hn⟩)⟩
/-- fills that a call has made, each with a list of its own -/
structure IntsT (w : World) (x : Fw) : Prop where
  own : x.wait ≠ [] → ∃ (g : Nat) (cs : Array Value), x.adr = some ⟨g, 0, none⟩ ∧ Blk w g 3 cs ∧ ∀ (i : Nat) (n : Int), x.wait[i]? = some n → cs[i]? = some (.int .i64 n)
  cap : x.wait.length ≤ x.cap
theorem IntsT.at_ {w : World} {x : Fw} (h : IntsT w x) : WaitAt w x := by
  refine ⟨fun hn => ?_, h.cap⟩
  obtain ⟨g, cs, e, hb, hc⟩ := h.own hn
  refine ⟨_, e, hb.lt, fun k n hk j u hu => ?_⟩
  have hj : j = 0 := by have := (List.getElem?_eq_some_iff.1 hu).1; simp [icells] at this; exact this
  subst hj
  have : u = .int .i64 n := by simpa [icells] using hu.symm
  subst this
  rw [add_zero_block, Nat.mul_one, Nat.add_zero]
  exact (hb.cell _).trans (hc k n hk)
theorem IntsT.kept {w w' : World} {x : Fw} (h : IntsT w x) (hk : ∀ g cs, Blk w g 3 cs → Blk w' g 3 cs) : IntsT w' x := by
  refine ⟨fun hn => ?_, h.cap⟩
  obtain ⟨g, cs, e, hb, hc⟩ := h.own hn
  exact ⟨g, cs, e, hk g cs hb, hc⟩
abbrev OwnI (w0 w : World) (v : Value) (L : List Int) : Prop := OwnR icells 1 3 w0 w v L
theorem IntsT.of_own {w0 w : World} {A : Option Addr} {n c : Nat} {x : Fw} (h : OwnI w0 w (.slice A n c) x.wait) (ha : x.adr = A) (hc : x.cap = c) : IntsT w x := by
  subst ha hc
  refine ⟨fun hn => ?_, (OwnR.cap h).1⟩
  obtain ⟨g, cs, e, hb, _, hf, _⟩ := OwnR.filled i_len h (List.length_pos_iff.2 hn)
  refine ⟨g, cs, e, hb, fun i n hi => ?_⟩
  have := hf i n (List.getElem?_eq_some_iff.1 hi).1 hi 0 _ rfl
  rwa [Nat.mul_one, Nat.add_zero] at this
/-- the block of a list of one's own has the type of its things -/
theorem OwnR.typed {α : Type} {f : α → List Value} {n : Nat} {t : TypeId} {w0 w : World} {v : Value} {L : List α} (h : OwnR f n t w0 w v L) {g : Nat} (hg : v.ownBlock = some g) : w0.heap.size ≤ g ∧ ∃ cs, Blk w g t cs := by
  rcases h.1.2 with ⟨rfl, _⟩ | ⟨g', cap, cur, rfl, hb, hh, _⟩
  · cases hg
  · have : g' = g := by simpa [Value.ownBlock] using hg
    subst this
    exact ⟨hb, cur, hh⟩
theorem blk_ne {w : World} {g k : Nat} {t s : TypeId} {cs ds : Array Value} (h : Blk w g t cs) (h' : Blk w k s ds) (hn : t ≠ s) : g ≠ k := by
  rintro rfl
  unfold Blk at h h'
  rw [h] at h'
  injection h' with h'
  injection h' with _ h'
  exact hn h'
/-- a list of one's own stays one while its block does -/
theorem OwnR.keep {α : Type} {f : α → List Value} {n : Nat} {t : TypeId} {w0 w w' : World} {v : Value} {L : List α} (h : OwnR f n t w0 w v L) (hk : ∀ g cs, Blk w g t cs → Blk w' g t cs) (hb : Below w0.heap.size w0 w') : OwnR f n t w0 w' v L := by
  refine ⟨⟨h.1.1, ?_⟩, hb⟩
  rcases h.1.2 with h1 | ⟨g, cap, cur, h1, h2, h3, h4⟩
  · exact .inl h1
  · exact .inr ⟨g, cap, cur, h1, h2, hk g cur h3, h4⟩
/-- fills that a call makes -/
structure OwnF (w0 w : World) (v : Value) (L : List Fl) (R : List Fw) : Prop where
  row : OwnR Fw.cells 4 28 w0 w v R
  waits : ∀ x ∈ R, IntsT w x
  fls : R.map Fw.fl = L
  new : ∀ x ∈ R, x.wait ≠ [] → ∀ b, x.adr = some b → w0.heap.size ≤ b.block
theorem own_new {w0 w : World} {A : Option Addr} {n c : Nat} {L : List Int} (h : OwnI w0 w (.slice A n c) L) (hL : L ≠ []) (b : Addr) (hb : A = some b) : w0.heap.size ≤ b.block := by
  obtain ⟨g, cs, e, _, _, _, hg, _⟩ := OwnR.filled i_len h (List.length_pos_iff.2 hL)
  rw [hb] at e
  injection e with e
  rw [e]; exact hg
/-- fills none of which lies below B -/
def FillsNew (B : Nat) (w : World) (A : Option Addr) (L : List Fl) : Prop :=
  ∃ R : List Fw, R.map Fw.fl = L ∧ RowAt Fw.cells 4 w A R ∧ (∀ x ∈ R, WaitAt w x) ∧ (R ≠ [] → ∀ a, A = some a → B ≤ a.block) ∧ ∀ x ∈ R, x.wait ≠ [] → ∀ b, x.adr = some b → B ≤ b.block
theorem FillsNew.at_ {B : Nat} {w : World} {A : Option Addr} {L : List Fl} (h : FillsNew B w A L) : FillsAt w A L := by
  obtain ⟨R, h1, h2, h3, _⟩ := h
  exact ⟨R, h1, h2, h3⟩
theorem FillsNew.nil {B : Nat} {w : World} {A : Option Addr} : FillsNew B w A [] := ⟨[], rfl, RowAt.nil, fun x hx => (by cases hx), fun h => absurd rfl h, fun x hx => (by cases hx)⟩
theorem FillsNew.less {B B' : Nat} {w : World} {A : Option Addr} {L : List Fl} (h : FillsNew B w A L) (hb : B' ≤ B) : FillsNew B' w A L := by
  obtain ⟨R, h1, h2, h3, h4, h5⟩ := h
  exact ⟨R, h1, h2, h3, fun hr a e => Nat.le_trans hb (h4 hr a e), fun x hx hw b e => Nat.le_trans hb (h5 x hx hw b e)⟩
theorem row_kept {α : Type} {f : α → List Value} {n : Nat} {w w' : World} {A : Option Addr} {L : List α} (h : RowAt f n w A L) (hs : w.heap.size ≤ w'.heap.size) (hk : L ≠ [] → ∀ a, A = some a → w'.heap[a.block]? = w.heap[a.block]?) : RowAt f n w' A L := fun hn => by
  obtain ⟨a, e, hl, hc⟩ := h hn
  refine ⟨a, e, Nat.lt_of_lt_of_le hl hs, fun k x hx j u hu => ?_⟩
  rw [← hc k x hx j u hu]
  exact World.cell?_of_block (by rw [add_block]; exact hk hn a e)
theorem FillsNew.kept {B : Nat} {w w' : World} {A : Option Addr} {L : List Fl} (h : FillsNew B w A L) (hs : w.heap.size ≤ w'.heap.size) (hk : ∀ i, B ≤ i → i < w.heap.size → w'.heap[i]? = w.heap[i]?) : FillsNew B w' A L := by
  obtain ⟨R, h1, h2, h3, h4, h5⟩ := h
  refine ⟨R, h1, row_kept h2 hs fun hr a e => ?_, fun x hx => ⟨row_kept (h3 x hx).ints hs fun hr a e => ?_, (h3 x hx).cap⟩, h4, h5⟩
  · obtain ⟨a', e', hl, _⟩ := h2 hr
    rw [e] at e'; injection e' with e'; subst e'
    exact hk _ (h4 hr a e) hl
  · obtain ⟨a', e', hl, _⟩ := (h3 x hx).ints hr
    rw [e] at e'; injection e' with e'; subst e'
    exact hk _ (h5 x hx hr a e) hl
theorem FillsNew.up {B : Nat} {w w' : World} {A : Option Addr} {L : List Fl} (h : FillsNew B w A L) (hb : Below w.heap.size w w') : FillsNew B w' A L := h.kept hb.size fun i _ hi => hb.block i hi
theorem OwnF.len {w0 w : World} {v : Value} {L : List Fl} {R : List Fw} (h : OwnF w0 w v L R) : R.length = L.length := by rw [← h.fls, List.length_map]
theorem OwnF.slice {w0 w : World} {v : Value} {L : List Fl} {R : List Fw} (h : OwnF w0 w v L R) : ∃ A c, v = .slice A L.length c := by rw [← h.len]; exact h.row.slice
theorem OwnF.at_ {w0 w : World} {A : Option Addr} {n c : Nat} {L : List Fl} {R : List Fw} (h : OwnF w0 w (.slice A n c) L R) : FillsAt w A L := by
  have hs := h.row.slice
  obtain ⟨A', c', e⟩ := hs
  injection e with _ e2 _
  exact ⟨R, h.fls, OwnR.at_ fw_len h.row e2.symm, fun x hx => (h.waits x hx).at_⟩
theorem OwnF.keep {w0 w w' : World} {v : Value} {L : List Fl} {R : List Fw} (h : OwnF w0 w v L R) (hi : ∀ g cs, Blk w g 3 cs → Blk w' g 3 cs) (hf : ∀ g cs, Blk w g 28 cs → Blk w' g 28 cs) (hb : Below w0.heap.size w0 w') : OwnF w0 w' v L R :=
  ⟨h.row.keep hf hb, fun x hx => (h.waits x hx).kept hi, h.fls, h.new⟩
theorem OwnF.up {w0 w w' : World} {v : Value} {L : List Fl} {R : List Fw} (h : OwnF w0 w v L R) (hb : Below w.heap.size w w') : OwnF w0 w' v L R :=
  h.keep (fun _ _ hg => Blk.below hg hb hg.lt) (fun _ _ hg => Blk.below hg hb hg.lt) (h.row.2.trans (hb.mono h.row.2.size))
theorem OwnF.fresh {w0 w : World} {A : Option Addr} {n c : Nat} {L : List Fl} {R : List Fw} (h : OwnF w0 w (.slice A n c) L R) : FillsNew w0.heap.size w A L := by
  obtain ⟨A', c', e⟩ := h.row.slice
  injection e with _ e2 _
  refine ⟨R, h.fls, OwnR.at_ fw_len h.row e2.symm, fun x hx => (h.waits x hx).at_, fun hr a ea => ?_, h.new⟩
  obtain ⟨g, cs, e, _, _, _, hg, _⟩ := OwnR.filled fw_len h.row (List.length_pos_iff.2 hr)
  rw [ea] at e
  injection e with e
  rw [e]; exact hg
/-- one more -/
theorem OwnF.push {w0 W : World} {v : Value} {L : List Fl} {R : List Fw} (h : OwnF w0 W v L R) (x : Fw) (hx : IntsT W x) (hnew : x.wait ≠ [] → ∀ b, x.adr = some b → w0.heap.size ≤ b.block) (y : Fl) (hy : x.fl = y) (m : Nat) (hm : L.length + 1 = m) (hL : m ≤ 1048576) :
    ∃ A' c' W', (Builtin.append_ #[22, 22] 22 #[v, .slice (some ⟨W.heap.size, 0, none⟩) 1 1]).run Try.prog (W.alloc (.cells #[.string x.left, .string x.right, .int .i64 x.by_, .slice x.adr x.wait.length x.cap] 28)) = .ok (.slice A' m c') W' ∧ OwnF w0 W' (.slice A' m c') (L ++ [y]) (R ++ [x]) ∧ W.grownBy W' v.ownBlock := by
  subst hy hm
  obtain ⟨A', c', W', hr, ho, hg⟩ := OwnR.push fw_len fw_one (by decide) infoF (by rfl) Try.underlying22 (by decide) h.row x (L.length + 1) (by rw [h.len]) (by omega)
  have hk : ∀ g cs, Blk W g 3 cs → Blk W' g 3 cs := fun g cs hb => Blk.grown hb hg fun e => by
    obtain ⟨_, ds, hd⟩ := OwnR.typed h.row e.symm
    exact blk_ne hb hd (by decide) rfl
  refine ⟨A', c', W', hr, ⟨ho, ?_, by rw [List.map_append, h.fls]; rfl, fun z hz => ?_⟩, hg⟩
  · intro z hz
    rcases List.mem_append.1 hz with hz | hz
    · exact (h.waits z hz).kept hk
    · rw [List.mem_singleton.1 hz]; exact hx.kept hk
  · rcases List.mem_append.1 hz with hz | hz
    · exact h.new z hz
    · rw [List.mem_singleton.1 hz]; exact hnew

end Go.Proofs.Ytllkegonhghkcaa
