/-
  Package flight: look: what each number is about, and whether fills are right. Nothing that was there is changed.
-/
import Derived.Test.YtllkegonhghkcaaNot
namespace Go.Proofs.Ytllkegonhghkcaa
open Go.RowKit Go.Maps P15

/-! ### what numbers are about -/
def seat (x : Fl) : List (Int × Int) := (x.by_, 1) :: x.wait.map fun n => (n, 2)
def seats (L : List Fl) : List (Int × Int) := L.flatMap seat
theorem seat_fst (x : Fl) : (seat x).map Prod.fst = x.nums := by
  unfold seat Fl.nums
  rw [List.map_cons, List.map_map]
  congr 1
  exact (List.map_congr_left (g := id) fun _ _ => rfl).trans (List.map_id _)
theorem seats_fst (L : List Fl) : (seats L).map Prod.fst = nums L := by
  induction L with
  | nil => rfl
  | cons x L ih => show (seat x ++ seats L).map Prod.fst = x.nums ++ nums L; rw [List.map_append, seat_fst, ih]
theorem seats_append (L M : List Fl) : seats (L ++ M) = seats L ++ seats M := by unfold seats; rw [List.flatMap_append]
theorem seats_pos {L : List Fl} {p : Int × Int} (h : p ∈ seats L) : p.2 ≠ 0 := by
  obtain ⟨x, _, hp⟩ := List.mem_flatMap.1 h
  rcases List.mem_cons.1 hp with rfl | hp
  · show (1 : Int) ≠ 0; decide
  · obtain ⟨n, _, rfl⟩ := List.mem_map.1 hp; show (2 : Int) ≠ 0; decide
theorem abt_out {S : List (Int × Int)} {n a : Int} (h : n ∉ S.map Prod.fst) : S.foldl (fun a p => if p.1 = n then p.2 else a) a = a := by
  induction S generalizing a with
  | nil => rfl
  | cons p S ih =>
    rw [List.map_cons, List.mem_cons] at h
    rw [List.foldl_cons, if_neg (fun e => h (.inl e.symm))]
    exact ih fun h' => h (.inr h')
theorem abt_in {S : List (Int × Int)} {n a : Int} (hp : ∀ p ∈ S, p.2 ≠ 0) (h : n ∈ S.map Prod.fst) : S.foldl (fun a p => if p.1 = n then p.2 else a) a ≠ 0 := by
  induction S generalizing a with
  | nil => cases h
  | cons p S ih =>
    rw [List.foldl_cons]
    by_cases h' : n ∈ S.map Prod.fst
    · exact ih (fun q hq => hp q (by simp [hq])) h'
    · rw [abt_out h']
      rcases List.mem_cons.1 h with e | e
      · rw [if_pos e.symm]; exact hp p (by simp)
      · exact absurd e h'
theorem abt_at {S : List (Int × Int)} {n v a : Int} (hd : (S.map Prod.fst).Nodup) (h : (n, v) ∈ S) : S.foldl (fun a p => if p.1 = n then p.2 else a) a = v := by
  induction S generalizing a with
  | nil => cases h
  | cons p S ih =>
    rw [List.map_cons, List.nodup_cons] at hd
    rw [List.foldl_cons]
    rcases List.mem_cons.1 h with e | e
    · subst e
      rw [if_pos rfl, abt_out hd.1]
    · exact ih hd.2 e
theorem abt_zero {L : List Fl} {n : Int} : abt (seats L) n = 0 ↔ n ∉ nums L := by
  rw [← seats_fst]
  constructor
  · intro h hm
    exact abt_in (fun p hp => seats_pos hp) hm h
  · exact fun h => abt_out h
theorem mem_seats1 {L : List Fl} {n : Int} (h : n ∈ bys L) : (n, 1) ∈ seats L := by
  obtain ⟨x, hx, rfl⟩ := mem_bys.1 h
  exact List.mem_flatMap.2 ⟨x, hx, List.mem_cons_self ..⟩
theorem mem_seats2 {L : List Fl} {n : Int} (h : n ∈ waits L) : (n, 2) ∈ seats L := by
  obtain ⟨x, hx, hn⟩ := mem_waits.1 h
  exact List.mem_flatMap.2 ⟨x, hx, List.mem_cons_of_mem _ (List.mem_map.2 ⟨n, hn, rfl⟩)⟩
theorem abt_one {L : List Fl} (hr : Right L) {n : Int} : abt (seats L) n = 1 ↔ n ∈ bys L := by
  have hd : ((seats L).map Prod.fst).Nodup := by rw [seats_fst]; exact hr.2
  constructor
  · intro h
    have hm : n ∈ nums L := Classical.byContradiction fun hn => by rw [abt_zero.2 hn] at h; cases h
    rcases nums_iff.1 hm with h' | h'
    · exact h'
    · have h2 : abt (seats L) n = 2 := abt_at hd (mem_seats2 h')
      rw [h2] at h; cases h
  · exact fun h => abt_at hd (mem_seats1 h)
theorem abt_two {L : List Fl} (hr : Right L) {n : Int} : abt (seats L) n = 2 ↔ n ∈ waits L := by
  have hd : ((seats L).map Prod.fst).Nodup := by rw [seats_fst]; exact hr.2
  constructor
  · intro h
    have hm : n ∈ nums L := Classical.byContradiction fun hn => by rw [abt_zero.2 hn] at h; cases h
    rcases nums_iff.1 hm with h' | h'
    · have h2 : abt (seats L) n = 1 := abt_at hd (mem_seats1 h')
      rw [h2] at h; cases h
    · exact h'
  · exact fun h => abt_at hd (mem_seats2 h)

/-! ### between two rounds -/
structure LookIn (w wr : World) (gm ga g1 g2 : Nat) (T : List (ByteArray × ByteArray)) (mb : Bool) (S : List (Int × Int)) (k n : Nat) (D D2 : DataW Unit) : Prop where
  note : NoteIn wr gm ga g1 mb S n D
  own2 : wr.ownsMap Try.prog 67 (plainElem Try.prog 4) g2 k D2
  known2 : KnownT T D2
  below : Below w.heap.size w wr
  ok : mb = true ↔ T.Nodup ∧ (S.map Prod.fst).Nodup
  pos : ∀ p ∈ S, p.2 ≠ 0
/-- where the call's own things lie -/
structure LookAt (w : World) (gm ga g1 g2 : Nat) : Prop where
  m : w.heap.size ≤ gm
  a : w.heap.size ≤ ga
  i : w.heap.size ≤ g1
  t : w.heap.size ≤ g2
  ne : g2 ≠ gm ∧ g2 ≠ g1 ∧ g2 ≠ ga ∧ g1 ≠ gm
theorem LookIn.up {w wr w' : World} {gm ga g1 g2 : Nat} {T : List (ByteArray × ByteArray)} {mb : Bool} {S : List (Int × Int)} {k n : Nat} {D D2 : DataW Unit} (h : LookIn w wr gm ga g1 g2 T mb S k n D D2) (hb : Below wr.heap.size wr w') : LookIn w w' gm ga g1 g2 T mb S k n D D2 :=
  ⟨h.note.up hb, map_only (X := fun _ => False) h.own2 (Only.of_below hb) id, h.known2, h.below.trans (hb.mono h.below.size), h.ok, h.pos⟩
/-- one number more -/
theorem LookIn.more {w wr w' : World} {gm ga g1 g2 : Nat} {T : List (ByteArray × ByteArray)} {mb : Bool} {S : List (Int × Int)} {k n : Nat} {D D2 D' : DataW Unit} (h : LookIn w wr gm ga g1 g2 T mb S k n D D2) (hg : LookAt w gm ga g1 g2) {who what : Int} (hw : what ≠ 0)
    (hn : NoteIn w' gm ga g1 (mb && decide (abt S who = 0)) (S ++ [(who, what)]) (n + 1) D') (ho : Only (fun i => i = gm ∨ i = g1) wr w') : LookIn w w' gm ga g1 g2 T (mb && decide (abt S who = 0)) (S ++ [(who, what)]) k (n + 1) D' D2 := by
  refine ⟨hn, map_only h.own2 ho (fun e => e.elim hg.ne.1 hg.ne.2.1), h.known2, ho.below h.below h.below.size (fun i hi => by rcases hi with rfl | rfl; exact hg.m; exact hg.i), ?_, fun p hp => ?_⟩
  · rw [Bool.and_eq_true, h.ok, decide_eq_true_eq, List.map_append, List.map_cons, List.map_nil]
    have hz : abt S who = 0 ↔ who ∉ S.map Prod.fst := ⟨fun e hm => abt_in h.pos hm e, fun hm => abt_out hm⟩
    rw [hz]
    constructor
    · rintro ⟨⟨h1, h2⟩, h3⟩
      exact ⟨h1, nodup_snoc h2 h3⟩
    · rintro ⟨h1, h2⟩
      have := List.nodup_append.1 h2
      exact ⟨⟨h1, this.1⟩, fun hm => this.2.2 who hm who (by simp) rfl⟩
  · rcases List.mem_append.1 hp with hp | hp
    · exact h.pos p hp
    · rw [List.mem_singleton.1 hp]; exact hw
/-- two texts more -/
theorem LookIn.texts {w wr w1 w' : World} {gm ga g1 g2 : Nat} {T : List (ByteArray × ByteArray)} {mb b : Bool} {S : List (Int × Int)} {k n : Nat} {D D2 : DataW Unit} (h : LookIn w wr gm ga g1 g2 T mb S k n D D2) (hg : LookAt w gm ga g1 g2) {p : ByteArray × ByteArray} (hp : FitK p) (hb : b = true ↔ p ∉ T)
    (h1 : w1 = wr.setCell ⟨gm, 0, none⟩ (.bool (mb && b))) (h2 : w'.ownsMap Try.prog 67 (plainElem Try.prog 4) g2 (k + 1) (D2.put (keyL p) (.lit (.bool true)))) (h3 : w1.grownBy w' (some g2)) : LookIn w w' gm ga g1 g2 (T ++ [p]) (mb && b) S (k + 1) n D (D2.put (keyL p) (.lit (.bool true))) := by
  subst h1
  have o1 : Only (fun i => i = gm ∨ i = g2) wr (wr.setCell ⟨gm, 0, none⟩ (.bool (mb && b))) := Only.set wr _ _ (.inl rfl)
  have o2 : Only (fun i => i = gm ∨ i = g2) (wr.setCell ⟨gm, 0, none⟩ (.bool (mb && b))) w' := Only.of_grown h3 fun g e => .inr (Option.some.inj e).symm
  have o := o1.trans o2
  have nga : ga ≠ gm := (blk_ne h.note.may h.note.box (by decide)).symm
  refine ⟨⟨Blk.grown (Blk.set_ h.note.may 0 _) h3 (fun e => hg.ne.1 (Option.some.inj e).symm), Blk.only h.note.box o (fun e => e.elim nga fun e => hg.ne.2.2.1 e.symm), map_only h.note.own o (fun e => e.elim hg.ne.2.2.2 fun e => hg.ne.2.1 e.symm), h.note.known⟩, h2, h.known2.put h.own2.isMap p hp,
    o.below h.below h.below.size (fun i hi => by rcases hi with rfl | rfl; exact hg.m; exact hg.t), ?_, h.pos⟩
  rw [Bool.and_eq_true, h.ok, hb]
  constructor
  · rintro ⟨⟨h1, h2⟩, h3⟩
    exact ⟨nodup_snoc h1 h3, h2⟩
  · rintro ⟨h1, h2⟩
    have := List.nodup_append.1 h1
    exact ⟨⟨this.1, h2⟩, fun hm => this.2.2 p hm p (by simp) rfl⟩
def LookTold (L : List Fl) (w : World) (e : Ending) (w' : World) : Prop :=
  ∃ (g n : Nat) (D : DataW Unit), e = .returned (.tuple #[.map (some g), .bool (rightB L)]) ∧ w'.ownsMap Try.prog 3 (plainElem Try.prog 3) g n D ∧ KnownA (seats L) D ∧ Below w.heap.size w w'

end Go.Proofs.Ytllkegonhghkcaa
