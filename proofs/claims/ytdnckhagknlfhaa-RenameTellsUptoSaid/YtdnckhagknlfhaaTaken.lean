/-
  rename.taken: for each fresh file the candidate by which it was taken. Nothing that was there is changed.
-/
import Derived.Test.YtdnckhagknlfhaaCands
import Derived.Laws.MakeOwn
import Derived.BigRegion
import Derived.Deep.DeepCutAuto
namespace Go.Proofs.Ytdnckhagknlfhaa
open Go.RowKit

/-- no candidate -/
def z0 : CM := ⟨0, 0, 0⟩
def stepT (st : List CM × List CM) (c : CM) : List CM × List CM :=
  if st.1.getD c.o.toNat z0 = z0 ∧ st.2.getD c.f.toNat z0 = z0 then (st.1.set c.o.toNat c, st.2.set c.f.toNat c) else st
/-- who was taken: by old files, and by fresh ones -/
def takenM (n1 n2 : Nat) (best : List CM) : List CM × List CM := best.foldl stepT (List.replicate n1 z0, List.replicate n2 z0)
theorem takenM_take {n1 n2 : Nat} {best : List CM} {k : Nat} {c : CM} (h : best[k]? = some c) : takenM n1 n2 (best.take (k + 1)) = stepT (takenM n1 n2 (best.take k)) c := by
  obtain ⟨hk, rfl⟩ := List.getElem?_eq_some_iff.1 h
  rw [List.take_succ_eq_append_getElem hk]
  unfold takenM
  rw [List.foldl_append]
  rfl
/-- a candidate of so many files -/
def OkC (n1 n2 : Nat) (c : CM) : Prop := 0 ≤ c.o ∧ c.o < n1 ∧ 0 ≤ c.f ∧ c.f < n2 ∧ 1 ≤ c.s
structure OkT (n1 n2 : Nat) (st : List CM × List CM) : Prop where
  l1 : st.1.length = n1
  l2 : st.2.length = n2
  o : ∀ c ∈ st.1, c = z0 ∨ OkC n1 n2 c
  f : ∀ c ∈ st.2, c = z0 ∨ OkC n1 n2 c
theorem OkT.step {n1 n2 : Nat} {st : List CM × List CM} (h : OkT n1 n2 st) {c : CM} (hc : OkC n1 n2 c) : OkT n1 n2 (stepT st c) := by
  unfold stepT
  split
  · refine ⟨by simpa using h.l1, by simpa using h.l2, fun d hd => ?_, fun d hd => ?_⟩
    · rcases List.mem_or_eq_of_mem_set hd with e | e
      · exact h.o d e
      · subst e; exact .inr hc
    · rcases List.mem_or_eq_of_mem_set hd with e | e
      · exact h.f d e
      · subst e; exact .inr hc
  · exact h
theorem takenM_ok {n1 n2 : Nat} {best : List CM} (h : ∀ c ∈ best, OkC n1 n2 c) : OkT n1 n2 (takenM n1 n2 best) := by
  unfold takenM
  suffices g : ∀ (l : List CM) (st : List CM × List CM), (∀ c ∈ l, OkC n1 n2 c) → OkT n1 n2 st → OkT n1 n2 (l.foldl stepT st) from
    g best _ h ⟨by simp, by simp, fun c hc => .inl (List.eq_of_mem_replicate hc), fun c hc => .inl (List.eq_of_mem_replicate hc)⟩
  intro l
  induction l with
  | nil => intro st _ hs; exact hs
  | cons c l ih => intro st hl hs; exact ih _ (fun d hd => hl d (List.mem_cons_of_mem _ hd)) (hs.step (hl c List.mem_cons_self))

theorem cm_at {L : List CM} : ∀ {k : Nat} {x : CM}, L[k]? = some x → (L.flatMap CM.cells)[k * 3]? = some (.int .i64 x.o) ∧ (L.flatMap CM.cells)[k * 3 + 1]? = some (.int .i64 x.f) ∧ (L.flatMap CM.cells)[k * 3 + 2]? = some (.int .i64 x.s) := by
  induction L with
  | nil => intro k x h; simp at h
  | cons y L ih =>
    intro k x h
    have e : (y :: L).flatMap CM.cells = y.cells ++ L.flatMap CM.cells := by simp
    have hl : y.cells.length = 3 := rfl
    rw [e]
    cases k with
    | zero => simp at h; subst h; simp [CM.cells]
    | succ k =>
      obtain ⟨h1, h2, h3⟩ := ih (k := k) (by simpa using h)
      refine ⟨?_, ?_, ?_⟩
      · rw [List.getElem?_append_right (by omega), hl, show (k + 1) * 3 - 3 = k * 3 from by omega]; exact h1
      · rw [List.getElem?_append_right (by omega), hl, show (k + 1) * 3 + 1 - 3 = k * 3 + 1 from by omega]; exact h2
      · rw [List.getElem?_append_right (by omega), hl, show (k + 1) * 3 + 2 - 3 = k * 3 + 2 from by omega]; exact h3
theorem cm_set {L : List CM} {i : Nat} (hi : i < L.length) (c : CM) :
    (((L.flatMap CM.cells).toArray.setIfInBounds (i * 3) (.int .i64 c.o)).setIfInBounds (i * 3 + 1) (.int .i64 c.f)).setIfInBounds (i * 3 + 2) (.int .i64 c.s) = ((L.set i c).flatMap CM.cells).toArray := by
  obtain ⟨P, x, Q, rfl, hP⟩ : ∃ P x Q, L = P ++ x :: Q ∧ P.length = i := ⟨L.take i, L[i], L.drop (i + 1), by rw [← List.drop_eq_getElem_cons hi, List.take_append_drop], by simp; omega⟩
  have hPl : (P.flatMap CM.cells).length = i * 3 := by rw [flat_len cands_len, hP]
  have e1 : (P ++ x :: Q).flatMap CM.cells = P.flatMap CM.cells ++ (.int .i64 x.o :: .int .i64 x.f :: .int .i64 x.s :: Q.flatMap CM.cells) := by simp [CM.cells]
  have e2 : ((P ++ x :: Q).set i c).flatMap CM.cells = P.flatMap CM.cells ++ (.int .i64 c.o :: .int .i64 c.f :: .int .i64 c.s :: Q.flatMap CM.cells) := by
    rw [List.set_append_right _ _ (by omega), hP, Nat.sub_self, List.set_cons_zero]
    simp [CM.cells]
  rw [e1, e2, ← hPl]
  simp only [List.setIfInBounds_toArray]
  congr 1
  rw [List.set_append_right _ _ (by omega), Nat.sub_self, List.set_cons_zero, List.set_append_right _ _ (by omega), List.set_append_right _ _ (by omega)]
  simp
/-- a block of candidates, known whole -/
def CBlk (w : World) (g : Nat) (L : List CM) : Prop := Blk w g 80 (L.flatMap CM.cells).toArray
theorem CBlk.at_ {w : World} {g : Nat} {L : List CM} (h : CBlk w g L) {k : Nat} {c : CM} (hk : L[k]? = some c) :
    w.cell? ⟨g, k * 3, none⟩ = some (.int .i64 c.o) ∧ w.cell? ⟨g, k * 3 + 1, none⟩ = some (.int .i64 c.f) ∧ w.cell? ⟨g, k * 3 + 2, none⟩ = some (.int .i64 c.s) := by
  obtain ⟨h1, h2, h3⟩ := cm_at hk
  refine ⟨?_, ?_, ?_⟩
  · rw [Blk.cell h]; simpa using h1
  · rw [Blk.cell h]; simpa using h2
  · rw [Blk.cell h]; simpa using h3
theorem CBlk.set_ {w : World} {g : Nat} {L : List CM} (h : CBlk w g L) {i : Nat} (hi : i < L.length) (c : CM) :
    CBlk (((w.setCell ⟨g, i * 3, none⟩ (.int .i64 c.o)).setCell ⟨g, i * 3 + 1, none⟩ (.int .i64 c.f)).setCell ⟨g, i * 3 + 2, none⟩ (.int .i64 c.s)) g (L.set i c) := by
  have h1 := ((Blk.set_ h (i * 3) (.int .i64 c.o)).set_ (i * 3 + 1) (.int .i64 c.f)).set_ (i * 3 + 2) (.int .i64 c.s)
  unfold CBlk
  rw [← cm_set hi c]
  exact h1
theorem made_cands (n : Nat) : madeCells #[.int .i64 0, .int .i64 0, .int .i64 0] (n * 3) = ((List.replicate n z0).flatMap CM.cells).toArray := by
  apply Array.ext
  · rw [size_madeCells]; simp [flat_len cands_len]
  · intro t h1 h2
    rw [size_madeCells] at h1
    have hlen : (List.replicate n z0).length = n := by simp
    have := Go.Proofs.Ytdnckhagknlfhaa.flat_at cands_len (by decide) (List.replicate n z0) t (by rw [hlen]; exact h1)
    have e : ((List.replicate n z0).toArray[t / 3]!) = z0 := by
      have : t / 3 < n := by omega
      simp [getElem!_pos, this]
    rw [e] at this
    rw [List.getElem?_eq_getElem (by simpa using h2)] at this
    injection this with this
    simp only [List.getElem_toArray]
    rw [this]
    simp only [madeCells, Array.getElem_map, Array.getElem_range]
    have h3 : t % 3 = 0 ∨ t % 3 = 1 ∨ t % 3 = 2 := by omega
    rcases h3 with h | h | h
    · rw [show (#[Value.int .i64 0, .int .i64 0, .int .i64 0] : Array Value).size = 3 from rfl, h]; rfl
    · rw [show (#[Value.int .i64 0, .int .i64 0, .int .i64 0] : Array Value).size = 3 from rfl, h]; rfl
    · rw [show (#[Value.int .i64 0, .int .i64 0, .int .i64 0] : Array Value).size = 3 from rfl, h]; rfl
theorem make_cands (n : Nat) (hn : n ≤ 250) (W : World) : (Instr.makeSlice 52 (.int .i64 (n : Int)) (.int .i64 (n : Int))).run Try.prog W = .ok (.slice (some ⟨W.heap.size, 0, none⟩) n n) (W.alloc (.cells ((List.replicate n z0).flatMap CM.cells).toArray 80)) := by
  obtain ⟨i0, hi, hz0, hz1, hz2⟩ := info_parts info80
  have hr := run_make (P := Try.prog) W 52 80 i0 _ Try.underlying52 hi hz0 .i64 .i64 (n : Int) (n : Int) (by omega) (Int.le_refl _) (by rw [hz2]; omega) (by omega)
  rw [hr, hz1, ← made_cands]
  simp [Value.cells]
/-- a list of candidates that is read -/
def CandsAt (w : World) (A : Option Addr) (L : List CM) : Prop :=
  L ≠ [] → ∃ a, A = some a ∧ a.block < w.heap.size ∧ ∀ k c, L[k]? = some c → w.cell? (a.add (k * 3)) = some (.int .i64 c.o) ∧ w.cell? ⟨(a.add (k * 3)).block, (a.add (k * 3)).off + 1, none⟩ = some (.int .i64 c.f) ∧ w.cell? ⟨(a.add (k * 3)).block, (a.add (k * 3)).off + 2, none⟩ = some (.int .i64 c.s)
theorem CandsAt.up {w w' : World} {A : Option Addr} {L : List CM} (h : CandsAt w A L) (hb : Below w.heap.size w w') : CandsAt w' A L := fun hn => by
  obtain ⟨a, e, hl, hc⟩ := h hn
  refine ⟨a, e, Nat.lt_of_lt_of_le hl hb.size, fun k it hk => ?_⟩
  obtain ⟨c0, c1, c2⟩ := hc k it hk
  have hlt : (a.add (k * 3)).block < w.heap.size := by rw [add_block]; exact hl
  exact ⟨(hb.cell hlt).trans c0, (hb.cell (p := ⟨_, _, none⟩) hlt).trans c1, (hb.cell (p := ⟨_, _, none⟩) hlt).trans c2⟩
theorem CandsAt.at_ {w : World} {A : Option Addr} {L : List CM} (h : CandsAt w A L) {k : Nat} {c : CM} (hk : L[k]? = some c) :
    ∃ a, A = some a ∧ a.block < w.heap.size ∧ w.cell? (a.add (k * 3)) = some (.int .i64 c.o) ∧ w.cell? ⟨(a.add (k * 3)).block, (a.add (k * 3)).off + 1, none⟩ = some (.int .i64 c.f) ∧ w.cell? ⟨(a.add (k * 3)).block, (a.add (k * 3)).off + 2, none⟩ = some (.int .i64 c.s) := by
  obtain ⟨a, e, hb, hc⟩ := h (by intro e; subst e; simp at hk)
  exact ⟨a, e, hb, hc k c hk⟩
theorem CandsAt.of_own {w : World} {base n c : Nat} {A : Option Addr} {L : List CM} (h : w.ownsRow base 80 3 (.slice A n c) n (L.flatMap CM.cells)) (hn : L.length = n) : CandsAt w A L := fun hne => by
  obtain ⟨g, cap, hv, _, hlt⟩ := h.form (by rw [← hn]; exact List.length_pos_iff.2 hne)
  have hA : A = some ⟨g, 0, none⟩ := by injection hv
  subst hA
  refine ⟨_, rfl, hlt, fun k x hk => ?_⟩
  obtain ⟨h1, h2, h3⟩ := cm_at hk
  rw [field_at _ _ 1 (by decide), field_at _ _ 2 (by decide)]
  exact ⟨h.cells (g := g) rfl _ _ h1, h.cells (g := g) rfl _ _ h2, h.cells (g := g) rfl _ _ h3⟩
theorem CandsAt.of_blk {w : World} {g : Nat} {L : List CM} (h : CBlk w g L) : CandsAt w (some ⟨g, 0, none⟩) L := fun _ => by
  refine ⟨_, rfl, Blk.lt h, fun k x hk => ?_⟩
  obtain ⟨h1, h2, h3⟩ := h.at_ hk
  rw [field_at _ _ 1 (by decide), field_at _ _ 2 (by decide), add_zero_block, add_zero_block, add_zero_block]
  exact ⟨h1, h2, h3⟩

theorem Blk.new' {w : World} {t : TypeId} {cs : Array Value} {g : Nat} (hg : w.heap.size = g) : Blk (w.alloc (.cells cs t)) g t cs := by subst hg; exact Blk.new w t cs
/-- in the loop of taken -/
structure TIn (w wr : World) (g0 g1 g2 : Nat) (st : List CM × List CM) : Prop where
  none_ : Blk wr g0 80 #[.int .i64 0, .int .i64 0, .int .i64 0]
  olds : CBlk wr g1 st.1
  freshes : CBlk wr g2 st.2
  ne : g1 ≠ g2 ∧ g0 ≠ g1 ∧ g0 ≠ g2
  lo : w.heap.size ≤ g0 ∧ w.heap.size ≤ g1 ∧ w.heap.size ≤ g2
  below : Below w.heap.size w wr
theorem TIn.up {w wr w' : World} {g0 g1 g2 : Nat} {st : List CM × List CM} (h : TIn w wr g0 g1 g2 st) (hb : Below wr.heap.size wr w') : TIn w w' g0 g1 g2 st :=
  ⟨h.none_.below hb h.none_.lt, Blk.below h.olds hb (Blk.lt h.olds), Blk.below h.freshes hb (Blk.lt h.freshes), h.ne, h.lo, h.below.trans (hb.mono h.below.size)⟩

theorem TIn.start (w : World) (n1 n2 : Nat) :
    TIn w (((w.alloc (.cells #[.int .i64 0, .int .i64 0, .int .i64 0] 80)).alloc (.cells ((List.replicate n1 z0).flatMap CM.cells).toArray 80)).alloc (.cells ((List.replicate n2 z0).flatMap CM.cells).toArray 80)).drew w.heap.size (w.heap.size + 1) (w.heap.size + 1 + 1) (List.replicate n1 z0, List.replicate n2 z0) :=
  ⟨((Blk.new w _ _).alloc _).alloc _, (Blk.new' (by simp)).alloc _, Blk.new' (by simp), ⟨by omega, by omega, by omega⟩, ⟨by omega, by omega, by omega⟩, ((((Below.refl _ _).alloc (Nat.le_refl _) _).alloc (by simp) _).alloc (by simp; omega) _).drew⟩
theorem TIn.start' (w : World) (n1 n2 : Nat) :
    TIn w (((w.alloc (.cells #[.int .i64 0, .int .i64 0, .int .i64 0] 80)).alloc (.cells ((List.replicate n2 z0).flatMap CM.cells).toArray 80)).alloc (.cells ((List.replicate n1 z0).flatMap CM.cells).toArray 80)).drew w.heap.size (w.heap.size + 1 + 1) (w.heap.size + 1) (List.replicate n1 z0, List.replicate n2 z0) :=
  ⟨((Blk.new w _ _).alloc _).alloc _, Blk.new' (by simp), (Blk.new' (by simp)).alloc _, ⟨by omega, by omega, by omega⟩, ⟨by omega, by omega, by omega⟩, ((((Below.refl _ _).alloc (Nat.le_refl _) _).alloc (by simp) _).alloc (by simp; omega) _).drew⟩

theorem TIn.take_ {w W : World} {g0 g1 g2 : Nat} {st : List CM × List CM} (h : TIn w W g0 g1 g2 st) {i j : Nat} (hi : i < st.1.length) (hj : j < st.2.length) (x : CM) (m : Nat) :
    TIn w (((((((W.drewN m).setCell ⟨g1, i * 3, none⟩ (.int .i64 x.o)).setCell ⟨g1, i * 3 + 1, none⟩ (.int .i64 x.f)).setCell ⟨g1, i * 3 + 2, none⟩ (.int .i64 x.s)).setCell ⟨g2, j * 3, none⟩ (.int .i64 x.o)).setCell ⟨g2, j * 3 + 1, none⟩ (.int .i64 x.f)).setCell ⟨g2, j * 3 + 2, none⟩ (.int .i64 x.s)) g0 g1 g2 (st.1.set i x, st.2.set j x) := by
  obtain ⟨n1, n2, n3⟩ := h.ne
  obtain ⟨l0, l1, l2⟩ := h.lo
  have a1 : CBlk (W.drewN m) g1 st.1 := h.olds
  have a2 : Blk (W.drewN m) g2 80 (st.2.flatMap CM.cells).toArray := h.freshes
  have a0 : Blk (W.drewN m) g0 80 #[.int .i64 0, .int .i64 0, .int .i64 0] := h.none_
  have b1 := a1.set_ hi x
  have b2 : CBlk _ g2 st.2 := ((a2.far (p := ⟨g1, i * 3, none⟩) (fun e => n1 e.symm) (.int .i64 x.o)).far (p := ⟨g1, i * 3 + 1, none⟩) (fun e => n1 e.symm) (.int .i64 x.f)).far (p := ⟨g1, i * 3 + 2, none⟩) (fun e => n1 e.symm) (.int .i64 x.s)
  have b0 := ((a0.far (p := ⟨g1, i * 3, none⟩) n2 (.int .i64 x.o)).far (p := ⟨g1, i * 3 + 1, none⟩) n2 (.int .i64 x.f)).far (p := ⟨g1, i * 3 + 2, none⟩) n2 (.int .i64 x.s)
  exact ⟨((b0.far (p := ⟨g2, j * 3, none⟩) n3 (.int .i64 x.o)).far (p := ⟨g2, j * 3 + 1, none⟩) n3 (.int .i64 x.f)).far (p := ⟨g2, j * 3 + 2, none⟩) n3 (.int .i64 x.s),
    ((Blk.far b1 (p := ⟨g2, j * 3, none⟩) n1 (.int .i64 x.o)).far (p := ⟨g2, j * 3 + 1, none⟩) n1 (.int .i64 x.f)).far (p := ⟨g2, j * 3 + 2, none⟩) n1 (.int .i64 x.s),
    b2.set_ hj x, h.ne, h.lo, ((((((below_drewN h.below m).setCell (p := ⟨g1, i * 3, none⟩) l1 _).setCell (p := ⟨g1, i * 3 + 1, none⟩) l1 _).setCell (p := ⟨g1, i * 3 + 2, none⟩) l1 _).setCell (p := ⟨g2, j * 3, none⟩) l2 _).setCell (p := ⟨g2, j * 3 + 1, none⟩) l2 _).setCell (p := ⟨g2, j * 3 + 2, none⟩) l2 _⟩

set_option maxHeartbeats 4000000 in
set_option maxRecDepth 100000 in
theorem taken_any (A : Option Addr) (best : List CM) (n c n1 n2 : Nat) (w : World) (ha : CandsAt w A best) (hn : best.length = n) (h1 : n1 ≤ 250) (h2 : n2 ≤ 250) (hok : ∀ c ∈ best, OkC n1 n2 c) (hnl : n ≤ 65536) :
    Calls Try.prog 27 #[.slice A n c, .int .i64 (n1 : Int), .int .i64 (n2 : Int)] w fun e w' => ∃ g, e = .returned (.slice (some ⟨g, 0, none⟩) n2 n2) ∧ CBlk w' g (takenM n1 n2 best).2 ∧ Below w.heap.size w w' := by
  subst hn
  have HOK := Lib.hid hok
  clear hok
  have hm1 := make_cands n1 h1
  have hm2 := make_cands n2 h2
  go_enter Try.func27, Try.ntmps27
  go_wp2_with fail
  go_cut [8, 9] (fun s8 s9 wx => ∃ g1 g2, s8 = .slice (some ⟨g1, 0, none⟩) n1 n1 ∧ s9 = .slice (some ⟨g2, 0, none⟩) n2 n2 ∧ TIn w wx w.heap.size g1 g2 (List.replicate n1 z0, List.replicate n2 z0))
  case first =>
    go_region
    all_goals
      go_wp2_with fail
      go_meet
      first | exact ⟨_, _, rfl, rfl, TIn.start w n1 n2⟩ | exact ⟨_, _, rfl, rfl, TIn.start' w n1 n2⟩
  case rest =>
    obtain ⟨g1, g2, rfl, rfl, hT⟩ := hcut
    clear hm1 hm2
    go_wp2_with fail
    go_loopw [18] (fun i wr => ∃ k : Nat, k ≤ best.length ∧ i = .int .i64 k ∧ TIn w wr w.heap.size g1 g2 (takenM n1 n2 (best.take k))) (fun i _ => best.length - (intOf i).toNat)
    case atStart => exact ⟨0, Nat.zero_le _, rfl, hT⟩
    case round =>
      obtain ⟨k, hk, rfl, hT⟩ := hrel
      by_cases q1 : k < best.length
      · obtain ⟨x, hx⟩ : ∃ x, best[k]? = some x := ⟨_, List.getElem?_eq_getElem q1⟩
        obtain ⟨a, rfl, hal, c0, c1, c2⟩ := (ha.up hT.below).at_ hx
        have hxo := HOK.out x (List.mem_of_getElem? hx)
        obtain ⟨i, hi⟩ : ∃ i : Nat, x.o = (i : Int) := ⟨x.o.toNat, by have := hxo.1; omega⟩
        obtain ⟨j, hj⟩ : ∃ j : Nat, x.f = (j : Int) := ⟨x.f.toNat, by have := hxo.2.2.1; omega⟩
        have hi1 : i < n1 := by have := hxo.2.1; omega
        have hj1 : j < n2 := by have := hxo.2.2.2.1; omega
        have hxs := hxo.2.2.2.2
        have hst := takenM_take (n1 := n1) (n2 := n2) hx
        have hok := takenM_ok (n1 := n1) (n2 := n2) (best := best.take k) (fun c hc => HOK.out c (List.mem_of_mem_take hc))
        generalize takenM n1 n2 (best.take k) = st at *
        obtain ⟨y, hy⟩ : ∃ y, st.1[i]? = some y := ⟨_, List.getElem?_eq_getElem (by rw [hok.l1]; exact hi1)⟩
        obtain ⟨z, hz⟩ : ∃ z, st.2[j]? = some z := ⟨_, List.getElem?_eq_getElem (by rw [hok.l2]; exact hj1)⟩
        have lt1 : g1 < wr.heap.size := Blk.lt hT.olds
        have lt2 : g2 < wr.heap.size := Blk.lt hT.freshes
        have hal2 : Below wr.heap.size wr (wr.alloc (.cells #[.int .i64 x.o, .int .i64 x.f, .int .i64 x.s] 80)) := (Below.refl _ _).alloc (Nat.le_refl _) _
        have hT2 := hT.up hal2
        have hbx := Blk.new wr 80 #[.int .i64 x.o, .int .i64 x.f, .int .i64 x.s]
        rw [hi] at c0
        rw [hj] at c1
        rw [hi, hj] at hT2 hbx
        obtain ⟨xs, hxs0⟩ : ∃ xs, x.s = xs := ⟨_, rfl⟩
        rw [hxs0] at c2 hT2 hbx hxs
        have HXS := Lib.hid hxs0
        clear hxs0
        have HXO : Hid (OkC n1 n2 x) := Lib.hid hxo
        have hy0 := hok.o y (List.mem_of_getElem? hy)
        have hz0 := hok.f z (List.mem_of_getElem? hz)
        have HST := Lib.hid hst
        have HOKT := Lib.hid hok
        have HY := Lib.hid hy
        have HZ := Lib.hid hz
        have ii1 : (i : Int) < (n1 : Int) := by omega
        have jj1 : (j : Int) < (n2 : Int) := by omega
        have HT2 := Lib.hid hT2
        have u0 := hT2.none_.cell 0
        have u1 := hT2.none_.cell 1
        have u2 := hT2.none_.cell 2
        obtain ⟨y0, y1, y2⟩ := hT2.olds.at_ hy
        obtain ⟨w0, w1, w2⟩ := hT2.freshes.at_ hz
        simp only [List.getElem?_toArray, List.getElem?_cons_zero, List.getElem?_cons_succ] at u0 u1 u2
        have HI := Lib.hid hi
        have HJ := Lib.hid hj
        have HBX := Lib.hid hbx
        clear hxo hst hok hT hal2 hT2 hx hi hj hbx
        by_cases ey : y = z0
        · subst ey
          simp only [z0] at y0 y1 y2
          by_cases ez : z = z0
          · subst ez
            simp only [z0] at w0 w1 w2
            clear hy0 hz0 hy hz
            go_wp2_with fail
            go_quiet (fail)
            go_wp2_with fail
            obtain ⟨W2, hW2⟩ : ∃ W2, W2 = wr.alloc (.cells #[.int .i64 (i : Int), .int .i64 (j : Int), .int .i64 xs] 80) := ⟨_, rfl⟩
            obtain ⟨g, hg⟩ : ∃ g, g = wr.heap.size := ⟨_, rfl⟩
            have HBX2 := HBX.out
            have HT3 := HT2.out
            rw [← hW2] at u0 u1 u2 y0 y1 y2 w0 w1 w2 HBX2 HT3 ⊢
            rw [← hg] at HBX2 ⊢
            have b0 : W2.cell? ⟨g, 0, none⟩ = some (.int .i64 (i : Int)) := HBX2.cell 0
            have b1 : W2.cell? ⟨g, 1, none⟩ = some (.int .i64 (j : Int)) := HBX2.cell 1
            have b2 : W2.cell? ⟨g, 2, none⟩ = some (.int .i64 xs) := HBX2.cell 2
            have fz1 : ∀ o, W2.frozen? ⟨g1, o, none⟩ = false := fun o => Blk.frozen HT3.olds o
            have fz2 : ∀ o, W2.frozen? ⟨g2, o, none⟩ = false := fun o => Blk.frozen HT3.freshes o
            have hgg : g1 < g ∧ g2 < g := by rw [hg]; exact ⟨lt1, lt2⟩
            have ne1 : ¬ g1 = g2 := HT3.ne.1
            have ne2 : ¬ g2 = g1 := fun e => ne1 e.symm
            have ne3 : ¬ g = g1 := by omega
            have ne4 : ¬ g = g2 := by omega
            have ne5 : ¬ g1 = g := by omega
            have ne6 : ¬ g2 = g := by omega
            have HT4 := Lib.hid HT3
            clear HBX2 HT3 hW2 hg hgg
            have HN : Hid (∀ m, TIn w (((((((W2.drewN m).setCell ⟨g1, i * 3, none⟩ (.int .i64 (i : Int))).setCell ⟨g1, i * 3 + 1, none⟩ (.int .i64 (j : Int))).setCell ⟨g1, i * 3 + 2, none⟩ (.int .i64 xs)).setCell ⟨g2, j * 3, none⟩ (.int .i64 (i : Int))).setCell ⟨g2, j * 3 + 1, none⟩ (.int .i64 (j : Int))).setCell ⟨g2, j * 3 + 2, none⟩ (.int .i64 xs)) w.heap.size g1 g2 (takenM n1 n2 (best.take (k + 1)))) := Lib.hid (fun m => by
              have h := HT4.out.take_ (i := i) (j := j) (by rw [HOKT.out.l1]; exact hi1) (by rw [HOKT.out.l2]; exact hj1) x m
              rw [HI.out, HJ.out, HXS.out] at h
              rw [HST.out]
              unfold stepT
              rw [HI.out, HJ.out, Int.toNat_natCast, Int.toNat_natCast, if_pos ⟨by rw [List.getD_eq_getElem?_getD, HY.out]; rfl, by rw [List.getD_eq_getElem?_getD, HZ.out]; rfl⟩]
              exact h)
            go_big_region
            go_wp2_with fail
            go_roundw
            case rel => exact ⟨k + 1, by omega, by go_num, HN.out _⟩
            case measure => simp [intOf]; omega
          · have hz1 := (hz0.resolve_left ez).2.2.2.2
            have HN : Hid (∀ W, Below (wr.alloc (.cells #[.int .i64 (i : Int), .int .i64 (j : Int), .int .i64 xs] 80)).heap.size (wr.alloc (.cells #[.int .i64 (i : Int), .int .i64 (j : Int), .int .i64 xs] 80)) W → TIn w W w.heap.size g1 g2 (takenM n1 n2 (best.take (k + 1)))) := Lib.hid (fun W hb => by
              rw [HST.out]
              unfold stepT
              rw [if_neg (fun h => ez (by have := h.2; rwa [HJ.out, Int.toNat_natCast, List.getD_eq_getElem?_getD, HZ.out] at this))]
              exact HT2.out.up hb)
            clear hy0 hz0 hy hz ez
            have hz2 : ¬ z.s = 0 := by omega
            have hz3 : ((z.s == 0) : Bool) = false := by simp [hz2]
            go_wp2_with fail
            go_quiet (fail)
            go_wp2_with fail
            go_roundw
            case rel => exact ⟨k + 1, by omega, by go_num, HN.out _ (below_drewN (Below.refl _ _) _)⟩
            case measure => simp [intOf]; omega
        · have hy1 := (hy0.resolve_left ey).2.2.2.2
          have HN : Hid (∀ W, Below (wr.alloc (.cells #[.int .i64 (i : Int), .int .i64 (j : Int), .int .i64 xs] 80)).heap.size (wr.alloc (.cells #[.int .i64 (i : Int), .int .i64 (j : Int), .int .i64 xs] 80)) W → TIn w W w.heap.size g1 g2 (takenM n1 n2 (best.take (k + 1)))) := Lib.hid (fun W hb => by
            rw [HST.out]
            unfold stepT
            rw [if_neg (fun h => ey (by have := h.1; rwa [HI.out, Int.toNat_natCast, List.getD_eq_getElem?_getD, HY.out] at this))]
            exact HT2.out.up hb)
          clear hy0 hz0 hy hz ey
          have hy2 : ¬ y.s = 0 := by omega
          have hy3 : ((y.s == 0) : Bool) = false := by simp [hy2]
          go_wp2_with fail
          go_quiet (fail)
          go_wp2_with fail
          go_roundw
          case rel => exact ⟨k + 1, by omega, by go_num, HN.out _ (below_drewN (Below.refl _ _) _)⟩
          case measure => simp [intOf]; omega
      · rw [List.take_of_length_le (by omega)] at hT
        have HT := Lib.hid hT
        clear hT
        go_wp2_with fail
        go_ret
        exact ⟨g2, rfl, HT.out.freshes, HT.out.below⟩

end Go.Proofs.Ytdnckhagknlfhaa
