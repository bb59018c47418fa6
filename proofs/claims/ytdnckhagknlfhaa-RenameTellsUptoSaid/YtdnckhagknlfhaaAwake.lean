/-
  collatorlaw08.awake: chapter 8's example; it returns true. Nothing that was there is changed.
-/
import Derived.Test.YtdnckhagknlfhaaSameP
namespace Go.Proofs.Ytdnckhagknlfhaa
open Go.RowKit

theorem it_at {L : List It} : ∀ {k : Nat} {x : It}, L[k]? = some x → (L.flatMap It.cells)[k * 4]? = some (.string x.path) ∧ (L.flatMap It.cells)[k * 4 + 1]? = some (.int .i64 x.kind) ∧ (L.flatMap It.cells)[k * 4 + 2]? = some (.string x.data) ∧ (L.flatMap It.cells)[k * 4 + 3]? = some (.bool x.bad) := by
  induction L with
  | nil => intro k x h; simp at h
  | cons y L ih =>
    intro k x h
    have e : (y :: L).flatMap It.cells = y.cells ++ L.flatMap It.cells := by simp
    have hl : y.cells.length = 4 := rfl
    rw [e]
    cases k with
    | zero => simp at h; subst h; simp [It.cells]
    | succ k =>
      obtain ⟨h1, h2, h3, h4⟩ := ih (k := k) (by simpa using h)
      refine ⟨?_, ?_, ?_, ?_⟩
      · rw [List.getElem?_append_right (by omega), hl, show (k + 1) * 4 - 4 = k * 4 from by omega]; exact h1
      · rw [List.getElem?_append_right (by omega), hl, show (k + 1) * 4 + 1 - 4 = k * 4 + 1 from by omega]; exact h2
      · rw [List.getElem?_append_right (by omega), hl, show (k + 1) * 4 + 2 - 4 = k * 4 + 2 from by omega]; exact h3
      · rw [List.getElem?_append_right (by omega), hl, show (k + 1) * 4 + 3 - 4 = k * 4 + 3 from by omega]; exact h4
theorem ItemsAt.of_blk {w : World} {g : Nat} {t : TypeId} {L : List It} (h : Blk w g t (L.flatMap It.cells).toArray) : ItemsAt w (some ⟨g, 0, none⟩) L := fun _ => by
  refine ⟨_, rfl, h.lt, fun k x hk => ?_⟩
  obtain ⟨h1, h2, h3, h4⟩ := it_at hk
  rw [add_zero_block]
  exact ⟨(h.cell _).trans (by simpa using h1), (h.cell _).trans (by simpa using h2), (h.cell _).trans (by simpa using h3), (h.cell _).trans (by simpa using h4)⟩
theorem PrsAt.of_blk {w : World} {g : Nat} {t : TypeId} {L : List Pr} (h : Blk w g t (L.flatMap Pr.cells).toArray) : PrsAt w (some ⟨g, 0, none⟩) L := fun _ => by
  refine ⟨_, rfl, h.lt, fun k x hk => ?_⟩
  obtain ⟨h1, h2, h3⟩ := prs_at hk
  rw [add_zero_block]
  exact ⟨(h.cell _).trans (by simpa using h1), (h.cell _).trans (by simpa using h2), (h.cell _).trans (by simpa using h3)⟩

def oldA : List It := [⟨⟨#[97]⟩, 2, ⟨#[120, 10, 121, 10]⟩, false⟩, ⟨⟨#[98]⟩, 2, ⟨#[120, 10]⟩, false⟩]
def freshA : List It := [⟨⟨#[99]⟩, 2, ⟨#[120, 10, 121, 10]⟩, false⟩]
theorem fl_old : fl oldA = [(⟨#[97]⟩, [⟨#[120, 10]⟩, ⟨#[121, 10]⟩]), (⟨#[98]⟩, [⟨#[120, 10]⟩])] := by kernel_rfl
theorem fl_fresh : fl freshA = [(⟨#[99]⟩, [⟨#[120, 10]⟩, ⟨#[121, 10]⟩])] := by kernel_rfl
theorem sc1 : Al.score [(⟨#[120, 10]⟩ : ByteArray), ⟨#[121, 10]⟩] [⟨#[120, 10]⟩, ⟨#[121, 10]⟩] = 100 := by kernel_rfl
theorem sc2 : Al.score [(⟨#[120, 10]⟩ : ByteArray)] [⟨#[120, 10]⟩, ⟨#[121, 10]⟩] = 66 := by kernel_rfl
theorem cand_awake (t : Int) (c : Pr) : CandM (fl oldA) (fl freshA) t c ↔ (c = ⟨⟨#[97]⟩, ⟨#[99]⟩, 100⟩ ∨ c = ⟨⟨#[98]⟩, ⟨#[99]⟩, 66⟩) ∧ max t 1 ≤ c.sc := by
  unfold CandM
  rw [fl_old, fl_fresh]
  simp only [List.mem_cons, List.not_mem_nil, or_false]
  constructor
  · rintro ⟨x, hx | hx, y, rfl, rfl, h⟩
    · subst hx; exact ⟨.inl (by simp [sc1]), h⟩
    · subst hx; exact ⟨.inr (by simp [sc2]), h⟩
  · rintro ⟨rfl | rfl, h⟩
    · exact ⟨_, .inl rfl, _, rfl, by simp [sc1], h⟩
    · exact ⟨_, .inr rfl, _, rfl, by simp [sc2], h⟩
theorem awake50 {L : List Pr} (h : IsP (CandM (fl oldA) (fl freshA) 50) L) : L = [⟨⟨#[97]⟩, ⟨#[99]⟩, 100⟩] := by
  refine h.unique ⟨by simp, fun c hc => ?_, fun x hx y hy _ => ?_, fun c hc => ?_⟩
  · rw [cand_awake]
    have : c = ⟨⟨#[97]⟩, ⟨#[99]⟩, 100⟩ := by simpa using hc
    subst this
    exact ⟨.inl rfl, by simp; omega⟩
  · have h1 : x = ⟨⟨#[97]⟩, ⟨#[99]⟩, 100⟩ := by simpa using hx
    have h2 : y = ⟨⟨#[97]⟩, ⟨#[99]⟩, 100⟩ := by simpa using hy
    rw [h1, h2]
  · rw [cand_awake] at hc
    rcases hc.1 with rfl | rfl
    · exact .inl (by simp)
    · exact .inr ⟨⟨⟨#[97]⟩, ⟨#[99]⟩, 100⟩, by simp, .inr rfl, .inl (by decide)⟩
theorem awake101 {L : List Pr} (h : IsP (CandM (fl oldA) (fl freshA) 101) L) : L = [] := by
  refine h.unique ⟨by simp, fun c hc => (by cases hc), fun x hx => (by cases hx), fun c hc => ?_⟩
  rw [cand_awake] at hc
  obtain ⟨rfl | rfl, hc⟩ := hc
  · simp at hc; omega
  · simp at hc; omega
theorem awakeNil {L : List Pr} {t : Int} {G : List (ByteArray × List ByteArray)} (h : IsP (CandM (fl []) G t) L) : L = [] := by
  refine h.unique ⟨by simp, fun c hc => (by cases hc), fun x hx => (by cases hx), fun c hc => ?_⟩
  obtain ⟨x, hx, _⟩ := hc
  cases hx
theorem fit_old : FitI oldA := by unfold FitI oldA; simp; decide
theorem fit_fresh : FitI freshA := by unfold FitI freshA; simp; decide
theorem fit_nil : FitI [] := by unfold FitI; simp

set_option maxHeartbeats 4000000 in
set_option maxRecDepth 100000 in
theorem awake_any (w : World) : Calls Try.prog 9 #[] w fun e w' => e = .returned (.bool true) ∧ Below w.heap.size w w' := by
  go_enter Try.func9, Try.ntmps9
  go_wp2_with fail
  obtain ⟨g, hg⟩ : ∃ g, g = w.heap.size := ⟨_, rfl⟩
  have hbx := (Blk.new w 33 (oldA.flatMap It.cells).toArray).alloc (.cells (freshA.flatMap It.cells).toArray 33)
  have hby := Blk.new (w.alloc (.cells (oldA.flatMap It.cells).toArray 33)) 33 (freshA.flatMap It.cells).toArray
  have hB : Below w.heap.size w ((w.alloc (.cells (oldA.flatMap It.cells).toArray 33)).alloc (.cells (freshA.flatMap It.cells).toArray 33)) := ((Below.refl _ _).alloc (Nat.le_refl _) _).alloc (by simp) _
  obtain ⟨W, hW⟩ : ∃ W, W = (w.alloc (.cells (oldA.flatMap It.cells).toArray 33)).alloc (.cells (freshA.flatMap It.cells).toArray 33) := ⟨_, rfl⟩
  have e1 : (w.alloc (.cells (oldA.flatMap It.cells).toArray 33)).heap.size = g + 1 := by rw [hg]; simp
  rw [e1] at hby
  rw [← hW] at hbx hby hB
  rw [← hg] at hbx ⊢
  simp only [oldA, freshA, It.cells, List.flatMap_cons, List.flatMap_nil, List.cons_append, List.nil_append, List.append_nil] at hW
  rw [← hW]
  have HA := Lib.hid (ItemsAt.of_blk hbx)
  have HB := Lib.hid (ItemsAt.of_blk hby)
  have HBL := Lib.hid hB
  clear hbx hby hB hW e1 hg
  refine (pairs_told (some ⟨g, 0, none⟩) (some ⟨g + 1, 0, none⟩) oldA freshA 2 1 2 1 50 _ HA.out HB.out rfl rfl fit_old fit_fresh).mono ?_
  rintro e w1 ⟨A1, c1, L1, rfl, hP1, hL1, hB1, _⟩
  have := awake50 hP1
  subst this
  have HL1 := Lib.hid hL1
  have HB1 := Lib.hid hB1
  clear hP1 hL1 hB1
  go_wp2_with fail
  have hbz := Blk.new w1 37 #[.string ⟨#[97]⟩, .string ⟨#[99]⟩, .int .i64 100]
  have hal : Below w1.heap.size w1 (w1.alloc (.cells #[.string ⟨#[97]⟩, .string ⟨#[99]⟩, .int .i64 100] 37)) := (Below.refl _ _).alloc (Nat.le_refl _) _
  refine (same_true A1 (some ⟨w1.heap.size, 0, none⟩) [⟨⟨#[97]⟩, ⟨#[99]⟩, 100⟩] 1 1 c1 1 _ (HL1.out.up hal) (PrsAt.of_blk (L := [⟨⟨#[97]⟩, ⟨#[99]⟩, 100⟩]) hbz) rfl rfl (by decide)).mono ?_
  rintro e w2 ⟨rfl, q, rfl⟩
  have HB2 := Lib.hid (below_drewN (HB1.out.trans (hal.mono HB1.out.size)) q)
  clear hbz hal
  go_wp2_with fail
  refine (pairs_told (some ⟨g, 0, none⟩) (some ⟨g + 1, 0, none⟩) oldA freshA 2 1 2 1 101 _ (HA.out.up HB2.out) (HB.out.up HB2.out) rfl rfl fit_old fit_fresh).mono ?_
  rintro e w3 ⟨A3, c3, L3, rfl, hP3, hL3, hB3, _⟩
  have := awake101 hP3
  subst this
  have HB3 := Lib.hid (HB2.out.trans (hB3.mono HB2.out.size))
  clear hP3 hL3 hB3
  go_wp2_with fail
  refine (pairs_told none (some ⟨g + 1, 0, none⟩) [] freshA 0 1 0 1 0 _ (fun h => absurd rfl h) (HB.out.up HB3.out) rfl rfl fit_nil fit_fresh).mono ?_
  rintro e w4 ⟨A4, c4, L4, rfl, hP4, hL4, hB4, _⟩
  have := awakeNil hP4
  subst this
  have HB4 := Lib.hid (HB3.out.trans (hB4.mono HB3.out.size))
  clear hP4 hL4 hB4
  go_wp2_with fail
  go_ret
  exact ⟨rfl, HBL.out.trans (HB4.out.mono HBL.out.size)⟩

end Go.Proofs.Ytdnckhagknlfhaa
