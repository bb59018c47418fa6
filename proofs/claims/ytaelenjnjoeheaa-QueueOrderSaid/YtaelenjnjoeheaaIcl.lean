/-
  Package queue: Close: what it tells, in new memory; nothing that was there is changed.
-/
import Derived.Test.YtaelenjnjoeheaaIdr
namespace Go.Proofs.Ytaelenjnjoeheaa
open Go.RowKit P16

/-- what a Close tells, in new memory -/
def CloseNew (r0 : Int) (b0 : Bool) (T0 : List Tk) (e0 : Int) (w : World) (e : Ending) (w' : World) : Prop :=
  ∃ (A : Option Addr) (n c : Nat), e = .returned (.tuple #[.agg #[.int .i64 r0, .bool b0, .slice A n c], .int .i64 e0]) ∧ T0.length = n ∧ n ≤ c ∧ TasksNew w.heap.size w' A T0 ∧ Below w.heap.size w w'
/-- what a Close tells -/
def CloseTold (r0 : Int) (b0 : Bool) (T0 : List Tk) (e0 : Int) (w : World) (e : Ending) (w' : World) : Prop :=
  ∃ (A : Option Addr) (n c : Nat), e = .returned (.tuple #[.agg #[.int .i64 r0, .bool b0, .slice A n c], .int .i64 e0]) ∧ T0.length = n ∧ n ≤ c ∧ TasksAt w' A T0 ∧ Below w.heap.size w w'
theorem close_parts {r0 r1 : Int} {b0 b1 : Bool} {T0 T1 : List Tk} {e0 e1 : Int} (h : ((⟨r1, b1, T1⟩ : Qu), e1) = ((⟨r0, b0, T0⟩ : Qu), e0)) : r0 = r1 ∧ b0 = b1 ∧ T0 = T1 ∧ e0 = e1 := by
  injection h with h2 h3
  injection h2 with h4 h5 h6
  exact ⟨h4.symm, h5.symm, h6.symm, h3.symm⟩

set_option maxHeartbeats 8000000 in
set_option maxRecDepth 100000 in
theorem iclose_any (r : Int) (cl : Bool) (T : List Tk) (A : Option Addr) (n c : Nat) (w : World) (r0 : Int) (b0 : Bool) (T0 : List Tk) (e0 : Int) (ht : closeQ ⟨r, cl, T⟩ = (⟨r0, b0, T0⟩, e0))
    (ha : TasksAt w A T) (hn : T.length = n) (hf : FitT T) :
    Calls Try.prog 17 #[.agg #[.int .i64 r, .bool cl, .slice A n c]] w (CloseNew r0 b0 T0 e0 w) := by
  obtain ⟨bo, hbo⟩ : ∃ bo, rightB ⟨r, cl, T⟩ = bo := ⟨_, rfl⟩
  have HBO := Lib.hid hbo
  have HT := Lib.hid ht
  have HA := Lib.hid ha
  have HF := Lib.hid hf
  have HN := Lib.hid hn
  clear hbo ht ha hf hn
  go_enter Try.func17, Try.ntmps17
  go_upto_region 1 with (fail)
  have hb0 : Blk ((w.alloc (.cells #[.int .i64 r, .bool cl, .slice A n c] 24)).alloc (.cells #[.int .i64 0, .bool false, .slice none 0 0] 24)) w.heap.size 24 #[.int .i64 r, .bool cl, .slice A n c] := (Blk.new w _ _).alloc _
  have hb1 : Blk ((w.alloc (.cells #[.int .i64 r, .bool cl, .slice A n c] 24)).alloc (.cells #[.int .i64 0, .bool false, .slice none 0 0] 24)) (w.heap.size + 1) 24 #[.int .i64 0, .bool false, .slice none 0 0] := by
    have := Blk.new (w.alloc (.cells #[.int .i64 r, .bool cl, .slice A n c] 24)) 24 #[.int .i64 0, .bool false, .slice none 0 0]
    have h2 : Blk ((w.alloc (.cells #[.int .i64 r, .bool cl, .slice A n c] 24)).alloc (.cells #[.int .i64 0, .bool false, .slice none 0 0] 24)) (w.heap.size + 1) 24 #[.int .i64 0, .bool false, .slice none 0 0] := by simpa [Nat.add_assoc] using this
    exact h2
  have hw0 : Below w.heap.size w ((w.alloc (.cells #[.int .i64 r, .bool cl, .slice A n c] 24)).alloc (.cells #[.int .i64 0, .bool false, .slice none 0 0] 24)) := ((Below.refl _ _).alloc (Nat.le_refl _) _).alloc (by simp) _
  obtain ⟨w1, hw1⟩ : ∃ w1, w1 = (w.alloc (.cells #[.int .i64 r, .bool cl, .slice A n c] 24)).alloc (.cells #[.int .i64 0, .bool false, .slice none 0 0] 24) := ⟨_, rfl⟩
  obtain ⟨gq, hgq⟩ : ∃ g, g = w.heap.size := ⟨_, rfl⟩
  obtain ⟨gr, hgr⟩ : ∃ g, g = w.heap.size + 1 := ⟨_, rfl⟩
  rw [← hw1] at hb0 hb1 hw0 ⊢
  rw [← hgr] at hb1 ⊢
  rw [← hgq] at hb0
  have HGq : Hid (w.heap.size ≤ gq) := Lib.hid (by omega)
  have HGr : Hid (w.heap.size ≤ gr) := Lib.hid (by omega)
  have HNrq : Hid (gr ≠ gq) := Lib.hid (by omega)
  rw [show (⟨w.heap.size, 0, none⟩ : Addr) = ⟨gq, 0, none⟩ from by rw [hgq]]
  have HBq := Lib.hid hb0
  have HBr := Lib.hid hb1
  have HW := Lib.hid hw0
  clear hb0 hb1 hw0 hw1 hgq hgr

  obtain ⟨y0, y1, y2⟩ := blk3 HBq.out
  go_wp2_with fail
  refine (iright_any r cl T A n c bo HBO.out _ HN.out).mono ?_
  rintro e w2 ⟨rfl, hb2⟩
  have HBq := Lib.hid (HBq.out.below hb2 HBq.out.lt)
  have HBr := Lib.hid (HBr.out.below hb2 HBr.out.lt)
  have HW := Lib.hid (below_step HW.out hb2)

  clear hb2 y0 y1 y2
  cases bo with
  | false =>
    have HT : Hid (r0 = 0 ∧ b0 = false ∧ T0 = [] ∧ e0 = 1) := Lib.hid (by have h := HT.out; rw [close_bad HBO.out] at h; exact close_parts h)
    obtain ⟨z0, z1, z2⟩ := blk3 HBr.out
    have q0 := Blk.frozen HBr.out 0
    have q1 := Blk.frozen HBr.out 1
    have q2 := Blk.frozen HBr.out 2
    go_wp2_with fail
    refine bodyPost_ret (v := .tuple #[.agg #[.int .i64 0, .bool false, .slice none 0 0], .int .i64 1]) (by simp [results, Try.results17, go_sem, z0, z1, z2]) rfl ?_
    rw [HT.out.1, HT.out.2.1, HT.out.2.2.1, HT.out.2.2.2]
    exact ⟨none, 0, 0, rfl, rfl, Nat.le_refl _, TasksNew.nil, ((HW.out.setCell HGr.out _).setCell HGr.out _).setCell HGr.out _⟩

  | true =>
    obtain ⟨y0, y1, y2⟩ := blk3 HBq.out
    have q1 := Blk.frozen HBq.out 1
    have e3 := (right_iff.1 HBO.out).2
    simp only [HN.out] at e3
    have hn1 : n ≤ 4096 := by omega
    have HT : Hid (r0 = r ∧ b0 = true ∧ T0 = T ∧ e0 = 0) := Lib.hid (by have h := HT.out; rw [close_ok HBO.out] at h; exact close_parts h)
    clear e3
    go_upto_region 4 with (fail)
    have hk3 : Blk (w2.setCell ⟨gq, 1, none⟩ (.bool true)) gq 24 #[.int .i64 r, .bool true, .slice A n c] := HBq.out.set_ 1 _
    have hr3 : Blk (w2.setCell ⟨gq, 1, none⟩ (.bool true)) gr 24 #[.int .i64 0, .bool false, .slice none 0 0] := HBr.out.far (p := ⟨gq, 1, none⟩) HNrq.out _
    have hw3 : Below w.heap.size w (w2.setCell ⟨gq, 1, none⟩ (.bool true)) := HW.out.setCell HGq.out _
    obtain ⟨w3, hw⟩ : ∃ w3, w3 = w2.setCell ⟨gq, 1, none⟩ (.bool true) := ⟨_, rfl⟩
    rw [← hw] at hk3 hr3 hw3 ⊢
    clear y0 y1 y2 q1 hw
    have HBr := Lib.hid hr3
    have HW := Lib.hid hw3
    obtain ⟨y0, y1, y2⟩ := blk3 hk3
    clear hk3 hr3 hw3
    go_wp2_with fail
    refine (with_any r true A n c A T n c _ (HA.out.up HW.out) HN.out (by omega) HF.out).mono ?_
    rintro e w4 ⟨A4, rfl, ht4, hb4⟩
    have HT4 := Lib.hid ht4
    have HB4 := Lib.hid hb4
    have HBr4 := Lib.hid (HBr.out.below hb4 HBr.out.lt)
    clear y0 y1 y2 ht4 hb4
    obtain ⟨z0, z1, z2⟩ := blk3 HBr4.out
    have q0 := Blk.frozen HBr4.out 0
    have q1 := Blk.frozen HBr4.out 1
    have q2 := Blk.frozen HBr4.out 2
    go_wp2_with fail
    refine bodyPost_ret (v := .tuple #[.agg #[.int .i64 r, .bool true, .slice A4 n n], .int .i64 0]) (by simp [results, Try.results17, go_sem, z0, z1, z2]) rfl ?_
    rw [HT.out.1, HT.out.2.1, HT.out.2.2.1, HT.out.2.2.2]
    have hlt := HBr.out.lt
    have hw5 := below_step HW.out HB4.out
    have hgr : ∀ g, some gr = some g → g < w3.heap.size := fun g e => by injection e with e; omega
    exact ⟨A4, n, n, rfl, HN.out, Nat.le_refl _, ((((HT4.out.grown (grown_set _ _ _ _) hgr).grown (grown_set _ _ _ _) hgr).grown (grown_set _ _ _ _) hgr).less HW.out.size), ((hw5.setCell HGr.out _).setCell HGr.out _).setCell HGr.out _⟩

end Go.Proofs.Ytaelenjnjoeheaa
