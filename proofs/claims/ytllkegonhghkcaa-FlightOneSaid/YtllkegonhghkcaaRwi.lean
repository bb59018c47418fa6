/-
  collatorref15.with: fills, one of which is another one, in new memory. Nothing that was there is changed.
-/
import Derived.Test.YtllkegonhghkcaaRsa
import Derived.Deep.CutBlock
namespace Go.Proofs.Ytllkegonhghkcaa
open Go.RowKit P15

theorem Filled.set {α : Type} {f : α → List Value} {n : Nat} (hl : ∀ x, (f x).length = n) {cs : Array Value} {L : List α} (h : Filled f n cs L L.length) {i : Nat} (hi : i < L.length) (y : α) (hs : L.length * n ≤ cs.size) : Filled f n (putAt cs (i * n) (f y)) (L.set i y) (L.set i y).length := by
  intro j z hj hz k u hu
  have hk : k < n := by rw [← hl z]; exact (List.getElem?_eq_some_iff.1 hu).1
  rw [List.getElem?_set] at hz
  by_cases e : i = j
  · subst e
    rw [if_pos rfl, if_pos hi] at hz
    injection hz with hz
    subst hz
    have : (i + 1) * n ≤ L.length * n := Nat.mul_le_mul_right n hi
    rw [Nat.add_mul, Nat.one_mul] at this
    exact putAt_in _ _ _ _ _ hu (by omega)
  · rw [if_neg e] at hz
    have hj' : j < L.length := by rwa [List.length_set] at hj
    rw [putAt_far _ _ _ _ ?_]
    · exact h j z hj' hz k u hu
    · rw [hl]
      rcases Nat.lt_or_ge j i with g | g
      · left
        have : (j + 1) * n ≤ i * n := Nat.mul_le_mul_right n g
        rw [Nat.add_mul, Nat.one_mul] at this
        omega
      · right
        have : (i + 1) * n ≤ j * n := Nat.mul_le_mul_right n (by omega)
        rw [Nat.add_mul, Nat.one_mul] at this
        omega
theorem four_cells (cs : Array Value) (b : Nat) (h : b + 3 < cs.size) : ∃ v0 v1 v2 v3, cs[b]? = some v0 ∧ cs[b + 1]? = some v1 ∧ cs[b + 2]? = some v2 ∧ cs[b + 3]? = some v3 :=
  ⟨_, _, _, _, Array.getElem?_eq_getElem (by omega), Array.getElem?_eq_getElem (by omega), Array.getElem?_eq_getElem (by omega), Array.getElem?_eq_getElem (by omega)⟩
theorem blk4 {w : World} {g : Nat} {t : TypeId} {v0 v1 v2 v3 : Value} (h : Blk w g t #[v0, v1, v2, v3]) : w.cell? ⟨g, 0, none⟩ = some v0 ∧ w.cell? ⟨g, 1, none⟩ = some v1 ∧ w.cell? ⟨g, 2, none⟩ = some v2 ∧ w.cell? ⟨g, 3, none⟩ = some v3 :=
  ⟨h.cell 0, h.cell 1, h.cell 2, h.cell 3⟩
/-- fills in new memory -/
def FillsTold (L : List Fl) (w : World) (e : Ending) (w' : World) : Prop := ∃ (A : Option Addr) (n c : Nat), e = .returned (.slice A n c) ∧ L.length = n ∧ n ≤ c ∧ FillsAt w' A L ∧ Below w.heap.size w w'

set_option maxHeartbeats 2000000 in
set_option maxRecDepth 100000 in
theorem rwith_any (A : Option Addr) (L : List Fl) (n c i : Nat) (l r : ByteArray) (b : Int) (W : List Int) (B : Option Addr) (m d : Nat) (w : World) (ha : FillsAt w A L) (hn : L.length = n) (hf : L.length ≤ 1000) (hi : i < L.length) (hW : IntsAt w B W) (hm : W.length = m) (hd : m ≤ d) :
    Calls Try.prog 29 #[.slice A n c, .int .i64 (i : Nat), .agg #[.string l, .string r, .int .i64 b, .slice B m d]] w (FillsTold (L.set i ⟨l, r, b, W⟩) w) := by
  subst hn
  obtain ⟨R, hR, hrow, hws⟩ := ha
  have hRl : R.length = L.length := by rw [← hR, List.length_map]
  have HR := Lib.hid hR
  have HRow := Lib.hid hrow
  have HWs := Lib.hid hws
  have HW := Lib.hid hW
  have HM := Lib.hid hm
  clear hR hrow hws hW hm
  go_enter Try.func29, Try.ntmps29
  go_upto_region 1 with (fail)
  have hb0 : Blk (w.alloc (.cells #[.string l, .string r, .int .i64 b, .slice B m d] 28)) w.heap.size 28 #[.string l, .string r, .int .i64 b, .slice B m d] := Blk.new w _ _
  have hw0 : Below w.heap.size w (w.alloc (.cells #[.string l, .string r, .int .i64 b, .slice B m d] 28)) := (Below.refl _ _).alloc (Nat.le_refl _) _
  obtain ⟨w1, hw1⟩ : ∃ w1, w1 = w.alloc (.cells #[.string l, .string r, .int .i64 b, .slice B m d] 28) := ⟨_, rfl⟩
  obtain ⟨g, hg⟩ : ∃ g, g = w.heap.size := ⟨_, rfl⟩
  rw [← hw1] at hb0 hw0 ⊢
  rw [← hg] at hb0 ⊢
  obtain ⟨A2, c2, w2, hr2, ho2, hg2⟩ := OwnR.append fw_len fw_one (by decide) infoF (by rfl) Try.underlying22 (by decide) (OwnR.nil (f := Fw.cells) (n := 4) (t := 28) w1) L.length c (HRow.out.up hw0) hRl R (by simp) (by omega)
  have hbl2 : Below w1.heap.size w1 w2 := ho2.2
  have HR2 := Lib.hid hr2
  have HB0 := Lib.hid (Blk.below hb0 hbl2 hb0.lt)
  have HW2 := Lib.hid (hw0.trans (hbl2.mono hw0.size))
  obtain ⟨g2, cs, rfl, hblk, hsz, hfil, hge, hn2, hc2, _⟩ := OwnR.filled fw_len ho2 (by omega)
  have HBLK := Lib.hid hblk
  have HFIL := Lib.hid hfil
  have HSZ := Lib.hid hsz
  have HGE : Hid (w.heap.size ≤ g2) := Lib.hid (Nat.le_trans hw0.size hge)
  have HNE : Hid (g2 ≠ g) := Lib.hid (by have := hb0.lt; omega)
  clear hr2 hb0 hw0 hw1 hg ho2 hg2 hbl2 hblk hfil hsz hge hn2
  rw [hRl] at HR2 hc2
  obtain ⟨v0, v1, v2, v3, e0, e1, e2, e3⟩ := four_cells cs (i * 4) (by have := HSZ.out; omega)
  have z0 := (Blk.cell HBLK.out (i * 4)).trans e0
  have z1 := (Blk.cell HBLK.out (i * 4 + 1)).trans e1
  have z2 := (Blk.cell HBLK.out (i * 4 + 2)).trans e2
  have z3 := (Blk.cell HBLK.out (i * 4 + 3)).trans e3
  have q0 := Blk.frozen HBLK.out (i * 4)
  have q1 := Blk.frozen HBLK.out (i * 4 + 1)
  have q2 := Blk.frozen HBLK.out (i * 4 + 2)
  have q3 := Blk.frozen HBLK.out (i * 4 + 3)
  obtain ⟨y0, y1, y2, y3⟩ := blk4 HB0.out
  have hadd := add_zero_block g2 (i * 4)
  clear e0 e1 e2 e3
  go_wp2_with (at_builtin; refine wpList_append_run rfl rfl (by simp [Region.wanted]) rfl rfl HR2.out ?_)
  go_ret
  have hbe : Below w.heap.size w ((((w2.setCell ⟨g2, i * 4, none⟩ (.string l)).setCell ⟨g2, i * 4 + 1, none⟩ (.string r)).setCell ⟨g2, i * 4 + 2, none⟩ (.int .i64 b)).setCell ⟨g2, i * 4 + 3, none⟩ (.slice B m d)) :=
    (((HW2.out.setCell HGE.out _).setCell HGE.out _).setCell HGE.out _).setCell HGE.out _
  refine ⟨_, _, _, rfl, by rw [List.length_set], hc2, ⟨R.set i ⟨l, r, b, W, B, d⟩, by rw [List.map_set, HR.out]; rfl, ?_, ?_⟩, hbe⟩
  · have hf2 := Filled.set fw_len HFIL.out (i := i) (by omega) (⟨l, r, b, W, B, d⟩ : Fw) (by exact HSZ.out)
    have hbf := (((Blk.set_ HBLK.out (i * 4) (.string l)).set_ (i * 4 + 1) (.string r)).set_ (i * 4 + 2) (.int .i64 b)).set_ (i * 4 + 3) (.slice B m d)
    refine hf2.at_ (t := 28) ?_
    have hcs : Fw.cells ⟨l, r, b, W, B, d⟩ = [.string l, .string r, .int .i64 b, .slice B m d] := by unfold Fw.cells; rw [HM.out]
    rw [hcs]
    exact hbf
  · intro z hz
    rcases List.mem_or_eq_of_mem_set hz with hz | rfl
    · exact (HWs.out z hz).up hbe
    · exact ⟨HW.out.up hbe, by show W.length ≤ d; rw [HM.out]; exact hd⟩

end Go.Proofs.Ytllkegonhghkcaa
