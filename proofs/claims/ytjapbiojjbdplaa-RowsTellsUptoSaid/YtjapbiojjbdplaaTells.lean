/-
  collatorlaw03.RowsTells: whatever comes in, of at most 2^20 bytes, it returns true.
-/
import Derived.Test.YtjapbiojjbdplaaRefS
import Derived.Test.YtjapbiojjbdplaaRefP
import Derived.Deep.RegionHeld3
namespace Go.Proofs.Ytjapbiojjbdplaa
open Go.RowKit
open Pl

/-- some texts, none of them too long, nor all of them together, nor too many -/
def FitT (ss : List ByteArray) : Prop := ss.length ≤ 4194304 ∧ total ss ≤ 4194304 ∧ ∀ s ∈ ss, s.size ≤ 4194304
theorem Fit.t {ss : List ByteArray} (h : Fit ss) : FitT ss := ⟨Nat.le_trans h.1 (by omega), h.2⟩
def ListsT (wx : World) (g n : Nat) : Prop := ∀ k, k < n → ∃ X, FitT X ∧ HeldAt wx g k X
theorem ListsT.below {wx wy : World} {g n : Nat} (h : ListsT wx g n) (hb : Below wx.heap.size wx wy) : ListsT wy g n := by
  intro k hk
  obtain ⟨X, hf, A, c, hc, hl, hs⟩ := h k hk
  exact ⟨X, hf, A, c, (hb.cell (p := ⟨g, k, none⟩) (lt_of_cell hc)).trans hc, hl, (hs.below hb).more hb.size⟩
def IsListT (w : World) (v : Value) : Prop := ∃ A X c, v = .slice A X.length c ∧ FitT X ∧ X.length ≤ c ∧ Strs w w.heap.size A X
theorem listsT_new (w : World) (l : List Value) (h : ∀ v ∈ l, IsListT w v) : ListsT (w.alloc (.cells l.toArray 22)) w.heap.size l.length := by
  intro k hk
  obtain ⟨A, X, c, hv, hf, hl, hs⟩ := h l[k] (List.getElem_mem hk)
  refine ⟨X, hf, A, c, ?_, hl, (hs.alloc (Nat.le_refl _) _).more (by simp)⟩
  rw [cell_of_row _ w.heap.size k _ 22 (0, 0) (heap_alloc_new w _)]
  simp [hk, hv]
/-- behind the statement that lays the lists -/
def CutC (w : World) (m : Nat) (s13 : Value) (wx : World) : Prop := ∃ g, s13 = .slice (some ⟨g, 0, none⟩) m m ∧ ListsT wx g m ∧ Below w.heap.size w wx
theorem cutC_new {w w4 : World} (m : Nat) (l : List Value) (hb : Below w.heap.size w w4) (hm : l.length = m) (h : ∀ v ∈ l, IsListT w4 v) :
    CutC w m (.slice (some ⟨w4.heap.size, 0, none⟩) m m) (w4.alloc (.cells l.toArray 22)) := by
  subst hm
  exact ⟨_, rfl, listsT_new w4 l h, hb.alloc hb.size _⟩
theorem IsListT.below {w w' : World} {v : Value} (h : IsListT w v) (hb : Below w.heap.size w w') : IsListT w' v := by
  obtain ⟨A, X, c, hv, hf, hl, hs⟩ := h
  exact ⟨A, X, c, hv, hf, hl, (hs.below hb).more hb.size⟩
theorem fitT_split {ys : List ByteArray} {t : ByteArray} (h : txts ys = splitL (txt t)) (ht : t.size ≤ 200) : FitT ys := by
  obtain ⟨zs, h1, h2, h3, h4⟩ := lines_of t
  obtain rfl : zs = ys := txts_inj (h1.trans h.symm)
  exact ⟨by omega, by omega, fun y hy => by have := h4 y hy; omega⟩

theorem refRight_at (A : Option Addr) (ss : List ByteArray) (l c H : Nat) (r : Bool) (w : World) (ha : Strs w H A ss) (hl : ss.length = l) (h1 : l ≤ 140737488355328) (hsz : ∀ s ∈ ss, s.size ≤ 140737488355328) (hr : rightL (txts ss) = r) :
    Calls Try.prog 15 #[.slice A l c] w fun e w' => e = .returned (.bool r) ∧ Below w.heap.size w w' := by
  subst hl hr
  refine (refRight_any A ss c H w ha h1 hsz).mono ?_
  rintro e w' ⟨rfl, n, rfl⟩
  exact ⟨rfl, below_drewN (Below.refl _ w) n⟩
theorem refShared_at (A B : Option Addr) (ss ts : List ByteArray) (l m c d H : Nat) (p q : Int) (w : World) (ha : Strs w H A ss) (hb : Strs w H B ts) (hl : ss.length = l) (hm : ts.length = m) (h3 : l ≤ 140737488355328) (h4 : m ≤ 140737488355328)
    (hp : (aheadL ss ts : Int) = p) (hq : (behindL (ss.drop (aheadL ss ts)) (ts.drop (aheadL ss ts)) : Int) = q) :
    Calls Try.prog 17 #[.slice A l c, .slice B m d] w fun e w' => e = .returned (.tuple #[.int .i64 p, .int .i64 q]) ∧ Below w.heap.size w w' := by
  subst hl hm hp hq
  refine (refShared_any A B ss ts c d H w ha hb h3 h4).mono ?_
  rintro e w' ⟨rfl, n, rfl⟩
  exact ⟨rfl, below_drewN (Below.refl _ w) n⟩
theorem refSplit_at (s : ByteArray) (ys : List ByteArray) (hs : s.size ≤ 200) (hy : txts ys = splitL (txt s)) (w : World) :
    Calls Try.prog 11 #[.string s] w fun e W' => ∃ (A : Option Addr) (c : Nat), e = .returned (.slice A ys.length c) ∧ Strs W' W'.heap.size A ys ∧ ys.length ≤ c ∧ Below w.heap.size w W' := by
  refine (refSplit_any s (by omega) w).mono ?_
  rintro e w' ⟨zs, A, c, rfl, hz, h1, h2, h3⟩
  obtain rfl : zs = ys := txts_inj (hz.trans hy.symm)
  exact ⟨A, c, rfl, h1, h2, h3⟩

set_option maxHeartbeats 4000000 in
set_option maxRecDepth 100000 in
theorem tells_walk (s : ByteArray) (A B C D : Option Addr) (one two : List ByteArray) (zs ts : List Int) (c d e f : Nat) (w : World) (ha : Strs w w.heap.size A one) (hb : Strs w w.heap.size B two) (hc : Ints w w.heap.size C zs) (hd : Ints w w.heap.size D ts)
    (h1 : one.length ≤ c) (h2 : two.length ≤ d) (h3 : zs.length ≤ 140737488355328) (h4 : ts.length ≤ 140737488355328)
    (hz : ∀ z ∈ zs, -9223372036854775808 ≤ z ∧ z ≤ 9223372036854775807) (ht : ∀ z ∈ ts, -9223372036854775808 ≤ z ∧ z ≤ 9223372036854775807) (hf1 : Fit (one.take 20)) (hf2 : Fit (two.take 20)) (hs : s.size ≤ 140737488355328) :
    Calls Try.prog 3 #[.string s, .slice A one.length c, .slice B two.length d, .slice C zs.length e, .slice D ts.length f] w fun e w' => e = .returned (.bool true) ∧ Below w.heap.size w w' := by
  have HZ := Lib.hid hz
  have HT := Lib.hid ht
  have HF1 := Lib.hid hf1
  have HF2 := Lib.hid hf2
  clear hz ht hf1 hf2
  have hcs := cut_size s
  go_enter Try.func3, Try.ntmps3
  go_wp2_with fail
  refine (awake_any _).mono ?_
  rintro e' w1 ⟨rfl, hb1⟩
  go_wp2_with fail
  generalize s.extract 0 (min (s.size : Int) 200).toNat = t at *
  have hbd : Below w.heap.size w w1.drew := hb1.drew
  have m1 : min (one.length : Int) 20 ≤ (c : Int) := by omega
  have m0 : 0 ≤ min (one.length : Int) 20 := by omega
  have n1 : min (two.length : Int) 20 ≤ (d : Int) := by omega
  have n0 : 0 ≤ min (two.length : Int) 20 := by omega
  obtain ⟨ys, hy1, hy2, _, _⟩ := lines_of t
  have HY1 := Lib.hid hy1
  clear hy1
  go_cut [13] (fun s13 wx => CutC w 5 s13 wx)
  case first =>
    refine wp_region_noPanic ?_
    refine wp_region_any (by kernel_rfl) ?_
    change wpAny _ _ _ _ 18 #[false, false, false, false, false, false, false, false, false, false, false, false, false, false, false, false, false, false] _ (World.drew _)
    refine wpAny_take (i := 0) (v := (.slice A one.length c)) rfl (by kernel_rfl) (by kernel_rfl) (by kernel_rfl) (fun _ _ _ h => h) (Or.inl ⟨by rfl, by intro w; go_simp⟩) ?_
    change wpAny _ _ _ _ _ _ (Act.put _ (some 28) (.slice A one.length c)) _
    simp only [Act.put, List.setIfInBounds_toArray, List.set_cons_zero, List.set_cons_succ]
    refine wpAny_take (i := 1) (v := (.slice A one.length c)) rfl (by kernel_rfl) (by kernel_rfl) (by kernel_rfl) (fun _ _ _ h => h) (Or.inl ⟨by rfl, by intro w; go_simp⟩) ?_
    change wpAny _ _ _ _ _ _ (Act.put _ (some 29) (.slice A one.length c)) _
    simp only [Act.put, List.setIfInBounds_toArray, List.set_cons_zero, List.set_cons_succ]
    refine wpAny_take (i := 2) (v := (.int .i64 one.length)) rfl (by kernel_rfl) (by kernel_rfl) (by kernel_rfl) (fun _ _ _ h => h) (Or.inl ⟨by rfl, by intro w; go_simp⟩) ?_
    change wpAny _ _ _ _ _ _ (Act.put _ (some 30) (.int .i64 one.length)) _
    simp only [Act.put, List.setIfInBounds_toArray, List.set_cons_zero, List.set_cons_succ]
    refine wpAny_take (i := 3) (v := (.int .i64 (min (one.length : Int) 20))) rfl (by kernel_rfl) (by kernel_rfl) (by kernel_rfl) (fun _ _ _ h => h) (Or.inl ⟨by rfl, by intro w; go_simp⟩) ?_
    change wpAny _ _ _ _ _ _ (Act.put _ (some 31) (.int .i64 (min (one.length : Int) 20))) _
    simp only [Act.put, List.setIfInBounds_toArray, List.set_cons_zero, List.set_cons_succ]
    refine wpAny_take (i := 4) (v := (.slice A (min (one.length : Int) 20).toNat c)) rfl (by kernel_rfl) (by kernel_rfl) (by kernel_rfl) (fun _ _ _ h => h) (Or.inl ⟨by rfl, by intro w; go_simp⟩) ?_
    change wpAny _ _ _ _ _ _ (Act.put _ (some 32) (.slice A (min (one.length : Int) 20).toNat c)) _
    simp only [Act.put, List.setIfInBounds_toArray, List.set_cons_zero, List.set_cons_succ]
    refine wpAny_take (i := 5) (v := (.slice B two.length d)) rfl (by kernel_rfl) (by kernel_rfl) (by kernel_rfl) (fun _ _ _ h => h) (Or.inl ⟨by rfl, by intro w; go_simp⟩) ?_
    change wpAny _ _ _ _ _ _ (Act.put _ (some 33) (.slice B two.length d)) _
    simp only [Act.put, List.setIfInBounds_toArray, List.set_cons_zero, List.set_cons_succ]
    refine wpAny_take (i := 6) (v := (.slice B two.length d)) rfl (by kernel_rfl) (by kernel_rfl) (by kernel_rfl) (fun _ _ _ h => h) (Or.inl ⟨by rfl, by intro w; go_simp⟩) ?_
    change wpAny _ _ _ _ _ _ (Act.put _ (some 34) (.slice B two.length d)) _
    simp only [Act.put, List.setIfInBounds_toArray, List.set_cons_zero, List.set_cons_succ]
    refine wpAny_take (i := 7) (v := (.int .i64 two.length)) rfl (by kernel_rfl) (by kernel_rfl) (by kernel_rfl) (fun _ _ _ h => h) (Or.inl ⟨by rfl, by intro w; go_simp⟩) ?_
    change wpAny _ _ _ _ _ _ (Act.put _ (some 35) (.int .i64 two.length)) _
    simp only [Act.put, List.setIfInBounds_toArray, List.set_cons_zero, List.set_cons_succ]
    refine wpAny_take (i := 8) (v := (.int .i64 (min (two.length : Int) 20))) rfl (by kernel_rfl) (by kernel_rfl) (by kernel_rfl) (fun _ _ _ h => h) (Or.inl ⟨by rfl, by intro w; go_simp⟩) ?_
    change wpAny _ _ _ _ _ _ (Act.put _ (some 36) (.int .i64 (min (two.length : Int) 20))) _
    simp only [Act.put, List.setIfInBounds_toArray, List.set_cons_zero, List.set_cons_succ]
    refine wpAny_take (i := 9) (v := (.slice B (min (two.length : Int) 20).toNat d)) rfl (by kernel_rfl) (by kernel_rfl) (by kernel_rfl) (fun _ _ _ h => h) (Or.inl ⟨by rfl, by intro w; go_simp⟩) ?_
    change wpAny _ _ _ _ _ _ (Act.put _ (some 37) (.slice B (min (two.length : Int) 20).toNat d)) _
    simp only [Act.put, List.setIfInBounds_toArray, List.set_cons_zero, List.set_cons_succ]
    refine wpAny_take (i := 10) (v := (.slice C zs.length e)) rfl (by kernel_rfl) (by kernel_rfl) (by kernel_rfl) (fun _ _ _ h => h) (Or.inl ⟨by rfl, by intro w; go_simp⟩) ?_
    change wpAny _ _ _ _ _ _ (Act.put _ (some 38) (.slice C zs.length e)) _
    simp only [Act.put, List.setIfInBounds_toArray, List.set_cons_zero, List.set_cons_succ]
    refine wpAny_take (i := 12) (v := (.slice D ts.length f)) rfl (by kernel_rfl) (by kernel_rfl) (by kernel_rfl) (fun _ _ _ h => h) (Or.inl ⟨by rfl, by intro w; go_simp⟩) ?_
    change wpAny _ _ _ _ _ _ (Act.put _ (some 40) (.slice D ts.length f)) _
    simp only [Act.put, List.setIfInBounds_toArray, List.set_cons_zero, List.set_cons_succ]
    refine wpAny_take (i := 14) (v := (.string t)) rfl (by kernel_rfl) (by kernel_rfl) (by kernel_rfl) (fun _ _ _ h => h) (Or.inl ⟨by rfl, by intro w; go_simp⟩) ?_
    change wpAny _ _ _ _ _ _ (Act.put _ (some 42) (.string t)) _
    simp only [Act.put, List.setIfInBounds_toArray, List.set_cons_zero, List.set_cons_succ]
    refine wpAny_ready (rs := [11]) (by kernel_rfl) (by simp) (AllReady.cons rfl (fun K hK => ?_) AllReady.nil)
    go_simp
    refine (lines_at _ zs _ _ ((hc.below hbd).more hbd.size) h3 HZ.out).mono ?_
    rintro e4 w4 ⟨A4, c4, rfl, hA4, hc4, hb4⟩
    refine hK _ _ ?_
    clear hK K
    simp only [List.setIfInBounds_toArray, List.set_cons_zero, List.set_cons_succ]
    have hb5 : Below w.heap.size w w4 := hbd.trans (hb4.mono hbd.size)
    refine wpAny_ready (rs := [13]) (by kernel_rfl) (by simp) (AllReady.cons rfl (fun K hK => ?_) AllReady.nil)
    go_simp
    refine (lines_at _ ts _ _ ((hd.below hb5).more hb5.size) h4 HT.out).mono ?_
    rintro e6 w6 ⟨A6, c6, rfl, hA6, hc6, hb6⟩
    refine hK _ _ ?_
    clear hK K
    simp only [List.setIfInBounds_toArray, List.set_cons_zero, List.set_cons_succ]
    have hb7 : Below w.heap.size w w6 := hb5.trans (hb6.mono hb5.size)
    refine wpAny_ready (rs := [15]) (by kernel_rfl) (by simp) (AllReady.cons rfl (fun K hK => ?_) AllReady.nil)
    go_simp
    refine (refSplit_at t ys (by omega) HY1.out _).mono ?_
    rintro e8 w8 ⟨A8, c8, rfl, hA8, hc8, hb8⟩
    refine hK _ _ ?_
    clear hK K
    simp only [List.setIfInBounds_toArray, List.set_cons_zero, List.set_cons_succ]
    have hb9 : Below w.heap.size w w8 := hb7.trans (hb8.mono hb7.size)
    refine wpAny_ready (rs := [16]) (by kernel_rfl) (by simp) (AllReady.cons rfl (fun K hK => ?_) AllReady.nil)
    go_simp
    refine hK _ _ ?_
    clear hK K
    simp only [List.setIfInBounds_toArray, List.set_cons_zero, List.set_cons_succ]
    refine wpAny_ready (rs := [17]) (by kernel_rfl) (by simp) (AllReady.cons rfl (fun K hK => ?_) AllReady.nil)
    go_simp
    refine hK _ _ ?_
    clear hK K
    simp only [List.setIfInBounds_toArray, List.set_cons_zero, List.set_cons_succ]
    refine wpAny_done (by kernel_rfl) ?_ _
    refine NoPanic.normal ?_
    go_wp2_with fail
    go_meet
    have L : IsListT w4 (.slice A4 (linesL zs).length c4) := ⟨A4, linesL zs, c4, rfl, (fit_lines (lines_le zs) (lines_sizes zs)).t, hc4, hA4⟩
    have M : IsListT w6 (.slice A6 (linesL ts).length c6) := ⟨A6, linesL ts, c6, rfl, (fit_lines (lines_le ts) (lines_sizes ts)).t, hc6, hA6⟩
    refine cutC_new 5 [_, _, _, _, _] hb9 rfl ?_
    intro v hv
    simp only [List.mem_cons, List.not_mem_nil, or_false] at hv
    rcases hv with rfl | rfl | rfl | rfl | rfl
    · exact ⟨A, one.take 20, c, by rw [show (min (one.length : Int) 20).toNat = (one.take 20).length from by simp; omega], HF1.out.t, by simp; omega, ((ha.take 20).below hb9).more hb9.size⟩
    · exact ⟨B, two.take 20, d, by rw [show (min (two.length : Int) 20).toNat = (two.take 20).length from by simp; omega], HF2.out.t, by simp; omega, ((hb.take 20).below hb9).more hb9.size⟩
    · exact (L.below hb6).below hb8
    · exact M.below hb8
    · exact ⟨A8, ys, c8, rfl, fitT_split HY1.out hcs, hc8, hA8⟩
  case rest =>
    obtain ⟨g, rfl, hL, hbx⟩ := hcut
    clear hbd hb1 ha hb hc hd HZ HT HF1 HF2 m1 m0 n1 n0
    go_wp2_with fail
    go_loopw [15, 17, 18, 19, 20, 21, 47] (fun _ _ _ _ _ _ i wr => ∃ k : Nat, k ≤ 5 ∧ i = .int .i64 k ∧ ListsT wr g 5 ∧ Below w.heap.size w wr) (fun _ _ _ _ _ _ i _ => 5 - (intOf i).toNat)
    case atStart => exact ⟨0, by omega, rfl, hL, hbx⟩
    case round =>
      obtain ⟨k, hk, rfl, hLk, hbk⟩ := hrel
      clear hL hbx
      by_cases hlt : k < 5
      · obtain ⟨Y, ⟨hf1, hf2', hf3⟩, AY, cY, hcell, hcY, hsY⟩ := hLk k hlt
        have hlt' : (k : Int) < 5 := by omega
        have HF3 := Lib.hid hf3
        clear hf3
        go_wp2_with fail
        refine (join_at _ Y _ _ (ba (txts Y).flatten) _ hsY rfl (by omega) (by omega) rfl).mono ?_
        rintro e5 w5 ⟨rfl, hb5⟩
        replace hLk := hLk.below hb5
        replace hbk := hbk.trans (hb5.mono hbk.size)
        replace hsY := (hsY.below hb5).more hb5.size
        clear hb5 hcell
        go_wp2_with fail
        refine (refJoin_any _ Y _ _ _ hsY (by omega) (by omega)).mono ?_
        rintro e6 w6 ⟨rfl, rfl⟩
        generalize ba (txts Y).flatten = tt
        have hxx : (tt.toList == tt.toList) = true := by simp
        go_wp2_with fail
        refine (right_at _ Y _ _ _ (rightL (txts Y)) _ hsY rfl (by omega) (fun s hs => by have := HF3.out s hs; omega) rfl).mono ?_
        rintro e7 w7 ⟨rfl, hb7⟩
        replace hLk := hLk.below hb7
        replace hbk := hbk.trans (hb7.mono hbk.size)
        replace hsY := (hsY.below hb7).more hb7.size
        clear hb7
        go_wp2_with fail
        refine (refRight_at _ Y _ _ _ (rightL (txts Y)) _ hsY rfl (by omega) (fun s hs => by have := HF3.out s hs; omega) rfl).mono ?_
        rintro e8 w8 ⟨rfl, hb8⟩
        replace hLk := hLk.below hb8
        replace hbk := hbk.trans (hb8.mono hbk.size)
        replace hsY := (hsY.below hb8).more hb8.size
        clear hb8 hxx
        generalize rightL (txts Y) = rb
        have hrb : (rb != rb) = false := by simp
        go_wp2_with fail
        clear hrb
        go_loopw [17, 18, 19, 20, 21, 65] (fun _ _ _ _ _ i wr => ∃ j : Nat, j ≤ 5 ∧ i = .int .i64 j ∧ ListsT wr g 5 ∧ Strs wr wr.heap.size AY Y ∧ Below w.heap.size w wr) (fun _ _ _ _ _ i _ => 5 - (intOf i).toNat)
        case atStart => exact ⟨0, by omega, rfl, hLk, hsY, hbk⟩
        case round =>
          obtain ⟨j, hj, rfl, hLj, hsj, hbj⟩ := hrel
          clear hLk hsY hbk
          by_cases hlt2 : j < 5
          · obtain ⟨Z, ⟨hz1, hz2, hz3⟩, AZ, cZ, hcellZ, hcZ, hsZ⟩ := hLj j hlt2
            have hlt2' : (j : Int) < 5 := by omega
            clear hz3
            obtain ⟨p, hp⟩ : ∃ p : Int, (aheadL Y Z : Int) = p := ⟨_, rfl⟩
            obtain ⟨q, hq⟩ : ∃ q : Int, (behindL (Y.drop (aheadL Y Z)) (Z.drop (aheadL Y Z)) : Int) = q := ⟨_, rfl⟩
            have HP := Lib.hid hp
            have HQ := Lib.hid hq
            clear hp hq
            go_wp2_with fail
            refine (shared_at _ _ Y Z _ _ _ _ _ p q _ hsj hsZ rfl rfl hcY hcZ (by omega) (by omega) HP.out HQ.out).mono ?_
            rintro e9 w9 ⟨rfl, hb9⟩
            replace hLj := hLj.below hb9
            replace hbj := hbj.trans (hb9.mono hbj.size)
            replace hsj := (hsj.below hb9).more hb9.size
            replace hsZ := (hsZ.below hb9).more hb9.size
            clear hb9 hcellZ
            go_wp2_with fail
            refine (refShared_at _ _ Y Z _ _ _ _ _ p q _ hsj hsZ rfl rfl (by omega) (by omega) HP.out HQ.out).mono ?_
            rintro e10 w10 ⟨rfl, hb10⟩
            replace hLj := hLj.below hb10
            replace hbj := hbj.trans (hb10.mono hbj.size)
            replace hsj := (hsj.below hb10).more hb10.size
            clear hb10 hsZ HP HQ
            have hpp : (p != p) = false := by simp
            have hqq : (q != q) = false := by simp
            go_wp2_with fail
            go_roundw
            case rel => exact ⟨j + 1, by omega, by go_num, hLj, hsj, hbj⟩
            case measure => simp [intOf]; omega
          · have hlt2' : ¬ (j : Int) < 5 := by omega
            go_wp2_with fail
            go_roundw
            case rel => exact ⟨k + 1, by omega, by go_num, hLj, hbj⟩
            case measure => simp [intOf]; omega
      · have hlt' : ¬ (k : Int) < 5 := by omega
        go_wp2_with fail
        refine (split_at t ys (by omega) HY1.out _).mono ?_
        rintro e5 w5 ⟨A5, c5, rfl, hs5, hc5, hb5⟩
        replace hbk := hbk.trans (hb5.mono hbk.size)
        clear hb5
        go_wp2_with fail
        refine (refSplit_at t ys (by omega) HY1.out _).mono ?_
        rintro e6 w6 ⟨A6, c6, rfl, hs6, hc6, hb6⟩
        replace hbk := hbk.trans (hb6.mono hbk.size)
        replace hs5 := (hs5.below hb6).more hb6.size
        clear hb6
        go_wp2_with fail
        refine (texts_at _ _ ys ys _ _ _ _ _ true _ hs5 hs6 rfl rfl (by omega) (by simp)).mono ?_
        rintro e7 w7 ⟨rfl, hb7⟩
        replace hbk := hbk.trans (hb7.mono hbk.size)
        go_wp2_with fail
        go_ret
        exact ⟨rfl, hbk⟩

end Go.Proofs.Ytjapbiojjbdplaa
