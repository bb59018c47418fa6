/-
  collatorlaw03.RowsParts: whatever the raw numbers and the raw place, it returns true.
-/
import Derived.Test.YtjapbiojjbdplaaSharedLaw
import Derived.Test.YtjapbiojjbdplaaBack
import Derived.Deep.RegionWith
import Derived.Deep.RegionHeld3
import Derived.Deep.DeepCutAuto
namespace Go.Proofs.Ytjapbiojjbdplaa
open Go.RowKit
open Pl

def o1B : ByteArray := ⟨#[111, 110, 108, 121, 32, 111, 110, 101, 10]⟩
def o2B : ByteArray := ⟨#[111, 110, 108, 121, 32, 111, 116, 104, 101, 114, 10]⟩
theorem ahead_snoc {α : Type} [DecidableEq α] (l : List α) (x y : α) (h : x ≠ y) : aheadL (l ++ [x]) (l ++ [y]) = l.length := by
  induction l with
  | nil => simp [aheadL, h]
  | cons z l ih => simp [aheadL, ih]
theorem only_ahead (a : List ByteArray) : aheadL (o1B :: a) (o2B :: a) = 0 := by
  simp [aheadL, show ¬ o1B = o2B from by decide]
theorem only_behind (a : List ByteArray) : behindL (o1B :: a) (o2B :: a) = a.length := by
  unfold behindL
  rw [List.reverse_cons, List.reverse_cons, ahead_snoc _ _ _ (by decide), List.length_reverse]
theorem total_le {a : List ByteArray} (hs : ∀ s ∈ a, s.size ≤ 5) (hl : a.length ≤ 20) : total a ≤ 100 := by
  have h : ∀ (l : List ByteArray), (∀ s ∈ l, s.size ≤ 5) → total l ≤ l.length * 5 := by
    intro l
    induction l with
    | nil => intro _; simp [total, txts]
    | cons x xs ih =>
      intro h
      have h1 := ih (fun s hs => h s (List.mem_cons_of_mem _ hs))
      have h2 := h x (List.mem_cons_self ..)
      have h3 : total (x :: xs) = x.size + total xs := by
        unfold total txts
        rw [List.map_cons, List.flatten_cons, List.length_append, txt, ← Lib.size_eq]
      rw [h3, List.length_cons]
      omega
  have := h a hs
  omega
theorem flat_split (a : List ByteArray) (k : Nat) : (txts a).flatten = (txts (a.take k)).flatten ++ (txts (a.drop k)).flatten := by
  unfold txts
  rw [← List.flatten_append, ← List.map_append, List.take_append_drop]
theorem total_drop (a : List ByteArray) (k : Nat) : total (a.drop k) ≤ total a := by
  unfold total
  rw [flat_split a k, List.length_append]
  omega
theorem joined (a : List ByteArray) (k : Nat) : ((ba (txts (a.take k)).flatten ++ ba (txts (a.drop k)).flatten).toList == (ba (txts a).flatten).toList) = true := by
  rw [beq_iff_eq, toList_data, toList_data, ← txt, ← txt, txt_app, txt_ba, txt_ba, txt_ba, ← flat_split]
/-- Join, wherever what it reads is as it was -/
theorem join_from {w : World} {A : Option Addr} {ss : List ByteArray} {l c : Nat} (hA : Strs w w.heap.size A ss) (hl : ss.length = l) (h1 : l ≤ 140737488355328) (ht : total ss ≤ 140737488355328) :
    ∀ W, Below w.heap.size w W → Calls Try.prog 12 #[.slice A l c] W fun e W' => e = .returned (.string (ba (txts ss).flatten)) ∧ Below W.heap.size W W' :=
  fun W hb => join_at A ss l c _ W ((hA.below hb).more hb.size) hl h1 ht rfl
theorem row_cap {W : World} {base : Nat} {e : TypeId} {A : Option Addr} {n c : Nat} {xs : List Value} (h : W.ownsRow base e 1 (.slice A n c) n xs) : n ≤ c := by
  obtain ⟨_, _, hv, hc, _⟩ := row_shape h
  injection hv with _ _ hv
  subst hv
  exact hc
theorem below_step {v W W' : World} (h : Below v.heap.size v W) (k : Below W.heap.size W W') : Below v.heap.size v W' := h.trans (k.mono h.size)
theorem fewAt_size (z : Int) : (fewAt z).size ≤ 5 := by
  have h := pickI_range z 5 (by omega)
  unfold fewAt
  have : ∀ i, i < 5 → (few.getD i ⟨#[]⟩).size ≤ 5 := by decide
  exact this _ (by omega)
theorem lines_small (zs : List Int) : ∀ s ∈ linesL zs, s.size ≤ 5 := by
  intro s hs
  unfold linesL at hs
  split at hs
  · rcases List.mem_or_eq_of_mem_set hs with h | h
    · obtain ⟨z, _, rfl⟩ := List.mem_map.1 h
      exact fewAt_size z
    · subst h; decide
  · obtain ⟨z, _, rfl⟩ := List.mem_map.1 hs
    exact fewAt_size z

set_option maxHeartbeats 3000000 in
set_option maxRecDepth 100000 in
theorem parts_walk (A B : Option Addr) (zs ts : List Int) (c d : Nat) (at_ : Int) (w : World) (ha : Ints w w.heap.size A zs) (hb : Ints w w.heap.size B ts) (h1 : zs.length ≤ 140737488355328) (h2 : ts.length ≤ 140737488355328)
    (hz : ∀ z ∈ zs, -9223372036854775808 ≤ z ∧ z ≤ 9223372036854775807) (ht : ∀ z ∈ ts, -9223372036854775808 ≤ z ∧ z ≤ 9223372036854775807) (hat1 : -9223372036854775808 ≤ at_) (hat2 : at_ ≤ 9223372036854775807) :
    Calls Try.prog 8 #[.slice A zs.length c, .slice B ts.length d, .int .i64 at_] w fun e w' => e = .returned (.bool true) ∧ Below w.heap.size w w' := by
  have HZ := Lib.hid hz
  have HT := Lib.hid ht
  clear hz ht
  go_enter Try.func8, Try.ntmps8
  go_wp2_with fail
  refine (awake_any _).mono ?_
  rintro e w1 ⟨rfl, hb1⟩
  go_wp2_with fail
  refine (lines_at _ zs _ _ ((ha.below hb1).more hb1.size) h1 HZ.out).mono ?_
  rintro e w2 ⟨A2, c2, rfl, hA2, hc2, hb2⟩
  replace hb1 := hb1.trans (hb2.mono hb1.size)
  clear hb2
  go_wp2_with fail
  refine (lines_at _ ts _ _ ((hb.below hb1).more hb1.size) h2 HT.out).mono ?_
  rintro e w3 ⟨A3, c3, rfl, hA3, hc3, hb3⟩
  replace hb1 := hb1.trans (hb3.mono hb1.size)
  replace hA2 := (hA2.below hb3).more hb3.size
  clear hb3
  have la := lines_le zs
  have lb := lines_le ts
  have HSM := Lib.hid (lines_small zs)
  generalize linesL zs = a at *
  generalize linesL ts = b at *
  go_wp2_with fail
  refine (pick_any _ _ _ hat1 hat2 (by omega) (by omega)).mono ?_
  rintro e w' ⟨rfl, rfl⟩
  obtain ⟨hk0, hk1⟩ := pickI_range at_ ((a.length : Int) + 1) (by omega)
  generalize pickI at_ ((a.length : Int) + 1) = ki at *
  obtain ⟨k, rfl⟩ := Int.eq_ofNat_of_zero_le hk0
  have hk : k ≤ a.length := by omega
  clear hk0 hk1
  go_wp2_with fail
  refine (shared_at _ _ a b _ _ _ _ _ _ _ _ hA2 hA3 rfl rfl hc2 hc3 (by omega) (by omega) rfl rfl).mono ?_
  rintro e w4 ⟨rfl, hb4⟩
  replace hb1 := hb1.trans (hb4.mono hb1.size)
  replace hA2 := (hA2.below hb4).more hb4.size
  replace hA3 := (hA3.below hb4).more hb4.size
  clear hb4
  have HTK := Lib.hid (ahead_take a b k hk)
  have hnl := (ahead_le a b).1
  generalize behindL (a.drop (aheadL a b)) (b.drop (aheadL a b)) = m0 at *
  generalize aheadL a b = n at *
  go_wp2_with fail
  refine (shared_at _ _ (a.take k) b _ _ _ _ _ ((min n k : Nat) : Int) _ _ (hA2.take k) hA3 (by simp; omega) rfl (by omega) hc3 (by omega) (by omega) (by rw [HTK.out]) rfl).mono ?_
  rintro e w5 ⟨rfl, hb5⟩
  replace hb1 := hb1.trans (hb5.mono hb1.size)
  replace hA2 := (hA2.below hb5).more hb5.size
  clear hb5 hA3 HTK
  generalize behindL ((a.take k).drop (aheadL (a.take k) b)) (b.drop (aheadL (a.take k) b)) = m1 at *
  -- the two lists that are made
  obtain ⟨A6, c6, w6, r6, o6, g6⟩ := run_append_strs (w5.alloc (.cells #[.string o1B] 9)) (w5.heap.size + 1) (.slice none 0 0) 0 [] (World.ownsRow_nil _ _ _ _) _ (some ⟨w5.heap.size, 0, none⟩) 1 1 [o1B] (strs_new w5 [o1B]) rfl (by omega) (by simp)
  have hs6 := g6.size
  simp only [World.size_alloc, Nat.zero_add, List.nil_append] at hs6 o6
  have hb6 : Below w5.heap.size w5 w6 := ((Below.refl _ w5).alloc (Nat.le_refl _) _).grown g6 (by simp) (by simp [Value.ownBlock])
  obtain ⟨A7, c7, w7, r7, o7, g7⟩ := run_append_strs w6 (w5.heap.size + 1) _ 1 _ o6 _ A2 a.length c2 a (hA2.below hb6) rfl (by omega) (by omega)
  have hs7 := g7.size
  have hb7 : Below w5.heap.size w5 w7 := hb6.grown g7 (by omega) (fun g hg => by have := (o6.lt g hg).1; omega)
  have hX := Strs.of_own (w := w7) (ss := o1B :: a) (A := A7) (c := c7) (base := w5.heap.size + 1) (e := 9) (by simpa [Nat.add_comm] using o7)
  obtain ⟨A8, c8, w8, r8, o8, g8⟩ := run_append_strs (w7.alloc (.cells #[.string o2B] 9)) (w7.heap.size + 1) (.slice none 0 0) 0 [] (World.ownsRow_nil _ _ _ _) _ (some ⟨w7.heap.size, 0, none⟩) 1 1 [o2B] (strs_new w7 [o2B]) rfl (by omega) (by simp)
  have hs8 := g8.size
  simp only [World.size_alloc, Nat.zero_add, List.nil_append] at hs8 o8
  have hb8 : Below w7.heap.size w7 w8 := ((Below.refl _ w7).alloc (Nat.le_refl _) _).grown g8 (by simp) (by simp [Value.ownBlock])
  obtain ⟨A9, c9, w9, r9, o9, g9⟩ := run_append_strs w8 (w7.heap.size + 1) _ 1 _ o8 _ A2 a.length c2 a ((hA2.below hb7).below (hb8.mono (by omega))) rfl (by omega) (by omega)
  have hs9 := g9.size
  have hb9 : Below w7.heap.size w7 w9 := hb8.grown g9 (by omega) (fun g hg => by have := (o8.lt g hg).1; omega)
  have hY := Strs.of_own (w := w9) (ss := o2B :: a) (A := A9) (c := c9) (base := w7.heap.size + 1) (e := 9) (by simpa [Nat.add_comm] using o9)
  replace hX := (hX.below hb9).more hb9.size
  have hbf : Below w5.heap.size w5 w9 := hb7.trans (hb9.mono (by omega))
  replace hb1 := hb1.trans (hbf.mono hb1.size)
  replace hA2 := (hA2.below hbf).more hbf.size
  have hcc7 := row_cap o7
  have hcc9 := row_cap o9
  have R6 := Lib.hid r6
  have R7 := Lib.hid r7
  have R8 := Lib.hid r8
  have R9 := Lib.hid r9
  clear r6 r7 r8 r9 o6 o7 o8 o9 g6 g7 g8 g9 hb6 hb7 hb8 hb9 hbf hs6 hs7 hs8 hs9
  go_wp2_with (first
    | (at_builtin; refine wpList_append_run (o := ⟨some 43, _, _, _, _, _⟩) rfl rfl (by simp [Region.wanted]) rfl rfl R6.out ?_)
    | (at_builtin; refine wpList_append_run (o := ⟨some 45, _, _, _, _, _⟩) rfl rfl (by simp [Region.wanted]) rfl rfl R7.out ?_)
    | (at_builtin; refine wpList_append_run (o := ⟨some 47, _, _, _, _, _⟩) rfl rfl (by simp [Region.wanted]) rfl rfl R8.out ?_)
    | (at_builtin; refine wpList_append_run (o := ⟨some 49, _, _, _, _, _⟩) rfl rfl (by simp [Region.wanted]) rfl rfl R9.out ?_))
  refine (shared_at _ _ (o1B :: a) (o2B :: a) _ _ _ _ _ 0 (a.length : Int) _ hX hY (by simp; omega) (by simp; omega) hcc7 hcc9 (by omega) (by omega) (by rw [only_ahead]; rfl) (by rw [only_ahead, List.drop_zero, List.drop_zero, only_behind])).mono ?_
  rintro e w10 ⟨rfl, hb10⟩
  replace hb1 := hb1.trans (hb10.mono hb1.size)
  replace hA2 := (hA2.below hb10).more hb10.size
  clear hb10 hX hY R6 R7 R8 R9
  have htot := total_le HSM.out la
  have J1 := Lib.hid (join_from (ss := a.take k) (l := k) (c := c2) (hA2.take k) (by simp; omega) (by omega) (by have := total_take a k; omega))
  have J2 := Lib.hid (join_from (ss := a.drop k) (l := a.length - k) (c := c2 - k) (hA2.drop k c2 hk hc2) (by simp) (by omega) (by have := total_drop a k; omega))
  have J3 := Lib.hid (join_from (ss := a) (l := a.length) (c := c2) hA2 rfl (by omega) (by omega))
  have hjoin := joined a k
  have ht1 : (ba (txts (a.take k)).flatten).size ≤ 100 := by have := total_take a k; rw [Lib.size_eq]; show (txts (a.take k)).flatten.length ≤ 100; unfold total at this htot; omega
  have ht2 : (ba (txts (a.drop k)).flatten).size ≤ 100 := by have := total_drop a k; rw [Lib.size_eq]; show (txts (a.drop k)).flatten.length ≤ 100; unfold total at this htot; omega
  have hbr : Below w10.heap.size w10 w10.drew := (Below.refl _ _).drew
  have H13 := Lib.hid (show k = a.length → ba (txts (a.take k)).flatten = ba (txts a).flatten from fun e => by rw [e, List.take_length])
  generalize ba (txts (a.take k)).flatten = t1 at *
  generalize ba (txts (a.drop k)).flatten = t2 at *
  generalize ba (txts a).flatten = t3 at *
  have HJ := Lib.hid hjoin
  clear htot hjoin hcc7 hcc9 hA2
  go_wp2_with fail
  have hkc : k ≤ c2 := by omega
  have hkc' : (k : Int) ≤ (c2 : Int) := by omega
  have hka' : (k : Int) ≤ (a.length : Int) := by omega
  clear ha hb h1 h2 hat1 hat2 HZ HT HSM la lb hnl hbr
  go_cut [6] (fun s6 wx => s6 = .bool true ∧ Below w.heap.size w wx)
  case first =>
    by_cases hck : c2 = k
    · obtain rfl : k = a.length := by omega
      subst hck
      have hmin : ((((min n a.length : Nat) : Int) == min (n : Int) (a.length : Int)) : Bool) = true := by rw [beq_iff_eq]; omega
      simp only [if_true, Nat.sub_self] at J2
      have HJ1 : Hid (((t1 ++ t2).toList == t1.toList) = true) := by
        have h := HJ.out
        rw [← H13.out rfl] at h
        exact h
      have ht12 : ¬ (9223372036854775807 < t1.size + t2.size) := by omega
      go_region_held3 (fun W => Below w10.heap.size w10 W) (first | assumption | exact (Below.refl _ _).drew)
        (first
          | (go_at_call_of 12 (Value.slice A2 a.length a.length); refine (J1.out _ (by assumption)).mono ?_; rintro e w11 ⟨rfl, hb11⟩; have hc11 := below_step (v := w10) (by assumption) hb11; have hj := HJ1.out)
          | (go_at_call 12; refine (J2.out _ (by assumption)).mono ?_; rintro e w12 ⟨rfl, hb12⟩; have hc12 := below_step (v := w10) (by assumption) hb12))
      all_goals
        go_wp2_with fail
        go_meet
        exact ⟨rfl, hb1.trans (Below.mono (by assumption) hb1.size)⟩
    · rw [if_neg hck] at J2
      have hmin : ((((min n k : Nat) : Int) == min (n : Int) (k : Int)) : Bool) = true := by rw [beq_iff_eq]; omega
      have ht12 : ¬ (9223372036854775807 < t1.size + t2.size) := by omega
      go_region_held3 (fun W => Below w10.heap.size w10 W) (first | assumption | exact (Below.refl _ _).drew)
        (first
          | (go_at_call_of 12 (Value.slice A2 k c2); refine (J1.out _ (by assumption)).mono ?_; rintro e w11 ⟨rfl, hb11⟩; have hc11 := below_step (v := w10) (by assumption) hb11)
          | (go_at_call_of 12 (Value.slice A2 a.length c2); refine (J3.out _ (by assumption)).mono ?_; rintro e w13 ⟨rfl, hb13⟩; have hc13 := below_step (v := w10) (by assumption) hb13; have hj := HJ.out)
          | (go_at_call 12; refine (J2.out _ (by assumption)).mono ?_; rintro e w12 ⟨rfl, hb12⟩; have hc12 := below_step (v := w10) (by assumption) hb12))
      all_goals
        go_wp2_with fail
        go_meet
        exact ⟨rfl, hb1.trans (Below.mono (by assumption) hb1.size)⟩
  case rest =>
    obtain ⟨rfl, hbx⟩ := hcut
    go_wp2_with fail
    go_ret
    exact ⟨rfl, hbx⟩

end Go.Proofs.Ytjapbiojjbdplaa
