/-
  Diff: the shortest script between lines, and of several the first one.
-/
import Derived.Test.YtmonemgjgcfhlaaDMem
import Derived.Deep.DeepCutAuto
namespace Go.Proofs.Ytmonemgjgcfhlaa
open Go.RowKit

/-- what withStep asks of the script so far -/
theorem bnd_of {a b : List ByteArray} {X Y : List Int} {i j lx ly c : Nat} {L : List MEd} (h : Going a b X Y i j lx ly c (L.map MEd.e)) (hlen : a.length + b.length ≤ 256) : L.length ≤ 1073 ∧ ∀ m ∈ L, m.n ≤ 1073741 ∧ m.lines.length ≤ 1073 := by
  obtain ⟨h1, h2⟩ := h.hbd
  have hi := h.hi
  have hj := h.hj
  rw [List.length_map] at h1
  refine ⟨by omega, fun m hm => ?_⟩
  have := h2 (MEd.e m) (List.mem_map_of_mem hm)
  have e1 : (MEd.e m).n = m.n := rfl
  have e2 : (MEd.e m).lines = m.lines := rfl
  rw [e1, e2] at this
  omega
theorem up_of {wT wr : World} {A : Option Addr} {zs : List Int} (h : Ints wT wT.heap.size A zs) (hb : Below wT.heap.size wT wr) : Ints wr wr.heap.size A zs := (h.below hb).more hb.size
theorem num_at {l a b : List ByteArray} {o : Int} {k : Nat} {s : ByteArray} (h : l[k]? = some s) : (Pm.numL l a b o)[k]? = some (if s ∈ a ∧ s ∈ b then (Pm.firstAt s a : Int) else o) := by
  unfold Pm.numL
  rw [List.getElem?_map, h]
  rfl
/-- the number of a line of the first list, of the second one -/
def nx (a b : List ByteArray) (s : ByteArray) : Int := if s ∈ a ∧ s ∈ b then (Pm.firstAt s a : Int) else -1
def ny (a b : List ByteArray) (t : ByteArray) : Int := if t ∈ a ∧ t ∈ b then (Pm.firstAt t a : Int) else -2
theorem cell_num {wr : World} {X : Option Addr} {zs : List Int} {k : Nat} {z : Int} (h : Ints wr wr.heap.size X zs) (hz : zs[k]? = some z) : ∃ ad, X = some ad ∧ wr.cell? (ad.add k) = some (.int .i64 z) := by
  obtain ⟨hk, rfl⟩ := List.getElem?_eq_some_iff.1 hz
  obtain ⟨ad, e, _, hc⟩ := h.at_ hk
  exact ⟨ad, e, hc⟩
theorem strs_up {w w4 : World} {A : Option Addr} {ss : List ByteArray} (h : Strs w w.heap.size A ss) (hb : Below w.heap.size w w4) : Strs w4 w4.heap.size A ss := (h.below hb).more hb.size
theorem cell_str {w : World} {A : Option Addr} {ss : List ByteArray} {k : Nat} {s : ByteArray} (h : Strs w w.heap.size A ss) (hs : ss[k]? = some s) : ∃ ad, A = some ad ∧ w.cell? (ad.add k) = some (.string s) := by
  obtain ⟨hk, rfl⟩ := List.getElem?_eq_some_iff.1 hs
  obtain ⟨ad, e, _, hc⟩ := h.at_ hk
  exact ⟨ad, e, hc⟩
theorem cell_keep {w w' : World} {p : Addr} {v : Value} (h : w.cell? p = some v) (hb : Below w.heap.size w w') : w'.cell? p = some v := (hb.cell (lt_of_cell h)).trans h
theorem DMem.drew {wT wr : World} {q : Place} {bt lx ly c : Nat} {v : Value} {L : List MEd} (h : DMem wT q bt lx ly c v L wr) : DMem wT q bt lx ly c v L wr.drew := h.step ((Below.refl _ _).drew)
theorem DMem.set8' {wT wr : World} {q : Place} {bt lx ly c n : Nat} {v : Value} {L : List MEd} {z : Int} (h : DMem wT q bt lx ly c v L wr) (hq : q.ok wT.heap.size) (e : z = (n : Int)) : DMem wT q bt n ly c v L (wr.setCell ⟨q.b8, 0, none⟩ (.int .i64 z)) := by rw [e]; exact h.set8 hq n
theorem DMem.set9' {wT wr : World} {q : Place} {bt lx ly c n : Nat} {v : Value} {L : List MEd} {z : Int} (h : DMem wT q bt lx ly c v L wr) (hq : q.ok wT.heap.size) (e : z = (n : Int)) : DMem wT q bt lx n c v L (wr.setCell ⟨q.b9, 0, none⟩ (.int .i64 z)) := by rw [e]; exact h.set9 hq n
theorem DMem.set10' {wT wr : World} {q : Place} {bt lx ly c n : Nat} {v : Value} {L : List MEd} {z : Int} (h : DMem wT q bt lx ly c v L wr) (hq : q.ok wT.heap.size) (e : z = (n : Int)) : DMem wT q bt lx ly n v L (wr.setCell ⟨q.b10, 0, none⟩ (.int .i64 z)) := by rw [e]; exact h.set10 hq n
/-- the ways that Diff's round can go -/
inductive Way (a b : List ByteArray) (X Y : List Int) (i j lx ly c : Nat) : Prop where
  | keep (s t : ByteArray) (hs : a[i]? = some s) (ht : b[j]? = some t) (e : nx a b s = ny a b t) : Way a b X Y i j lx ly c
  | cut0 (s : ByteArray) (hs : a[i]? = some s) (hne : ∀ t, b[j]? = some t → nx a b s ≠ ny a b t) (e : nx a b s < 0) : Way a b X Y i j lx ly c
  | cut1 (s : ByteArray) (hs : a[i]? = some s) (hne : ∀ t, b[j]? = some t → nx a b s ≠ ny a b t) (e : 0 ≤ nx a b s) (hc : c = Pm.D X Y (lx - 1) ly + 1) : Way a b X Y i j lx ly c
  | add1 (s t : ByteArray) (hs : a[i]? = some s) (ht : b[j]? = some t) (hne : nx a b s ≠ ny a b t) (e : 0 ≤ nx a b s) (hc : c ≠ Pm.D X Y (lx - 1) ly + 1) : Way a b X Y i j lx ly c
  | add0 (t : ByteArray) (hi : a.length ≤ i) (ht : b[j]? = some t) : Way a b X Y i j lx ly c
  | done (hi : a.length ≤ i) (hj : b.length ≤ j) : Way a b X Y i j lx ly c
theorem way_of {a b : List ByteArray} {X Y : List Int} {i j lx ly c : Nat} {es : List Edt} (h : Going a b X Y i j lx ly c es) : Way a b X Y i j lx ly c := by
  rcases Nat.lt_or_ge i a.length with hi | hi
  · have hs := List.getElem?_eq_getElem hi
    by_cases hk : ∃ t, b[j]? = some t ∧ nx a b a[i] = ny a b t
    · obtain ⟨t, ht, e⟩ := hk
      exact .keep _ t hs ht e
    · have hne : ∀ t, b[j]? = some t → nx a b a[i] ≠ ny a b t := fun t ht e => hk ⟨t, ht, e⟩
      by_cases h0 : nx a b a[i] < 0
      · exact .cut0 _ hs hne h0
      · by_cases hc : c = Pm.D X Y (lx - 1) ly + 1
        · exact .cut1 _ hs hne (by omega) hc
        · have hj : j < b.length := h.addAt (.inl hi) (fun s' hs' => by rw [hs] at hs'; injection hs' with e; subst e; exact ⟨by show 0 ≤ nx a b a[i]; omega, hc⟩)
          exact .add1 _ _ hs (List.getElem?_eq_getElem hj) (hne _ (List.getElem?_eq_getElem hj)) (by omega) hc
  · rcases Nat.lt_or_ge j b.length with hj | hj
    · exact .add0 _ hi (List.getElem?_eq_getElem hj)
    · exact .done hi hj
theorem nx_ne {a b : List ByteArray} {s t : ByteArray} (hs : s ∈ a) (ht : t ∈ b) (h : nx a b s ≠ ny a b t) : s ≠ t := by
  rintro rfl
  exact h (by unfold nx ny; rw [if_pos ⟨hs, ht⟩, if_pos ⟨hs, ht⟩])

set_option maxHeartbeats 8000000 in
set_option maxRecDepth 100000 in
theorem diff_any (A B : Option Addr) (a b : List ByteArray) (c d : Nat) (w : World) (ha : Strs w w.heap.size A a) (hb : Strs w w.heap.size B b) (hlen : a.length + b.length ≤ 256) (hsa : ∀ s ∈ a, s.size ≤ maxLen) (hsb : ∀ s ∈ b, s.size ≤ 140737488355328) :
    Calls Try.prog 13 #[.slice A a.length c, .slice B b.length d] w fun e w' => ∃ A' n c', e = .returned (.slice A' n c') ∧ n = (grp [] (Pm.way a b)).length ∧ Eds w' w'.heap.size A' (grp [] (Pm.way a b)) ∧ Below w.heap.size w w' := by
  have HSA := Lib.hid hsa
  have HSB := Lib.hid hsb
  clear hsa hsb
  have HN1 := Lib.hid (Pm.numL_len a a b (-1))
  have HN2 := Lib.hid (Pm.numL_len b a b (-2))
  go_enter Try.func13, Try.ntmps13
  go_wp2_with fail
  refine (numbered_any A B a b c d _ ha hb (by omega) (by omega) HSA.out (fun s hs => Nat.le_trans (HSB.out s hs) (by unfold maxLen; omega))).mono ?_
  rintro e w1 ⟨X, cx, Y, cy, rfl, hX, hY, hb1⟩
  go_wp2_with fail
  refine (shared_turn X _ _ cx _ hX HN1.out (by omega)).mono ?_
  rintro e w2 ⟨X', cx', xs, rfl, HX, hxl, hX', hb2⟩
  have hB2 := below_step hb1 hb2
  go_wp2_with fail
  refine (shared_turn Y _ _ cy _ ((hY.below hb2).more hb2.size) HN2.out (by omega)).mono ?_
  rintro e w3 ⟨Y', cy', ys, rfl, HY, hyl, hY', hb3⟩
  have hB3 := below_step hB2 hb3
  go_wp2_with fail
  refine (search_any X' Y' xs ys cx' cy' _ ((hX'.below hb3).more hb3.size) hY' (by omega)).mono ?_
  rintro e w4 ⟨L, mk, v, rfl, hT, hb4⟩
  have hB4 := below_step hB3 hb4
  have hXI : Ints w4 w4.heap.size X (Pm.numL a a b (-1)) := by
    have h1 := (hX.below hb2).more hb2.size
    have h2 := (h1.below hb3).more hb3.size
    exact (h2.below hb4).more hb4.size
  have hYI : Ints w4 w4.heap.size Y (Pm.numL b a b (-2)) := by
    have h1 := (hY.below hb2).more hb2.size
    have h2 := (h1.below hb3).more hb3.size
    exact (h2.below hb4).more hb4.size
  obtain ⟨dd, hdd⟩ : ∃ dd, dd = Pm.D xs ys xs.length ys.length := ⟨_, rfl⟩
  have hD := Pm.D_top (x := xs) (y := ys) (Nat.le_refl _) (Nat.le_refl _)
  rw [← hdd] at hD
  have hbT : Blk w4 w3.heap.size 54 #[.slice X' xs.length cx', .slice Y' ys.length cy', .int .i64 (dd : Nat), mk, .int .i64 0, v] := by rw [hdd]; exact hT.blk
  have HT := Lib.hid hT
  have HDD := Lib.hid hdd
  have HBT := Lib.hid hbT
  have htl := hbT.lt
  clear hdd hT hbT hX hY hX' hY' hb1 hb2 hb3 hb4 hB2 hB3
  go_wp2_with fail
  have hb7 : Blk (w4.alloc (.cells #[.pointer (some ⟨w3.heap.size, 0, none⟩)] 47)) w4.heap.size 47 #[.pointer (some ⟨w3.heap.size, 0, none⟩)] := Blk.new w4 47 _
  have hB5 : Below w4.heap.size w4 (w4.alloc (.cells #[.pointer (some ⟨w3.heap.size, 0, none⟩)] 47)) := (Below.refl _ _).alloc (Nat.le_refl _) _
  generalize w4.alloc (.cells #[.pointer (some ⟨w3.heap.size, 0, none⟩)] 47) = W5 at hb7 hB5 ⊢
  have hbT5 := HBT.out.below hB5 HBT.out.lt
  have r0 : W5.cell? ⟨w4.heap.size, 0, none⟩ = some (.pointer (some ⟨w3.heap.size, 0, none⟩)) := hb7.cell 0
  have r1 : W5.cell? ⟨w3.heap.size, 0, none⟩ = some (.slice X' xs.length cx') := hbT5.cell 0
  have r2 : W5.cell? ⟨w3.heap.size, 1, none⟩ = some (.slice Y' ys.length cy') := hbT5.cell 1
  have r3 : W5.cell? ⟨w3.heap.size, 2, none⟩ = some (.int .i64 (dd : Nat)) := hbT5.cell 2
  have hl7 := hb7.lt
  have hlT := hbT5.lt
  have n1 := World.new_ne W5 ⟨w4.heap.size, 0, none⟩ r0
  have n2 := World.new_ne W5 ⟨w3.heap.size, 0, none⟩ r1
  have n3 := World.new_ne W5 ⟨w3.heap.size, 1, none⟩ r2
  have n4 := World.new_ne W5 ⟨w3.heap.size, 2, none⟩ r3
  have m1 : ¬ W5.heap.size + 1 = w4.heap.size := by omega
  have m2 : ¬ W5.heap.size + 1 = w3.heap.size := by omega
  have m3 : ¬ W5.heap.size + 2 = w4.heap.size := by omega
  have m4 : ¬ W5.heap.size + 2 = w3.heap.size := by omega
  have m5 : ¬ W5.heap.size + 1 + 1 = w4.heap.size := by omega
  have m6 : ¬ W5.heap.size + 1 + 1 = w3.heap.size := by omega
  have HB7 := Lib.hid hb7
  have HB5 := Lib.hid hB5
  clear hb7 hbT5 hB5
  go_cut [8, 9, 10] (fun s8 s9 s10 wx => ∃ q : Place, q.b7 = w4.heap.size ∧ s8 = .pointer (some ⟨q.b8, 0, none⟩) ∧ s9 = .pointer (some ⟨q.b9, 0, none⟩) ∧ s10 = .pointer (some ⟨q.b10, 0, none⟩) ∧ q.ok w4.heap.size ∧ DMem w4 q w3.heap.size xs.length ys.length dd (.slice none 0 0) [] wx)
  case first =>
    go_region_held3 (fun W => W.cell? ⟨w4.heap.size, 0, none⟩ = some (.pointer (some ⟨w3.heap.size, 0, none⟩)) ∧ W.cell? ⟨w3.heap.size, 0, none⟩ = some (.slice X' xs.length cx') ∧ W.cell? ⟨w3.heap.size, 1, none⟩ = some (.slice Y' ys.length cy') ∧ W.cell? ⟨w3.heap.size, 2, none⟩ = some (.int .i64 (dd : Nat))) (first | (refine ⟨?_, ?_, ?_, ?_⟩ <;> repeat (first | exact r0 | exact r1 | exact r2 | exact r3 | refine keep_drew ?_ | refine keep_alloc _ ?_ | refine keep_set _ (by simp; omega) ?_))) (fail)
    all_goals
      go_split_ands
      go_wp2_with fail
      go_meet
      first
        | exact ⟨⟨w4.heap.size, W5.heap.size, W5.heap.size + 1, W5.heap.size + 1 + 1, W5.heap.size + 3⟩, rfl, rfl, rfl, rfl, placed (by omega) (by omega) (by omega) (by omega) (by omega) (by omega), first_mem HB5.out HB7.out (three _ _ _ _).2.2.2 (three _ _ _ _).1 (three _ _ _ _).2.1 (three _ _ _ _).2.2.1 (by simp)⟩
        | exact ⟨⟨w4.heap.size, W5.heap.size, W5.heap.size + 1 + 1, W5.heap.size + 1, W5.heap.size + 3⟩, rfl, rfl, rfl, rfl, placed (by omega) (by omega) (by omega) (by omega) (by omega) (by omega), first_mem HB5.out HB7.out (three _ _ _ _).2.2.2 (three _ _ _ _).1 (three _ _ _ _).2.2.1 (three _ _ _ _).2.1 (by simp)⟩
        | exact ⟨⟨w4.heap.size, W5.heap.size + 1, W5.heap.size, W5.heap.size + 1 + 1, W5.heap.size + 3⟩, rfl, rfl, rfl, rfl, placed (by omega) (by omega) (by omega) (by omega) (by omega) (by omega), first_mem HB5.out HB7.out (three _ _ _ _).2.2.2 (three _ _ _ _).2.1 (three _ _ _ _).1 (three _ _ _ _).2.2.1 (by simp)⟩
        | exact ⟨⟨w4.heap.size, W5.heap.size + 1 + 1, W5.heap.size, W5.heap.size + 1, W5.heap.size + 3⟩, rfl, rfl, rfl, rfl, placed (by omega) (by omega) (by omega) (by omega) (by omega) (by omega), first_mem HB5.out HB7.out (three _ _ _ _).2.2.2 (three _ _ _ _).2.2.1 (three _ _ _ _).1 (three _ _ _ _).2.1 (by simp)⟩
        | exact ⟨⟨w4.heap.size, W5.heap.size + 1, W5.heap.size + 1 + 1, W5.heap.size, W5.heap.size + 3⟩, rfl, rfl, rfl, rfl, placed (by omega) (by omega) (by omega) (by omega) (by omega) (by omega), first_mem HB5.out HB7.out (three _ _ _ _).2.2.2 (three _ _ _ _).2.1 (three _ _ _ _).2.2.1 (three _ _ _ _).1 (by simp)⟩
        | exact ⟨⟨w4.heap.size, W5.heap.size + 1 + 1, W5.heap.size + 1, W5.heap.size, W5.heap.size + 3⟩, rfl, rfl, rfl, rfl, placed (by omega) (by omega) (by omega) (by omega) (by omega) (by omega), first_mem HB5.out HB7.out (three _ _ _ _).2.2.2 (three _ _ _ _).2.2.1 (three _ _ _ _).2.1 (three _ _ _ _).1 (by simp)⟩
  case rest =>
    obtain ⟨q, hq7, rfl, rfl, rfl, hq, hM⟩ := hcut
    have HM := Lib.hid hM
    have HG0 := Lib.hid (Going.first HX.out HY.out)
    rw [← HDD.out] at HG0
    rw [← hq7]
    have HQ7 := Lib.hid hq7
    have HQ := Lib.hid hq
    clear hM hq7 hq r0 r1 r2 r3 hl7 hlT n1 n2 n3 n4 m1 m2 m3 m4 m5 m6
    go_wp2_with fail
    go_loopw [12, 13, 14] (fun s i j wr => ∃ (ni nj lx ly cc : Nat) (Lm : List MEd), i = .int .i64 ni ∧ j = .int .i64 nj ∧ cc ≤ dd ∧ Going a b xs ys ni nj lx ly cc (Lm.map MEd.e) ∧ DMem w4 q w3.heap.size lx ly cc s Lm wr) (fun _ i j _ => a.length + b.length - ((intOf i).toNat + (intOf j).toNat))
    case atStart => exact ⟨0, 0, _, _, _, [], rfl, rfl, Nat.le_refl _, HG0.out, HM.out⟩
    case round =>
      clear HM HG0
      obtain ⟨ni, nj, lx, ly, cc, Lm, rfl, rfl, hcd, hG, hM⟩ := hrel
      have hi := hG.hi
      have hj := hG.hj
      have hw := way_of hG
      obtain ⟨hbl, hbm⟩ := bnd_of hG hlen
      have HBM := Lib.hid hbm
      obtain ⟨hlx, hly⟩ := hG.le
      have hXr := up_of hXI hM.below
      have hYr := up_of hYI hM.below
      have n1 : ¬ q.b8 = q.b9 := HQ.out.n89
      have n2 : ¬ q.b9 = q.b8 := fun h => HQ.out.n89 h.symm
      have n3 : ¬ q.b8 = q.b10 := HQ.out.n8t
      have n4 : ¬ q.b10 = q.b8 := fun h => HQ.out.n8t h.symm
      have n5 : ¬ q.b9 = q.b10 := HQ.out.n9t
      have n6 : ¬ q.b10 = q.b9 := fun h => HQ.out.n9t h.symm
      clear hbm
      rcases hw with ⟨s, t, hs, ht, e⟩ | ⟨s, hs, hne, e⟩ | ⟨s, hs, hne, e, hc⟩ | ⟨s, t, hs, ht, hne, e, hc⟩ | ⟨t, hia, ht⟩ | ⟨hia, hjb⟩
      · obtain ⟨hil, _⟩ := List.getElem?_eq_some_iff.1 hs
        obtain ⟨ax, rfl, hcx0⟩ := cell_num hXr (num_at hs)
        have hcx : wr.cell? (ax.add ni) = some (.int .i64 (nx a b s)) := hcx0
        have d1 : decide (ni < a.length) = true := decide_eq_true hil
        clear hcx0
        obtain ⟨hjl, _⟩ := List.getElem?_eq_some_iff.1 ht
        obtain ⟨ay, rfl, hcy0⟩ := cell_num hYr (num_at ht)
        have hcy : wr.cell? (ay.add nj) = some (.int .i64 (ny a b t)) := hcy0
        have d2 : decide (nj < b.length) = true := decide_eq_true hjl
        clear hcy0
        obtain ⟨k1, k2, k3⟩ := hG.keep hs ht e
        have HK := Lib.hid k3
        have e1 : ((nx a b s == ny a b t) : Bool) = true := by rw [e]; simp
        have HM := Lib.hid hM
        clear hM
        clear k3 e hG hs ht
        go_wp2_with fail
        go_quiet (fail)
        go_wp2_with fail
        refine (withStep_any _ Lm 1 [] none 0 q.base _ (HM.out.drewN nq).scr (HM.out.drewN nq).size (.inl rfl) (by simp) hbl HBM.out).mono ?_
        rintro e5 w5 ⟨v5, L5, rfl, hS5, hL5, hB5⟩
        have hM5 := (HM.out.drewN nq).with_ HQ.out hS5 hB5
        have HL5 := Lib.hid hL5
        have HM5 := Lib.hid hM5
        clear hL5 hS5 hB5
        have r8 : w5.cell? ⟨q.b8, 0, none⟩ = some (.int .i64 (lx : Nat)) := hM5.k8.cell 0
        have f8 : w5.frozen? ⟨q.b8, 0, none⟩ = false := hM5.k8.frozen 0
        have r9 : w5.cell? ⟨q.b9, 0, none⟩ = some (.int .i64 (ly : Nat)) := hM5.k9.cell 0
        have f9 : w5.frozen? ⟨q.b9, 0, none⟩ = false := hM5.k9.frozen 0
        clear hM5
        go_wp2_with fail
        go_region
        all_goals
          go_wp2_with fail
          go_roundw
          case rel => exact ⟨ni + 1, nj + 1, lx - 1, ly - 1, cc, L5, by go_num, by go_num, by omega, by rw [HL5.out]; exact HK.out, ((HM5.out.set8' HQ.out (by omega)).set9' HQ.out (by omega)).drew⟩
          case measure => simp [intOf]; omega
      · obtain ⟨hil, _⟩ := List.getElem?_eq_some_iff.1 hs
        obtain ⟨ax, rfl, hcx0⟩ := cell_num hXr (num_at hs)
        have hcx : wr.cell? (ax.add ni) = some (.int .i64 (nx a b s)) := hcx0
        have d1 : decide (ni < a.length) = true := decide_eq_true hil
        clear hcx0
        have HK := Lib.hid (hG.cut0 hs e)
        have e3 : decide (0 ≤ nx a b s) = false := decide_eq_false (by omega)
        have HM := Lib.hid hM
        clear hM
        clear e hG hs
        rcases Nat.lt_or_ge nj b.length with hjl0 | hjl0
        · obtain ⟨t, ht⟩ : ∃ t, b[nj]? = some t := ⟨_, List.getElem?_eq_getElem hjl0⟩
          obtain ⟨hjl, _⟩ := List.getElem?_eq_some_iff.1 ht
          obtain ⟨ay, rfl, hcy0⟩ := cell_num hYr (num_at ht)
          have hcy : wr.cell? (ay.add nj) = some (.int .i64 (ny a b t)) := hcy0
          have d2 : decide (nj < b.length) = true := decide_eq_true hjl
          clear hcy0
          have e1 : ((nx a b s == ny a b t) : Bool) = false := by rw [beq_eq_false_iff_ne]; exact hne t ht
          clear hne ht
          go_wp2_with fail
          go_quiet (fail)
          go_wp2_with (go_at_call 34; refine (isShared_any _ _).mono ?_; rintro e6 w6 ⟨rfl, rfl⟩)
          refine (withStep_any _ Lm 2 [] none 0 q.base _ (HM.out.drewN nq).scr (HM.out.drewN nq).size (.inl rfl) (by simp) hbl HBM.out).mono ?_
          rintro e5 w5 ⟨v5, L5, rfl, hS5, hL5, hB5⟩
          have hM5 := (HM.out.drewN nq).with_ HQ.out hS5 hB5
          have HL5 := Lib.hid hL5
          have HM5 := Lib.hid hM5
          clear hL5 hS5 hB5
          clear hM5
          go_wp2_with fail
          go_roundw
          case rel => exact ⟨ni + 1, nj, lx, ly, cc, L5, by go_num, rfl, by omega, by rw [HL5.out]; exact HK.out, HM5.out⟩
          case measure => simp [intOf]; omega
        · have d2 : decide (nj < b.length) = false := decide_eq_false (by omega)
          clear hne
          go_wp2_with fail
          go_quiet (fail)
          go_wp2_with (go_at_call 34; refine (isShared_any _ _).mono ?_; rintro e6 w6 ⟨rfl, rfl⟩)
          refine (withStep_any _ Lm 2 [] none 0 q.base _ (HM.out.drewN nq).scr (HM.out.drewN nq).size (.inl rfl) (by simp) hbl HBM.out).mono ?_
          rintro e5 w5 ⟨v5, L5, rfl, hS5, hL5, hB5⟩
          have hM5 := (HM.out.drewN nq).with_ HQ.out hS5 hB5
          have HL5 := Lib.hid hL5
          have HM5 := Lib.hid hM5
          clear hL5 hS5 hB5
          clear hM5
          go_wp2_with fail
          go_roundw
          case rel => exact ⟨ni + 1, nj, lx, ly, cc, L5, by go_num, rfl, by omega, by rw [HL5.out]; exact HK.out, HM5.out⟩
          case measure => simp [intOf]; omega
      · obtain ⟨hil, _⟩ := List.getElem?_eq_some_iff.1 hs
        obtain ⟨ax, rfl, hcx0⟩ := cell_num hXr (num_at hs)
        have hcx : wr.cell? (ax.add ni) = some (.int .i64 (nx a b s)) := hcx0
        have d1 : decide (ni < a.length) = true := decide_eq_true hil
        clear hcx0
        have HNE : Hid (∀ t, b[nj]? = some t → s ≠ t) := Lib.hid fun t ht => nx_ne (List.mem_of_getElem? hs) (List.mem_of_getElem? ht) (hne t ht)
        obtain ⟨k1, _, _⟩ := hG.isCut hs e
        have hc1 : 1 ≤ cc := by omega
        have HK := Lib.hid (hG.cut1 hs e HNE.out hc)
        have e3 : decide (0 ≤ nx a b s) = true := decide_eq_true e
        obtain ⟨f, hf⟩ : ∃ f, L[cc - 1]? = some f := ⟨_, List.getElem?_eq_getElem (by have := HT.out.len; rw [← HDD.out] at this; omega)⟩
        have hrr : decide ((lx : Int) - 1 ≤ Pm.onL f.low f.far ((lx : Int) - 1 - (ly : Int))) = true := by
          rw [hG.ask k1 hc1 (HT.out.ok _ f hf)]
          exact decide_eq_true hc
        have HRR := Lib.hid hrr
        have HFF := Lib.hid hf
        clear hrr hf
        have HM := Lib.hid hM
        clear hM
        clear hG hs HNE hc
        rcases Nat.lt_or_ge nj b.length with hjl0 | hjl0
        · obtain ⟨t, ht⟩ : ∃ t, b[nj]? = some t := ⟨_, List.getElem?_eq_getElem hjl0⟩
          obtain ⟨hjl, _⟩ := List.getElem?_eq_some_iff.1 ht
          obtain ⟨ay, rfl, hcy0⟩ := cell_num hYr (num_at ht)
          have hcy : wr.cell? (ay.add nj) = some (.int .i64 (ny a b t)) := hcy0
          have d2 : decide (nj < b.length) = true := decide_eq_true hjl
          clear hcy0
          have e1 : ((nx a b s == ny a b t) : Bool) = false := by rw [beq_eq_false_iff_ne]; exact hne t ht
          clear hne ht
          go_wp2_with fail
          go_quiet (fail)
          go_wp2_with (go_at_call 34; refine (isShared_any _ _).mono ?_; rintro e6 w6 ⟨rfl, rfl⟩)
          refine (cutIs_some xs ys (.slice X' xs.length cx') (.slice Y' ys.length cy') mk v w3.heap.size (cc - 1) L f q.b10 q.b7 q.b8 q.b9 (cc : Int) (lx : Int) (ly : Int) _ ((HT.out.step (HM.out.drewN nq).below)) (by omega) (by omega) HFF.out true ⟨(HM.out.drewN nq).k10.cell 0, (HM.out.drewN nq).k7.cell 0, (HM.out.drewN nq).k8.cell 0, (HM.out.drewN nq).k9.cell 0, Below.refl _ _⟩ (by omega) (by omega) (by omega) (by omega) (by omega) (by omega) HRR.out).mono ?_
          rintro e7 w7 ⟨rfl, hb7⟩
          have HM7 := Lib.hid ((HM.out.drewN nq).step hb7)
          clear hb7
          go_wp2_with fail
          refine (withStep_any _ Lm 2 [] none 0 q.base _ HM7.out.scr HM7.out.size (.inl rfl) (by simp) hbl HBM.out).mono ?_
          rintro e5 w5 ⟨v5, L5, rfl, hS5, hL5, hB5⟩
          have hM5 := HM7.out.with_ HQ.out hS5 hB5
          have HL5 := Lib.hid hL5
          have HM5 := Lib.hid hM5
          clear hL5 hS5 hB5
          have r8 : w5.cell? ⟨q.b8, 0, none⟩ = some (.int .i64 (lx : Nat)) := hM5.k8.cell 0
          have f8 : w5.frozen? ⟨q.b8, 0, none⟩ = false := hM5.k8.frozen 0
          have r10 : w5.cell? ⟨q.b10, 0, none⟩ = some (.int .i64 (cc : Nat)) := hM5.k10.cell 0
          have f10 : w5.frozen? ⟨q.b10, 0, none⟩ = false := hM5.k10.frozen 0
          clear hM5
          go_wp2_with fail
          go_region
          all_goals
            go_wp2_with fail
            go_roundw
            case rel => exact ⟨ni + 1, nj, lx - 1, ly, cc - 1, L5, by go_num, rfl, by omega, by rw [HL5.out]; exact HK.out, ((HM5.out.set8' HQ.out (by omega)).set10' HQ.out (by omega)).drew⟩
            case measure => simp [intOf]; omega
        · have d2 : decide (nj < b.length) = false := decide_eq_false (by omega)
          clear hne
          go_wp2_with fail
          go_quiet (fail)
          go_wp2_with (go_at_call 34; refine (isShared_any _ _).mono ?_; rintro e6 w6 ⟨rfl, rfl⟩)
          refine (cutIs_some xs ys (.slice X' xs.length cx') (.slice Y' ys.length cy') mk v w3.heap.size (cc - 1) L f q.b10 q.b7 q.b8 q.b9 (cc : Int) (lx : Int) (ly : Int) _ ((HT.out.step (HM.out.drewN nq).below)) (by omega) (by omega) HFF.out true ⟨(HM.out.drewN nq).k10.cell 0, (HM.out.drewN nq).k7.cell 0, (HM.out.drewN nq).k8.cell 0, (HM.out.drewN nq).k9.cell 0, Below.refl _ _⟩ (by omega) (by omega) (by omega) (by omega) (by omega) (by omega) HRR.out).mono ?_
          rintro e7 w7 ⟨rfl, hb7⟩
          have HM7 := Lib.hid ((HM.out.drewN nq).step hb7)
          clear hb7
          go_wp2_with fail
          refine (withStep_any _ Lm 2 [] none 0 q.base _ HM7.out.scr HM7.out.size (.inl rfl) (by simp) hbl HBM.out).mono ?_
          rintro e5 w5 ⟨v5, L5, rfl, hS5, hL5, hB5⟩
          have hM5 := HM7.out.with_ HQ.out hS5 hB5
          have HL5 := Lib.hid hL5
          have HM5 := Lib.hid hM5
          clear hL5 hS5 hB5
          have r8 : w5.cell? ⟨q.b8, 0, none⟩ = some (.int .i64 (lx : Nat)) := hM5.k8.cell 0
          have f8 : w5.frozen? ⟨q.b8, 0, none⟩ = false := hM5.k8.frozen 0
          have r10 : w5.cell? ⟨q.b10, 0, none⟩ = some (.int .i64 (cc : Nat)) := hM5.k10.cell 0
          have f10 : w5.frozen? ⟨q.b10, 0, none⟩ = false := hM5.k10.frozen 0
          clear hM5
          go_wp2_with fail
          go_region
          all_goals
            go_wp2_with fail
            go_roundw
            case rel => exact ⟨ni + 1, nj, lx - 1, ly, cc - 1, L5, by go_num, rfl, by omega, by rw [HL5.out]; exact HK.out, ((HM5.out.set8' HQ.out (by omega)).set10' HQ.out (by omega)).drew⟩
            case measure => simp [intOf]; omega
      · obtain ⟨hil, _⟩ := List.getElem?_eq_some_iff.1 hs
        obtain ⟨ax, rfl, hcx0⟩ := cell_num hXr (num_at hs)
        have hcx : wr.cell? (ax.add ni) = some (.int .i64 (nx a b s)) := hcx0
        have d1 : decide (ni < a.length) = true := decide_eq_true hil
        clear hcx0
        obtain ⟨hjl, _⟩ := List.getElem?_eq_some_iff.1 ht
        obtain ⟨ay, rfl, hcy0⟩ := cell_num hYr (num_at ht)
        have hcy : wr.cell? (ay.add nj) = some (.int .i64 (ny a b t)) := hcy0
        have d2 : decide (nj < b.length) = true := decide_eq_true hjl
        clear hcy0
        obtain ⟨ab, rfl, hcb0⟩ := cell_str (strs_up hb hB4) ht
        have HTT := Lib.hid ht
        have hcbr : wr.cell? (ab.add nj) = some (.string t) := cell_keep hcb0 hM.below
        have e1 : ((nx a b s == ny a b t) : Bool) = false := by rw [beq_eq_false_iff_ne]; exact hne
        have HNE : Hid (∀ s', a[ni]? = some s' → s' ≠ t) := Lib.hid fun s' hs' => by rw [hs] at hs'; injection hs' with h; subst h; exact nx_ne (List.mem_of_getElem? hs) (List.mem_of_getElem? ht) hne
        have HCUT : Hid (∀ s', a[ni]? = some s' → 0 ≤ (if s' ∈ a ∧ s' ∈ b then (Pm.firstAt s' a : Int) else -1) ∧ cc ≠ Pm.D xs ys (lx - 1) ly + 1) := Lib.hid fun s' hs' => by rw [hs] at hs'; injection hs' with h; subst h; exact ⟨e, hc⟩
        obtain ⟨k1, _, _⟩ := hG.isCut hs e
        have e3 : decide (0 ≤ nx a b s) = true := decide_eq_true e
        clear hne
        by_cases hc1 : 1 ≤ cc
        · obtain ⟨f, hf⟩ : ∃ f, L[cc - 1]? = some f := ⟨_, List.getElem?_eq_getElem (by have := HT.out.len; rw [← HDD.out] at this; omega)⟩
          have hrr : decide ((lx : Int) - 1 ≤ Pm.onL f.low f.far ((lx : Int) - 1 - (ly : Int))) = false := by
            rw [hG.ask k1 hc1 (HT.out.ok _ f hf)]
            exact decide_eq_false hc
          have HRR := Lib.hid hrr
          have HFF := Lib.hid hf
          clear hrr hf
          have HM := Lib.hid hM
          clear hM
          clear hc hs
          by_cases e8 : 0 ≤ ny a b t
          · obtain ⟨k4, k5, k6⟩ := hG.add1 ht HNE.out HCUT.out e8
            have HK := Lib.hid k6
            have e9 : decide (0 ≤ ny a b t) = true := decide_eq_true e8
            clear k6 e8 hG HNE HCUT ht
            go_wp2_with fail
            go_quiet (fail)
            go_wp2_with (go_at_call 34; refine (isShared_any _ _).mono ?_; rintro e6 w6 ⟨rfl, rfl⟩)
            refine (cutIs_some xs ys (.slice X' xs.length cx') (.slice Y' ys.length cy') mk v w3.heap.size (cc - 1) L f q.b10 q.b7 q.b8 q.b9 (cc : Int) (lx : Int) (ly : Int) _ ((HT.out.step (HM.out.drewN nq).below)) (by omega) (by omega) HFF.out false ⟨(HM.out.drewN nq).k10.cell 0, (HM.out.drewN nq).k7.cell 0, (HM.out.drewN nq).k8.cell 0, (HM.out.drewN nq).k9.cell 0, Below.refl _ _⟩ (by omega) (by omega) (by omega) (by omega) (by omega) (by omega) HRR.out).mono ?_
            rintro e7 w7 ⟨rfl, hb7⟩
            have HM7 := Lib.hid ((HM.out.drewN nq).step hb7)
            clear hb7
            have hcb7 : w7.cell? (ab.add nj) = some (.string t) := cell_keep hcb0 HM7.out.below
            go_wp2_with fail
            refine (withStep_any _ Lm 3 [t] (some ⟨w7.heap.size, 0, none⟩) 1 q.base _ (HM7.out.step (Below.refl _ _ |>.alloc (Nat.le_refl _) _)).scr (HM7.out.step (Below.refl _ _ |>.alloc (Nat.le_refl _) _)).size (.inr ⟨t, _, rfl, rfl, Blk.new _ 9 _⟩) (by intro s hs; simp at hs; rw [hs]; exact HSB.out t (List.mem_of_getElem? HTT.out)) hbl HBM.out).mono ?_
            rintro e5 w5 ⟨v5, L5, rfl, hS5, hL5, hB5⟩
            have hM5 := (HM7.out.step (Below.refl _ _ |>.alloc (Nat.le_refl _) _)).with_ HQ.out hS5 hB5
            have HL5 := Lib.hid hL5
            have HM5 := Lib.hid hM5
            obtain ⟨ay', hay, hcy5⟩ := cell_num (up_of hYI hM5.below) (num_at HTT.out)
            injection hay with hay
            subst hay
            have hcy5' : w5.cell? (ay.add nj) = some (.int .i64 (ny a b t)) := hcy5
            clear hL5 hS5 hB5 hcy5
            have r9 : w5.cell? ⟨q.b9, 0, none⟩ = some (.int .i64 (ly : Nat)) := hM5.k9.cell 0
            have f9 : w5.frozen? ⟨q.b9, 0, none⟩ = false := hM5.k9.frozen 0
            have r10 : w5.cell? ⟨q.b10, 0, none⟩ = some (.int .i64 (cc : Nat)) := hM5.k10.cell 0
            have f10 : w5.frozen? ⟨q.b10, 0, none⟩ = false := hM5.k10.frozen 0
            clear hM5
            go_wp2_with (go_at_call 34; refine (isShared_any _ _).mono ?_; rintro e6 w6 ⟨rfl, rfl⟩)
            go_region
            all_goals
              go_wp2_with fail
              go_roundw
              case rel => exact ⟨ni, nj + 1, lx, ly - 1, cc - 1, L5, rfl, by go_num, by omega, by rw [HL5.out]; exact HK.out, ((HM5.out.set9' HQ.out (by omega)).set10' HQ.out (by omega)).drew⟩
              case measure => simp [intOf]; omega
          · have HK := Lib.hid (hG.add0 ht HNE.out HCUT.out (Int.not_le.1 e8))
            have e9 : decide (0 ≤ ny a b t) = false := decide_eq_false e8
            clear e8 hG HNE HCUT ht
            go_wp2_with fail
            go_quiet (fail)
            go_wp2_with (go_at_call 34; refine (isShared_any _ _).mono ?_; rintro e6 w6 ⟨rfl, rfl⟩)
            refine (cutIs_some xs ys (.slice X' xs.length cx') (.slice Y' ys.length cy') mk v w3.heap.size (cc - 1) L f q.b10 q.b7 q.b8 q.b9 (cc : Int) (lx : Int) (ly : Int) _ ((HT.out.step (HM.out.drewN nq).below)) (by omega) (by omega) HFF.out false ⟨(HM.out.drewN nq).k10.cell 0, (HM.out.drewN nq).k7.cell 0, (HM.out.drewN nq).k8.cell 0, (HM.out.drewN nq).k9.cell 0, Below.refl _ _⟩ (by omega) (by omega) (by omega) (by omega) (by omega) (by omega) HRR.out).mono ?_
            rintro e7 w7 ⟨rfl, hb7⟩
            have HM7 := Lib.hid ((HM.out.drewN nq).step hb7)
            clear hb7
            have hcb7 : w7.cell? (ab.add nj) = some (.string t) := cell_keep hcb0 HM7.out.below
            go_wp2_with fail
            refine (withStep_any _ Lm 3 [t] (some ⟨w7.heap.size, 0, none⟩) 1 q.base _ (HM7.out.step (Below.refl _ _ |>.alloc (Nat.le_refl _) _)).scr (HM7.out.step (Below.refl _ _ |>.alloc (Nat.le_refl _) _)).size (.inr ⟨t, _, rfl, rfl, Blk.new _ 9 _⟩) (by intro s hs; simp at hs; rw [hs]; exact HSB.out t (List.mem_of_getElem? HTT.out)) hbl HBM.out).mono ?_
            rintro e5 w5 ⟨v5, L5, rfl, hS5, hL5, hB5⟩
            have hM5 := (HM7.out.step (Below.refl _ _ |>.alloc (Nat.le_refl _) _)).with_ HQ.out hS5 hB5
            have HL5 := Lib.hid hL5
            have HM5 := Lib.hid hM5
            obtain ⟨ay', hay, hcy5⟩ := cell_num (up_of hYI hM5.below) (num_at HTT.out)
            injection hay with hay
            subst hay
            have hcy5' : w5.cell? (ay.add nj) = some (.int .i64 (ny a b t)) := hcy5
            clear hL5 hS5 hB5 hcy5
            clear hM5
            go_wp2_with (go_at_call 34; refine (isShared_any _ _).mono ?_; rintro e6 w6 ⟨rfl, rfl⟩)
            go_roundw
            case rel => exact ⟨ni, nj + 1, lx, ly, cc, L5, rfl, by go_num, by omega, by rw [HL5.out]; exact HK.out, HM5.out⟩
            case measure => simp [intOf]; omega
        · have hc0 : cc = 0 := by omega
          subst hc0
          have HM := Lib.hid hM
          clear hM
          clear hc hs hc1
          by_cases e8 : 0 ≤ ny a b t
          · have k5 := (hG.add1 ht HNE.out HCUT.out e8).2.1
            omega
          · have HK := Lib.hid (hG.add0 ht HNE.out HCUT.out (Int.not_le.1 e8))
            have e9 : decide (0 ≤ ny a b t) = false := decide_eq_false e8
            clear e8 hG HNE HCUT ht
            go_wp2_with fail
            go_quiet (fail)
            go_wp2_with (go_at_call 34; refine (isShared_any _ _).mono ?_; rintro e6 w6 ⟨rfl, rfl⟩)
            refine (cutIs_none q.b10 q.b7 q.b8 q.b9 _ ((HM.out.drewN nq).k10.cell 0)).mono ?_
            rintro e7 w7 ⟨rfl, hb7⟩
            have HM7 := Lib.hid ((HM.out.drewN nq).step hb7)
            clear hb7
            have hcb7 : w7.cell? (ab.add nj) = some (.string t) := cell_keep hcb0 HM7.out.below
            go_wp2_with fail
            refine (withStep_any _ Lm 3 [t] (some ⟨w7.heap.size, 0, none⟩) 1 q.base _ (HM7.out.step (Below.refl _ _ |>.alloc (Nat.le_refl _) _)).scr (HM7.out.step (Below.refl _ _ |>.alloc (Nat.le_refl _) _)).size (.inr ⟨t, _, rfl, rfl, Blk.new _ 9 _⟩) (by intro s hs; simp at hs; rw [hs]; exact HSB.out t (List.mem_of_getElem? HTT.out)) hbl HBM.out).mono ?_
            rintro e5 w5 ⟨v5, L5, rfl, hS5, hL5, hB5⟩
            have hM5 := (HM7.out.step (Below.refl _ _ |>.alloc (Nat.le_refl _) _)).with_ HQ.out hS5 hB5
            have HL5 := Lib.hid hL5
            have HM5 := Lib.hid hM5
            obtain ⟨ay', hay, hcy5⟩ := cell_num (up_of hYI hM5.below) (num_at HTT.out)
            injection hay with hay
            subst hay
            have hcy5' : w5.cell? (ay.add nj) = some (.int .i64 (ny a b t)) := hcy5
            clear hL5 hS5 hB5 hcy5
            clear hM5
            go_wp2_with (go_at_call 34; refine (isShared_any _ _).mono ?_; rintro e6 w6 ⟨rfl, rfl⟩)
            go_roundw
            case rel => exact ⟨ni, nj + 1, lx, ly, 0, L5, rfl, by go_num, by omega, by rw [HL5.out]; exact HK.out, HM5.out⟩
            case measure => simp [intOf]; omega
      · have d1 : decide (ni < a.length) = false := decide_eq_false (by omega)
        obtain ⟨hjl, _⟩ := List.getElem?_eq_some_iff.1 ht
        obtain ⟨ay, rfl, hcy0⟩ := cell_num hYr (num_at ht)
        have hcy : wr.cell? (ay.add nj) = some (.int .i64 (ny a b t)) := hcy0
        have d2 : decide (nj < b.length) = true := decide_eq_true hjl
        clear hcy0
        obtain ⟨ab, rfl, hcb0⟩ := cell_str (strs_up hb hB4) ht
        have HTT := Lib.hid ht
        have hcbr : wr.cell? (ab.add nj) = some (.string t) := cell_keep hcb0 hM.below
        have hno : a[ni]? = none := List.getElem?_eq_none hia
        have HNE : Hid (∀ s', a[ni]? = some s' → s' ≠ t) := Lib.hid fun s' hs' => by rw [hno] at hs'; cases hs'
        have HCUT : Hid (∀ s', a[ni]? = some s' → 0 ≤ (if s' ∈ a ∧ s' ∈ b then (Pm.firstAt s' a : Int) else -1) ∧ cc ≠ Pm.D xs ys (lx - 1) ly + 1) := Lib.hid fun s' hs' => by rw [hno] at hs'; cases hs'
        clear hno
        have HM := Lib.hid hM
        clear hM
        by_cases e8 : 0 ≤ ny a b t
        · obtain ⟨k4, k5, k6⟩ := hG.add1 ht HNE.out HCUT.out e8
          have HK := Lib.hid k6
          have e9 : decide (0 ≤ ny a b t) = true := decide_eq_true e8
          clear k6 e8 hG HNE HCUT ht
          go_wp2_with fail
          go_quiet (fail)
          go_wp2_with fail
          refine (withStep_any _ Lm 3 [t] (some ⟨wr.heap.size, 0, none⟩) 1 q.base _ ((HM.out.drewN nq).step (Below.refl _ _ |>.alloc (Nat.le_refl _) _)).scr ((HM.out.drewN nq).step (Below.refl _ _ |>.alloc (Nat.le_refl _) _)).size (.inr ⟨t, _, rfl, rfl, Blk.new _ 9 _⟩) (by intro s hs; simp at hs; rw [hs]; exact HSB.out t (List.mem_of_getElem? HTT.out)) hbl HBM.out).mono ?_
          rintro e5 w5 ⟨v5, L5, rfl, hS5, hL5, hB5⟩
          have hM5 := ((HM.out.drewN nq).step (Below.refl _ _ |>.alloc (Nat.le_refl _) _)).with_ HQ.out hS5 hB5
          have HL5 := Lib.hid hL5
          have HM5 := Lib.hid hM5
          obtain ⟨ay', hay, hcy5⟩ := cell_num (up_of hYI hM5.below) (num_at HTT.out)
          injection hay with hay
          subst hay
          have hcy5' : w5.cell? (ay.add nj) = some (.int .i64 (ny a b t)) := hcy5
          clear hL5 hS5 hB5 hcy5
          have r9 : w5.cell? ⟨q.b9, 0, none⟩ = some (.int .i64 (ly : Nat)) := hM5.k9.cell 0
          have f9 : w5.frozen? ⟨q.b9, 0, none⟩ = false := hM5.k9.frozen 0
          have r10 : w5.cell? ⟨q.b10, 0, none⟩ = some (.int .i64 (cc : Nat)) := hM5.k10.cell 0
          have f10 : w5.frozen? ⟨q.b10, 0, none⟩ = false := hM5.k10.frozen 0
          clear hM5
          go_wp2_with (go_at_call 34; refine (isShared_any _ _).mono ?_; rintro e6 w6 ⟨rfl, rfl⟩)
          go_region
          all_goals
            go_wp2_with fail
            go_roundw
            case rel => exact ⟨ni, nj + 1, lx, ly - 1, cc - 1, L5, rfl, by go_num, by omega, by rw [HL5.out]; exact HK.out, ((HM5.out.set9' HQ.out (by omega)).set10' HQ.out (by omega)).drew⟩
            case measure => simp [intOf]; omega
        · have HK := Lib.hid (hG.add0 ht HNE.out HCUT.out (Int.not_le.1 e8))
          have e9 : decide (0 ≤ ny a b t) = false := decide_eq_false e8
          clear e8 hG HNE HCUT ht
          go_wp2_with fail
          go_quiet (fail)
          go_wp2_with fail
          refine (withStep_any _ Lm 3 [t] (some ⟨wr.heap.size, 0, none⟩) 1 q.base _ ((HM.out.drewN nq).step (Below.refl _ _ |>.alloc (Nat.le_refl _) _)).scr ((HM.out.drewN nq).step (Below.refl _ _ |>.alloc (Nat.le_refl _) _)).size (.inr ⟨t, _, rfl, rfl, Blk.new _ 9 _⟩) (by intro s hs; simp at hs; rw [hs]; exact HSB.out t (List.mem_of_getElem? HTT.out)) hbl HBM.out).mono ?_
          rintro e5 w5 ⟨v5, L5, rfl, hS5, hL5, hB5⟩
          have hM5 := ((HM.out.drewN nq).step (Below.refl _ _ |>.alloc (Nat.le_refl _) _)).with_ HQ.out hS5 hB5
          have HL5 := Lib.hid hL5
          have HM5 := Lib.hid hM5
          obtain ⟨ay', hay, hcy5⟩ := cell_num (up_of hYI hM5.below) (num_at HTT.out)
          injection hay with hay
          subst hay
          have hcy5' : w5.cell? (ay.add nj) = some (.int .i64 (ny a b t)) := hcy5
          clear hL5 hS5 hB5 hcy5
          clear hM5
          go_wp2_with (go_at_call 34; refine (isShared_any _ _).mono ?_; rintro e6 w6 ⟨rfl, rfl⟩)
          go_roundw
          case rel => exact ⟨ni, nj + 1, lx, ly, cc, L5, rfl, by go_num, by omega, by rw [HL5.out]; exact HK.out, HM5.out⟩
          case measure => simp [intOf]; omega
      · have hdone := hG.done hia hjb
        have d1 : decide (ni < a.length) = false := decide_eq_false (by omega)
        have d2 : decide (nj < b.length) = false := decide_eq_false (by omega)
        have hsh : ∃ A6 c6, u12 = .slice A6 Lm.length c6 := by
          rcases hM.scr.row.2 with ⟨e, h0⟩ | ⟨g9, cap9, cur9, e, _⟩
          · exact ⟨none, 0, by rw [e, h0]⟩
          · exact ⟨_, _, e⟩
        obtain ⟨A6, c6, rfl⟩ := hsh
        have HE := Lib.hid (hM.scr.eds rfl)
        have HDN := Lib.hid hdone
        have HMB := Lib.hid hM.below
        have hln : Lm.length = (grp [] (Pm.way a b)).length := by rw [← hdone, List.length_map]
        have HLN := Lib.hid hln
        clear hdone hln hG hM
        go_wp2_with fail
        go_ret
        exact ⟨A6, Lm.length, c6, rfl, HLN.out, by rw [← HDN.out]; exact HE.out, below_step hB4 HMB.out⟩

end Go.Proofs.Ytmonemgjgcfhlaa
