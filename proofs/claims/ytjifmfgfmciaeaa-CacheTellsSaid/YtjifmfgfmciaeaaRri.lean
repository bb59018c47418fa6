/-
  collatorref14.Right: whether a cache is right. Nothing that was there is changed.
-/
import Derived.Test.YtjifmfgfmciaeaaCas
namespace Go.Proofs.Ytjifmfgfmciaeaa
open Go.RowKit

/-- the cells of a cache that lies in a block of its own, behind -/
theorem box7 {w W : World} {g : Nat} {t : TypeId} {v0 v1 v2 v3 v4 v5 v6 : Value} (h : Blk w g t #[v0, v1, v2, v3, v4, v5, v6]) (hb : Below w.heap.size w W) :
    W.cell? ⟨g, 0, none⟩ = some v0 ∧ W.cell? ⟨g, 1, none⟩ = some v1 ∧ W.cell? ⟨g, 2, none⟩ = some v2 ∧ W.cell? ⟨g, 3, none⟩ = some v3 ∧ W.cell? ⟨g, 4, none⟩ = some v4 ∧ W.cell? ⟨g, 5, none⟩ = some v5 ∧ W.cell? ⟨g, 6, none⟩ = some v6 := by
  have h2 := Blk.below h hb h.lt
  exact ⟨h2.cell 0, h2.cell 1, h2.cell 2, h2.cell 3, h2.cell 4, h2.cell 5, h2.cell 6⟩
theorem rboth_v (a b : ByteArray) (w : Int) (W : World) (p q : Int) (h : bothK a b w = (p, q)) (ha : a.size ≤ 4096) (hb : b.size ≤ 4096) :
    Calls Try.prog 33 #[.string a, .string b, .int .i64 w] W fun e w' => e = .returned (.agg #[.int .u64 p, .int .i64 q]) ∧ Below W.heap.size W w' := by
  unfold bothK at h
  injection h with h1 h2
  subst h1 h2
  exact bothRef_any a b w W ha hb
theorem rfits_v (p r w : Int) (W : World) (b : Bool) (hb : fitsB p r w = b) : Calls Try.prog 26 #[.int .i64 p, .int .i64 r, .int .i64 w] W fun e w' => e = .returned (.bool b) ∧ W = w' := by
  subst hb; exact rfits_any p r w W
theorem rcount_v (n : Int) (W : World) (b : Bool) (hb : countB n = b) : Calls Try.prog 30 #[.int .i64 n] W fun e w' => e = .returned (.bool b) ∧ W = w' := by
  subst hb; exact rcount_any n W
/-- the first k slots of a part keep what is asked of them -/
def SlotsOk (c : Ca) (i : Nat) (L : List Sl) (k : Nat) : Prop := ∀ j x, j < k → L[j]? = some x → slotB c.width c.parts.length i x = true
theorem SlotsOk.zero {c : Ca} {i : Nat} {L : List Sl} : SlotsOk c i L 0 := fun _ _ h => absurd h (Nat.not_lt_zero _)
theorem SlotsOk.step {c : Ca} {i k : Nat} {L : List Sl} {x : Sl} (h : SlotsOk c i L k) (hx : L[k]? = some x) (hs : slotB c.width c.parts.length i x = true) : SlotsOk c i L (k + 1) := fun j y hj hy => by
  by_cases e : j = k
  · subst e; rw [hx] at hy; injection hy with hy; rw [← hy]; exact hs
  · exact h j y (by omega) hy
theorem part_is {c : Ca} {i : Nat} {L : List Sl} (h : c.parts[i]? = some L) : c.part i = L := by unfold Ca.part; rw [h]; rfl
theorem right_bad {c : Ca} {i : Nat} {L : List Sl} (h : c.parts[i]? = some L) (hb : partB c.width c.room c.parts.length i L = false) : rightC c = false := by
  rw [Bool.eq_false_iff]
  intro hr
  have := (rightC_iff.1 hr).part i (List.getElem?_eq_some_iff.1 h).1
  rw [part_is h, ← partB_iff, hb] at this
  cases this
theorem right_bad_slot {c : Ca} {i k : Nat} {L : List Sl} {x : Sl} (h : c.parts[i]? = some L) (hx : L[k]? = some x) (hs : ¬ (x.key = bothK x.left x.right c.width ∧ partN c.parts.length x.key = i)) : rightC c = false := by
  refine right_bad h ?_
  rw [Bool.eq_false_iff]
  intro hr
  exact hs ((partB_iff.1 hr).2.2 x (List.mem_of_getElem? hx))
theorem right_bad_key {c : Ca} {i k : Nat} {L : List Sl} {x : Sl} (h : c.parts[i]? = some L) (hx : L[k]? = some x) (hs : x.key ≠ bothK x.left x.right c.width) : rightC c = false := right_bad_slot h hx fun e => hs e.1
theorem right_bad_part {c : Ca} {i k : Nat} {L : List Sl} {x : Sl} (h : c.parts[i]? = some L) (hx : L[k]? = some x) (hs : partN c.parts.length x.key ≠ i) : rightC c = false := right_bad_slot h hx fun e => hs e.2
theorem parts_step {c : Ca} {i : Nat} {L : List Sl} (h : partsB c i = true) (hL : c.parts[i]? = some L) (hr : rightB L = true) (hl : L.length ≤ roomN c.parts.length c.room i) (hs : SlotsOk c i L L.length) : partsB c (i + 1) = true := by
  rw [partsB_iff] at *
  intro j hj
  by_cases e : j = i
  · subst e
    rw [part_is hL, partB_iff]
    refine ⟨hr, hl, fun s hs' => ?_⟩
    obtain ⟨k, hk⟩ := List.getElem?_of_mem hs'
    have := hs k s (List.getElem?_eq_some_iff.1 hk).1 hk
    unfold slotB at this
    exact of_decide_eq_true this
  · exact h j (by omega)

set_option maxHeartbeats 8000000 in
set_option maxRecDepth 100000 in
theorem rrightC_any (c : Ca) (A : Option Addr) (n cap : Nat) (w : World) (bo : Bool) (hbo : rightC c = bo) {X : Nat → Prop} (ha : PartsAt X w A c.parts) (hn : c.parts.length = n) (hf : CaFit c) :
    Calls Try.prog 17 #[.agg #[.int .i64 c.width, .int .i64 c.room, .slice A n cap, .int .i64 c.hits, .int .i64 c.misses, .int .i64 c.clashes, .int .i64 c.evicted]] w fun e w' => e = .returned (.bool bo) ∧ Below w.heap.size w w' := by
  subst hn
  have HA := Lib.hid ha
  have HF := Lib.hid hf
  have HRB := Lib.hid hbo
  have hlen := hf.len
  clear ha hf hbo
  obtain ⟨b0, hb0⟩ : ∃ b, fitsB c.parts.length c.room c.width = b := ⟨_, rfl⟩
  obtain ⟨b1, hb1⟩ : ∃ b, countB c.hits = b := ⟨_, rfl⟩
  obtain ⟨b2, hb2⟩ : ∃ b, countB c.misses = b := ⟨_, rfl⟩
  obtain ⟨b3, hb3⟩ : ∃ b, countB c.clashes = b := ⟨_, rfl⟩
  obtain ⟨b4, hb4⟩ : ∃ b, countB c.evicted = b := ⟨_, rfl⟩
  have H0 := Lib.hid hb0
  have H1 := Lib.hid hb1
  have H2 := Lib.hid hb2
  have H3 := Lib.hid hb3
  have H4 := Lib.hid hb4
  have HBD : Hid ((b0 && (b1 && b2 && b3 && b4)) = false → false = bo) := Lib.hid (fun h => by
    rw [← HRB.out]
    unfold rightC
    rw [H0.out, H1.out, H2.out, H3.out, H4.out, h]
    rfl)
  clear hb0 hb1 hb2 hb3 hb4
  go_enter Try.func17, Try.ntmps17
  go_wp2_with fail
  refine (rfits_v _ _ _ _ b0 H0.out).mono ?_
  rintro e w' ⟨rfl, rfl⟩
  cases b0 with
  | false =>
    go_wp2_with fail
    go_ret
    exact ⟨ret_bool (HBD.out rfl), (Below.refl _ _).alloc (Nat.le_refl _) _⟩
  | true =>
    cases b1 with
    | false =>
      go_wp2_with fail
      refine (rcount_v _ _ _ H1.out).mono ?_
      rintro e w' ⟨rfl, rfl⟩
      go_wp2_with fail
      go_ret
      exact ⟨ret_bool (HBD.out rfl), (Below.refl _ _).alloc (Nat.le_refl _) _⟩
    | true =>
      cases b2 with
      | false =>
        go_wp2_with fail
        refine (rcount_v _ _ _ H1.out).mono ?_
        rintro e w' ⟨rfl, rfl⟩
        go_wp2_with fail
        refine (rcount_v _ _ _ H2.out).mono ?_
        rintro e w' ⟨rfl, rfl⟩
        go_wp2_with fail
        go_ret
        exact ⟨ret_bool (HBD.out rfl), (Below.refl _ _).alloc (Nat.le_refl _) _⟩
      | true =>
        cases b3 with
        | false =>
          go_wp2_with fail
          refine (rcount_v _ _ _ H1.out).mono ?_
          rintro e w' ⟨rfl, rfl⟩
          go_wp2_with fail
          refine (rcount_v _ _ _ H2.out).mono ?_
          rintro e w' ⟨rfl, rfl⟩
          go_wp2_with fail
          refine (rcount_v _ _ _ H3.out).mono ?_
          rintro e w' ⟨rfl, rfl⟩
          go_wp2_with fail
          go_ret
          exact ⟨ret_bool (HBD.out rfl), (Below.refl _ _).alloc (Nat.le_refl _) _⟩
        | true =>
          cases b4 with
          | false =>
            go_wp2_with fail
            refine (rcount_v _ _ _ H1.out).mono ?_
            rintro e w' ⟨rfl, rfl⟩
            go_wp2_with fail
            refine (rcount_v _ _ _ H2.out).mono ?_
            rintro e w' ⟨rfl, rfl⟩
            go_wp2_with fail
            refine (rcount_v _ _ _ H3.out).mono ?_
            rintro e w' ⟨rfl, rfl⟩
            go_wp2_with fail
            refine (rcount_v _ _ _ H4.out).mono ?_
            rintro e w' ⟨rfl, rfl⟩
            go_wp2_with fail
            go_ret
            exact ⟨ret_bool (HBD.out rfl), (Below.refl _ _).alloc (Nat.le_refl _) _⟩
          | true =>
            go_wp2_with fail
            refine (rcount_v _ _ _ H1.out).mono ?_
            rintro e w' ⟨rfl, rfl⟩
            go_wp2_with fail
            refine (rcount_v _ _ _ H2.out).mono ?_
            rintro e w' ⟨rfl, rfl⟩
            go_wp2_with fail
            refine (rcount_v _ _ _ H3.out).mono ?_
            rintro e w' ⟨rfl, rfl⟩
            go_wp2_with fail
            refine (rcount_v _ _ _ H4.out).mono ?_
            rintro e w' ⟨rfl, rfl⟩
            go_wp2_with fail
            have hfit := H0.out
            unfold fitsB at hfit
            rw [decide_eq_true_eq] at hfit
            have n1 : 1 ≤ c.parts.length := by omega
            have r1 : 0 ≤ c.room := by omega
            have r2 : c.room ≤ 4096 := by omega
            clear hfit
            obtain ⟨a, rfl⟩ : ∃ a, A = some a := by
              obtain ⟨a, e, _⟩ := HA.out (by intro e; rw [e] at n1; simp at n1)
              exact ⟨a, e⟩
            have hbx := Blk.new w 28 #[.int .i64 c.width, .int .i64 c.room, .slice (some a) c.parts.length cap, .int .i64 c.hits, .int .i64 c.misses, .int .i64 c.clashes, .int .i64 c.evicted]
            have hal : Below w.heap.size w (w.alloc (.cells #[.int .i64 c.width, .int .i64 c.room, .slice (some a) c.parts.length cap, .int .i64 c.hits, .int .i64 c.misses, .int .i64 c.clashes, .int .i64 c.evicted] 28)) := (Below.refl _ _).alloc (Nat.le_refl _) _
            obtain ⟨w1, hw1⟩ : ∃ w1, w1 = w.alloc (.cells #[.int .i64 c.width, .int .i64 c.room, .slice (some a) c.parts.length cap, .int .i64 c.hits, .int .i64 c.misses, .int .i64 c.clashes, .int .i64 c.evicted] 28) := ⟨_, rfl⟩
            obtain ⟨g, hg⟩ : ∃ g, g = w.heap.size := ⟨_, rfl⟩
            rw [← hw1] at hbx hal ⊢
            rw [← hg] at hbx ⊢
            have HBX := Lib.hid hbx
            have HW1 := Lib.hid hal
            clear hbx hal hw1 hg
            go_loopw [4] (fun i wr => ∃ k : Nat, k ≤ c.parts.length ∧ i = .int .i64 k ∧ Hid (partsB c k = true) ∧ Hid (Below w1.heap.size w1 wr)) (fun i _ => c.parts.length - (intOf i).toNat)
            case atStart => exact ⟨0, Nat.zero_le _, rfl, Lib.hid (by unfold partsB; rfl), Lib.hid (Below.refl _ _)⟩
            case round =>
              obtain ⟨i, hi, rfl, HP, HB⟩ := hrel
              obtain ⟨y0, y1, y2, y3, y4, y5, y6⟩ := box7 HBX.out HB.out
              by_cases g1 : i < c.parts.length
              · obtain ⟨L, hL⟩ : ∃ L, c.parts[i]? = some L := ⟨_, List.getElem?_eq_getElem g1⟩
                obtain ⟨a', B, cl, ea, hal1, hcell1, hSB1, hcl⟩ := (HA.out.up HW1.out).at_ hL
                injection ea with ea
                subst ea
                have hcell : wr.cell? (a.add i) = some (.slice B L.length cl) := (HB.out.cell (by rw [add_block]; exact hal1)).trans hcell1
                have hSB : SlotsAt wr B L := hSB1.up HB.out
                have hal : a.block < wr.heap.size := Nat.lt_of_lt_of_le hal1 HB.out.size
                have hLc := HF.out.each L (List.mem_of_getElem? hL)
                have l1 : L.length ≤ 1000 := hLc.1
                have HFT := Lib.hid hLc.2
                have HL := Lib.hid hL
                have HSB := Lib.hid hSB
                obtain ⟨ab, hab⟩ : ∃ b, rightB L = b := ⟨_, rfl⟩
                have HAB := Lib.hid hab
                have HSU : Hid (∀ W, Below w1.heap.size w1 W → SlotsAt W B L) := Lib.hid fun W hW => hSB1.up hW
                clear hL hSB hLc hab hcell1 hSB1 hal1
                go_wp2_with fail
                refine (rright_v B L L.length cl _ HSB.out rfl (by omega) ab HAB.out).mono ?_
                rintro e w3 ⟨rfl, q3, hw3⟩
                have hb3 : Below wr.heap.size wr w3 := by rw [hw3]; exact below_drewN (Below.refl _ _) q3
                have HB3 := Lib.hid (HB.out.trans (hb3.mono HB.out.size))
                have HSB3 := Lib.hid (HSB.out.up hb3)
                clear hw3 hb3 y0 y1 y2 y3 y4 y5 y6 hcell
                obtain ⟨y0, y1, y2, y3, y4, y5, y6⟩ := box7 HBX.out HB3.out
                cases ab with
                | false =>
                  have HBAD : Hid (false = bo) := Lib.hid (by rw [← HRB.out]; exact (right_bad HL.out (by unfold partB; rw [HAB.out]; rfl)).symm)
                  go_wp2_with fail
                  go_ret
                  exact ⟨ret_bool HBAD.out, HW1.out.trans (HB3.out.mono HW1.out.size)⟩
                | true =>
                  go_wp2_with fail
                  refine (rroom_any c.width c.room c.hits c.misses c.clashes c.evicted (some a) c.parts.length cap i _ n1 hlen r1 r2).mono ?_
                  rintro e w4 ⟨rfl, hb4⟩
                  have HB4 := Lib.hid (HB3.out.trans (hb4.mono HB3.out.size))
                  have HSB4 := Lib.hid (HSB3.out.up hb4)
                  clear hb4 y0 y1 y2 y3 y4 y5 y6
                  obtain ⟨y0, y1, y2, y3, y4, y5, y6⟩ := box7 HBX.out HB4.out
                  by_cases hl : L.length ≤ roomN c.parts.length c.room i
                  · have hld : decide (roomN c.parts.length c.room i < L.length) = false := decide_eq_false (by omega)
                    have HLR := Lib.hid hl
                    clear hl
                    clear y0 y1 y2 y3 y4 y5 y6
                    go_wp2_with fail
                    go_loopw [7] (fun j wr => ∃ k : Nat, k ≤ L.length ∧ j = .int .i64 k ∧ Hid (SlotsOk c i L k) ∧ Hid (Below w1.heap.size w1 wr)) (fun j _ => L.length - (intOf j).toNat)
                    case atStart => exact ⟨0, Nat.zero_le _, rfl, Lib.hid SlotsOk.zero, HB4⟩
                    case round =>
                      obtain ⟨k, hk, rfl, HK, HB5⟩ := hrel
                      obtain ⟨w5, rfl⟩ : ∃ w5, w5 = wr := ⟨_, rfl⟩
                      by_cases g2 : k < L.length
                      · obtain ⟨x, hx⟩ : ∃ x, L[k]? = some x := ⟨_, List.getElem?_eq_getElem g2⟩
                        have hs5 : SlotsAt w5 B L := HSU.out w5 HB5.out
                        obtain ⟨b, rfl, hbl, _, _, _, _, _⟩ := slots_fields hs5 hx
                        have hfx := HFT.out x (List.mem_of_getElem? hx)
                        have HFX : Hid (x.left.size ≤ 4096 ∧ x.right.size ≤ 4096 ∧ (Lit.int .u64 x.sum).wf = true) := Lib.hid ⟨hfx.1.1, hfx.1.2.1, hfx.2.1⟩
                        have HX := Lib.hid hx
                        have HCX : Hid (∀ W, Below w5.heap.size w5 W → W.cell? (b.add (k * 5)) = some (.int .u64 x.sum) ∧ W.cell? ⟨(b.add (k * 5)).block, (b.add (k * 5)).off + 1, none⟩ = some (.int .i64 x.len) ∧ W.cell? ⟨(b.add (k * 5)).block, (b.add (k * 5)).off + 2, none⟩ = some (.string x.left) ∧ W.cell? ⟨(b.add (k * 5)).block, (b.add (k * 5)).off + 3, none⟩ = some (.string x.right) ∧ W.cell? ⟨(b.add (k * 5)).block, (b.add (k * 5)).off + 4, none⟩ = some (.string x.val)) :=
                          Lib.hid fun W hW => by
                            obtain ⟨b', eb, _, c0, c1, c2, c3, c4⟩ := slots_fields (hs5.up hW) HX.out
                            injection eb with eb
                            subst eb
                            exact ⟨c0, c1, c2, c3, c4⟩
                        have HCB : Hid (∀ W, Below w5.heap.size w5 W → W.cell? ⟨g, 0, none⟩ = some (.int .i64 c.width) ∧ W.cell? ⟨g, 1, none⟩ = some (.int .i64 c.room) ∧ W.cell? ⟨g, 2, none⟩ = some (.slice (some a) c.parts.length cap) ∧ W.cell? ⟨g, 3, none⟩ = some (.int .i64 c.hits) ∧ W.cell? ⟨g, 4, none⟩ = some (.int .i64 c.misses) ∧ W.cell? ⟨g, 5, none⟩ = some (.int .i64 c.clashes) ∧ W.cell? ⟨g, 6, none⟩ = some (.int .i64 c.evicted)) := Lib.hid fun W hW => box7 HBX.out (HB5.out.trans (hW.mono HB5.out.size))
                        obtain ⟨p, q, hpq⟩ : ∃ p q, bothK x.left x.right c.width = (p, q) := ⟨_, _, rfl⟩
                        have HPQ := Lib.hid hpq
                        clear hx hs5 hfx hpq hbl
                        go_upto_region 14 with (fail)
                        cases t1 : (x.sum == p) with
                        | false =>
                          have HBAD : Hid (false = bo) := Lib.hid (by rw [← HRB.out]; exact (right_bad_key HL.out HX.out (by intro e; rw [HPQ.out] at e; have := congrArg Prod.fst e; simp [Sl.key] at this; simp [this] at t1)).symm)
                          refine wp_region_noPanic ?_
                          refine wp_region_held_drew (S := fun W => Below w5.heap.size w5 W) (by kernel_rfl) ((Below.refl w5.heap.size w5).drew) (fun hS0 => ?_)
                          change wpAnyH _ _ _ _ _ 30 #[false, false, false, false, false, false, false, false, false, false, false, false, false, false, false, false, false, false, false, false, false, false, false, false, false, false, false, false, false, false] _ (World.drew _)
                          refine wpAnyH_take (i := 0) (v := (.slice (some b) L.length cl)) rfl (by kernel_rfl) (by kernel_rfl) (by kernel_rfl) (fun _ _ _ h => h) (Or.inl ⟨by rfl, fun w' hS' => by exact op_move rfl rfl⟩) hS0 ?_
                          change wpAnyH _ _ _ _ _ _ _ (Act.put _ (some 72) ((.slice (some b) L.length cl))) _
                          simp only [Act.put, List.setIfInBounds_toArray, List.set_cons_zero, List.set_cons_succ]
                          refine wpAnyH_take (i := 1) (v := .int .i64 (k : Int)) rfl (by kernel_rfl) (by kernel_rfl) (by kernel_rfl) (fun _ _ _ h => h) (Or.inl ⟨by rfl, fun w' hS' => by exact op_move rfl rfl⟩) hS0 ?_
                          change wpAnyH _ _ _ _ _ _ _ (Act.put _ (some 73) (.int .i64 (k : Int))) _
                          simp only [Act.put, List.setIfInBounds_toArray, List.set_cons_zero, List.set_cons_succ]
                          refine wpAnyH_take (i := 2) (v := .pointer (some (b.add (k * 5)))) rfl (by kernel_rfl) (by kernel_rfl) (by kernel_rfl) (fun _ _ _ h => h) (Or.inl ⟨by rfl, fun w' hS' => by go_simp⟩) hS0 ?_
                          change wpAnyH _ _ _ _ _ _ _ (Act.put _ (some 74) (.pointer (some (b.add (k * 5))))) _
                          simp only [Act.put, List.setIfInBounds_toArray, List.set_cons_zero, List.set_cons_succ]
                          refine wpAnyH_take (i := 3) (v := .pointer (some (b.add (k * 5)))) rfl (by kernel_rfl) (by kernel_rfl) (by kernel_rfl) (fun _ _ _ h => h) (Or.inl ⟨by rfl, fun w' hS' => by go_simp⟩) hS0 ?_
                          change wpAnyH _ _ _ _ _ _ _ (Act.put _ (some 75) (.pointer (some (b.add (k * 5))))) _
                          simp only [Act.put, List.setIfInBounds_toArray, List.set_cons_zero, List.set_cons_succ]
                          refine wpAnyH_take (i := 4) (v := .agg #[.int .u64 x.sum, .int .i64 x.len]) rfl (by kernel_rfl) (by kernel_rfl) (by kernel_rfl) (fun _ _ _ h => h) (Or.inl ⟨by rfl, fun w' hS' => by obtain ⟨c0, c1, c2, c3, c4⟩ := HCX.out _ hS'; go_simp⟩) hS0 ?_
                          change wpAnyH _ _ _ _ _ _ _ (Act.put _ (some 76) (.agg #[.int .u64 x.sum, .int .i64 x.len])) _
                          simp only [Act.put, List.setIfInBounds_toArray, List.set_cons_zero, List.set_cons_succ]
                          refine wpAnyH_take (i := 5) (v := (.slice (some b) L.length cl)) rfl (by kernel_rfl) (by kernel_rfl) (by kernel_rfl) (fun _ _ _ h => h) (Or.inl ⟨by rfl, fun w' hS' => by exact op_move rfl rfl⟩) hS0 ?_
                          change wpAnyH _ _ _ _ _ _ _ (Act.put _ (some 77) ((.slice (some b) L.length cl))) _
                          simp only [Act.put, List.setIfInBounds_toArray, List.set_cons_zero, List.set_cons_succ]
                          refine wpAnyH_take (i := 6) (v := .int .i64 (k : Int)) rfl (by kernel_rfl) (by kernel_rfl) (by kernel_rfl) (fun _ _ _ h => h) (Or.inl ⟨by rfl, fun w' hS' => by exact op_move rfl rfl⟩) hS0 ?_
                          change wpAnyH _ _ _ _ _ _ _ (Act.put _ (some 78) (.int .i64 (k : Int))) _
                          simp only [Act.put, List.setIfInBounds_toArray, List.set_cons_zero, List.set_cons_succ]
                          refine wpAnyH_take (i := 7) (v := .pointer (some (b.add (k * 5)))) rfl (by kernel_rfl) (by kernel_rfl) (by kernel_rfl) (fun _ _ _ h => h) (Or.inl ⟨by rfl, fun w' hS' => by go_simp⟩) hS0 ?_
                          change wpAnyH _ _ _ _ _ _ _ (Act.put _ (some 79) (.pointer (some (b.add (k * 5))))) _
                          simp only [Act.put, List.setIfInBounds_toArray, List.set_cons_zero, List.set_cons_succ]
                          refine wpAnyH_take (i := 8) (v := .pointer (some ⟨(b.add (k * 5)).block, (b.add (k * 5)).off + 2, none⟩)) rfl (by kernel_rfl) (by kernel_rfl) (by kernel_rfl) (fun _ _ _ h => h) (Or.inl ⟨by rfl, fun w' hS' => by go_simp⟩) hS0 ?_
                          change wpAnyH _ _ _ _ _ _ _ (Act.put _ (some 80) (.pointer (some ⟨(b.add (k * 5)).block, (b.add (k * 5)).off + 2, none⟩))) _
                          simp only [Act.put, List.setIfInBounds_toArray, List.set_cons_zero, List.set_cons_succ]
                          refine wpAnyH_take (i := 9) (v := .string x.left) rfl (by kernel_rfl) (by kernel_rfl) (by kernel_rfl) (fun _ _ _ h => h) (Or.inl ⟨by rfl, fun w' hS' => by obtain ⟨c0, c1, c2, c3, c4⟩ := HCX.out _ hS'; go_simp⟩) hS0 ?_
                          change wpAnyH _ _ _ _ _ _ _ (Act.put _ (some 81) (.string x.left)) _
                          simp only [Act.put, List.setIfInBounds_toArray, List.set_cons_zero, List.set_cons_succ]
                          refine wpAnyH_take (i := 10) (v := (.slice (some b) L.length cl)) rfl (by kernel_rfl) (by kernel_rfl) (by kernel_rfl) (fun _ _ _ h => h) (Or.inl ⟨by rfl, fun w' hS' => by exact op_move rfl rfl⟩) hS0 ?_
                          change wpAnyH _ _ _ _ _ _ _ (Act.put _ (some 82) ((.slice (some b) L.length cl))) _
                          simp only [Act.put, List.setIfInBounds_toArray, List.set_cons_zero, List.set_cons_succ]
                          refine wpAnyH_take (i := 11) (v := .int .i64 (k : Int)) rfl (by kernel_rfl) (by kernel_rfl) (by kernel_rfl) (fun _ _ _ h => h) (Or.inl ⟨by rfl, fun w' hS' => by exact op_move rfl rfl⟩) hS0 ?_
                          change wpAnyH _ _ _ _ _ _ _ (Act.put _ (some 83) (.int .i64 (k : Int))) _
                          simp only [Act.put, List.setIfInBounds_toArray, List.set_cons_zero, List.set_cons_succ]
                          refine wpAnyH_take (i := 12) (v := .pointer (some (b.add (k * 5)))) rfl (by kernel_rfl) (by kernel_rfl) (by kernel_rfl) (fun _ _ _ h => h) (Or.inl ⟨by rfl, fun w' hS' => by go_simp⟩) hS0 ?_
                          change wpAnyH _ _ _ _ _ _ _ (Act.put _ (some 84) (.pointer (some (b.add (k * 5))))) _
                          simp only [Act.put, List.setIfInBounds_toArray, List.set_cons_zero, List.set_cons_succ]
                          refine wpAnyH_take (i := 13) (v := .pointer (some ⟨(b.add (k * 5)).block, (b.add (k * 5)).off + 3, none⟩)) rfl (by kernel_rfl) (by kernel_rfl) (by kernel_rfl) (fun _ _ _ h => h) (Or.inl ⟨by rfl, fun w' hS' => by go_simp⟩) hS0 ?_
                          change wpAnyH _ _ _ _ _ _ _ (Act.put _ (some 85) (.pointer (some ⟨(b.add (k * 5)).block, (b.add (k * 5)).off + 3, none⟩))) _
                          simp only [Act.put, List.setIfInBounds_toArray, List.set_cons_zero, List.set_cons_succ]
                          refine wpAnyH_take (i := 14) (v := .string x.right) rfl (by kernel_rfl) (by kernel_rfl) (by kernel_rfl) (fun _ _ _ h => h) (Or.inl ⟨by rfl, fun w' hS' => by obtain ⟨c0, c1, c2, c3, c4⟩ := HCX.out _ hS'; go_simp⟩) hS0 ?_
                          change wpAnyH _ _ _ _ _ _ _ (Act.put _ (some 86) (.string x.right)) _
                          simp only [Act.put, List.setIfInBounds_toArray, List.set_cons_zero, List.set_cons_succ]
                          refine wpAnyH_take (i := 15) (v := .pointer (some ⟨g, 0, none⟩)) rfl (by kernel_rfl) (by kernel_rfl) (by kernel_rfl) (fun _ _ _ h => h) (Or.inl ⟨by rfl, fun w' hS' => by go_simp⟩) hS0 ?_
                          change wpAnyH _ _ _ _ _ _ _ (Act.put _ (some 87) (.pointer (some ⟨g, 0, none⟩))) _
                          simp only [Act.put, List.setIfInBounds_toArray, List.set_cons_zero, List.set_cons_succ]
                          refine wpAnyH_take (i := 16) (v := .int .i64 c.width) rfl (by kernel_rfl) (by kernel_rfl) (by kernel_rfl) (fun _ _ _ h => h) (Or.inl ⟨by rfl, fun w' hS' => by obtain ⟨y0, y1, y2, y3, y4, y5, y6⟩ := HCB.out _ hS'; go_simp⟩) hS0 ?_
                          change wpAnyH _ _ _ _ _ _ _ (Act.put _ (some 88) (.int .i64 c.width)) _
                          simp only [Act.put, List.setIfInBounds_toArray, List.set_cons_zero, List.set_cons_succ]
                          refine wpAnyH_ready (rs := [17]) (by kernel_rfl) (by simp) (AllReadyH.cons rfl (fun K hK => ?_) (AllReadyH.nil))
                          · skip
                            go_simp
                            refine (rboth_v x.left x.right c.width _ p q HPQ.out HFX.out.1 HFX.out.2.1).mono ?_
                            rintro e W1 ⟨rfl, hb3⟩
                            refine hK.out _ _ (hS0.trans (hb3.mono hS0.size)) (fun hS2 => ?_)
                            clear hK K
                            simp only [List.setIfInBounds_toArray, List.set_cons_zero, List.set_cons_succ]
                            refine wpAnyH_take (i := 18) (v := .bool true) rfl (by kernel_rfl) (by kernel_rfl) (by kernel_rfl) (fun _ _ _ h => h) (Or.inl ⟨by rfl, fun w' hS' => by go_simp⟩) hS2 ?_
                            change wpAnyH _ _ _ _ _ _ _ (Act.put _ (some 90) (.bool true)) _
                            simp only [Act.put, List.setIfInBounds_toArray, List.set_cons_zero, List.set_cons_succ]
                            refine wpAnyH_take (i := 19) (v := .bool true) rfl (by kernel_rfl) (by kernel_rfl) (by kernel_rfl) (fun _ _ _ h => h) (Or.inl ⟨by rfl, fun w' hS' => by exact op_move rfl rfl⟩) hS2 ?_
                            change wpAnyH _ _ _ _ _ _ _ (Act.put _ (some 91) (.bool true)) _
                            simp only [Act.put, List.setIfInBounds_toArray, List.set_cons_zero, List.set_cons_succ]
                            refine wpAnyH_take (i := 20) (v := undef) rfl (by kernel_rfl) (by kernel_rfl) (by kernel_rfl) (fun _ _ _ h => h) (Or.inr ⟨by rfl, rfl⟩) hS2 ?_
                            change wpAnyH _ _ _ _ _ _ _ (Act.put _ (some 92) (undef)) _
                            simp only [Act.put, List.setIfInBounds_toArray, List.set_cons_zero, List.set_cons_succ]
                            refine wpAnyH_take (i := 21) (v := undef) rfl (by kernel_rfl) (by kernel_rfl) (by kernel_rfl) (fun _ _ _ h => h) (Or.inr ⟨by rfl, rfl⟩) hS2 ?_
                            change wpAnyH _ _ _ _ _ _ _ (Act.put _ (some 93) (undef)) _
                            simp only [Act.put, List.setIfInBounds_toArray, List.set_cons_zero, List.set_cons_succ]
                            refine wpAnyH_take (i := 22) (v := undef) rfl (by kernel_rfl) (by kernel_rfl) (by kernel_rfl) (fun _ _ _ h => h) (Or.inr ⟨by rfl, rfl⟩) hS2 ?_
                            change wpAnyH _ _ _ _ _ _ _ (Act.put _ (some 94) (undef)) _
                            simp only [Act.put, List.setIfInBounds_toArray, List.set_cons_zero, List.set_cons_succ]
                            refine wpAnyH_take (i := 23) (v := undef) rfl (by kernel_rfl) (by kernel_rfl) (by kernel_rfl) (fun _ _ _ h => h) (Or.inr ⟨by rfl, rfl⟩) hS2 ?_
                            change wpAnyH _ _ _ _ _ _ _ (Act.put _ (some 95) (undef)) _
                            simp only [Act.put, List.setIfInBounds_toArray, List.set_cons_zero, List.set_cons_succ]
                            refine wpAnyH_take (i := 24) (v := undef) rfl (by kernel_rfl) (by kernel_rfl) (by kernel_rfl) (fun _ _ _ h => h) (Or.inr ⟨by rfl, rfl⟩) hS2 ?_
                            change wpAnyH _ _ _ _ _ _ _ (Act.put _ (some 96) (undef)) _
                            simp only [Act.put, List.setIfInBounds_toArray, List.set_cons_zero, List.set_cons_succ]
                            refine wpAnyH_take (i := 25) (v := undef) rfl (by kernel_rfl) (by kernel_rfl) (by kernel_rfl) (fun _ _ _ h => h) (Or.inr ⟨by rfl, rfl⟩) hS2 ?_
                            change wpAnyH _ _ _ _ _ _ _ (Act.put _ (some 97) (undef)) _
                            simp only [Act.put, List.setIfInBounds_toArray, List.set_cons_zero, List.set_cons_succ]
                            refine wpAnyH_take (i := 26) (v := undef) rfl (by kernel_rfl) (by kernel_rfl) (by kernel_rfl) (fun _ _ _ h => h) (Or.inr ⟨by rfl, rfl⟩) hS2 ?_
                            change wpAnyH _ _ _ _ _ _ _ (Act.put _ (some 98) (undef)) _
                            simp only [Act.put, List.setIfInBounds_toArray, List.set_cons_zero, List.set_cons_succ]
                            refine wpAnyH_take (i := 27) (v := undef) rfl (by kernel_rfl) (by kernel_rfl) (by kernel_rfl) (fun _ _ _ h => h) (Or.inr ⟨by rfl, rfl⟩) hS2 ?_
                            change wpAnyH _ _ _ _ _ _ _ (Act.put _ (some 99) (undef)) _
                            simp only [Act.put, List.setIfInBounds_toArray, List.set_cons_zero, List.set_cons_succ]
                            refine wpAnyH_take (i := 28) (v := undef) rfl (by kernel_rfl) (by kernel_rfl) (by kernel_rfl) (fun _ _ _ h => h) (Or.inr ⟨by rfl, rfl⟩) hS2 ?_
                            change wpAnyH _ _ _ _ _ _ _ (Act.put _ (some 100) (undef)) _
                            simp only [Act.put, List.setIfInBounds_toArray, List.set_cons_zero, List.set_cons_succ]
                            refine wpAnyH_take (i := 29) (v := .bool true) rfl (by kernel_rfl) (by kernel_rfl) (by kernel_rfl) (fun _ _ _ h => h) (Or.inl ⟨by rfl, fun w' hS' => by go_simp⟩) hS2 ?_
                            change wpAnyH _ _ _ _ _ _ _ (Act.put _ (some 101) (.bool true)) _
                            simp only [Act.put, List.setIfInBounds_toArray, List.set_cons_zero, List.set_cons_succ]
                            refine wpAnyH_done (by kernel_rfl) ?_ _
                            refine NoPanic.normal ?_
                            have HS := Lib.hid hS2
                            go_wp2_with fail
                            go_ret
                            exact ⟨ret_bool HBAD.out, (HW1.out.trans (HB5.out.mono HW1.out.size)).trans (HS.out.mono (HW1.out.trans (HB5.out.mono HW1.out.size)).size)⟩
                        | true =>
                          cases t2 : (x.len == q) with
                          | false =>
                            have HBAD : Hid (false = bo) := Lib.hid (by rw [← HRB.out]; exact (right_bad_key HL.out HX.out (by intro e; rw [HPQ.out] at e; have := congrArg Prod.snd e; simp [Sl.key] at this; simp [this] at t2)).symm)
                            refine wp_region_noPanic ?_
                            refine wp_region_held_drew (S := fun W => Below w5.heap.size w5 W) (by kernel_rfl) ((Below.refl w5.heap.size w5).drew) (fun hS0 => ?_)
                            change wpAnyH _ _ _ _ _ 30 #[false, false, false, false, false, false, false, false, false, false, false, false, false, false, false, false, false, false, false, false, false, false, false, false, false, false, false, false, false, false] _ (World.drew _)
                            refine wpAnyH_take (i := 0) (v := (.slice (some b) L.length cl)) rfl (by kernel_rfl) (by kernel_rfl) (by kernel_rfl) (fun _ _ _ h => h) (Or.inl ⟨by rfl, fun w' hS' => by exact op_move rfl rfl⟩) hS0 ?_
                            change wpAnyH _ _ _ _ _ _ _ (Act.put _ (some 72) ((.slice (some b) L.length cl))) _
                            simp only [Act.put, List.setIfInBounds_toArray, List.set_cons_zero, List.set_cons_succ]
                            refine wpAnyH_take (i := 1) (v := .int .i64 (k : Int)) rfl (by kernel_rfl) (by kernel_rfl) (by kernel_rfl) (fun _ _ _ h => h) (Or.inl ⟨by rfl, fun w' hS' => by exact op_move rfl rfl⟩) hS0 ?_
                            change wpAnyH _ _ _ _ _ _ _ (Act.put _ (some 73) (.int .i64 (k : Int))) _
                            simp only [Act.put, List.setIfInBounds_toArray, List.set_cons_zero, List.set_cons_succ]
                            refine wpAnyH_take (i := 2) (v := .pointer (some (b.add (k * 5)))) rfl (by kernel_rfl) (by kernel_rfl) (by kernel_rfl) (fun _ _ _ h => h) (Or.inl ⟨by rfl, fun w' hS' => by go_simp⟩) hS0 ?_
                            change wpAnyH _ _ _ _ _ _ _ (Act.put _ (some 74) (.pointer (some (b.add (k * 5))))) _
                            simp only [Act.put, List.setIfInBounds_toArray, List.set_cons_zero, List.set_cons_succ]
                            refine wpAnyH_take (i := 3) (v := .pointer (some (b.add (k * 5)))) rfl (by kernel_rfl) (by kernel_rfl) (by kernel_rfl) (fun _ _ _ h => h) (Or.inl ⟨by rfl, fun w' hS' => by go_simp⟩) hS0 ?_
                            change wpAnyH _ _ _ _ _ _ _ (Act.put _ (some 75) (.pointer (some (b.add (k * 5))))) _
                            simp only [Act.put, List.setIfInBounds_toArray, List.set_cons_zero, List.set_cons_succ]
                            refine wpAnyH_take (i := 4) (v := .agg #[.int .u64 x.sum, .int .i64 x.len]) rfl (by kernel_rfl) (by kernel_rfl) (by kernel_rfl) (fun _ _ _ h => h) (Or.inl ⟨by rfl, fun w' hS' => by obtain ⟨c0, c1, c2, c3, c4⟩ := HCX.out _ hS'; go_simp⟩) hS0 ?_
                            change wpAnyH _ _ _ _ _ _ _ (Act.put _ (some 76) (.agg #[.int .u64 x.sum, .int .i64 x.len])) _
                            simp only [Act.put, List.setIfInBounds_toArray, List.set_cons_zero, List.set_cons_succ]
                            refine wpAnyH_take (i := 5) (v := (.slice (some b) L.length cl)) rfl (by kernel_rfl) (by kernel_rfl) (by kernel_rfl) (fun _ _ _ h => h) (Or.inl ⟨by rfl, fun w' hS' => by exact op_move rfl rfl⟩) hS0 ?_
                            change wpAnyH _ _ _ _ _ _ _ (Act.put _ (some 77) ((.slice (some b) L.length cl))) _
                            simp only [Act.put, List.setIfInBounds_toArray, List.set_cons_zero, List.set_cons_succ]
                            refine wpAnyH_take (i := 6) (v := .int .i64 (k : Int)) rfl (by kernel_rfl) (by kernel_rfl) (by kernel_rfl) (fun _ _ _ h => h) (Or.inl ⟨by rfl, fun w' hS' => by exact op_move rfl rfl⟩) hS0 ?_
                            change wpAnyH _ _ _ _ _ _ _ (Act.put _ (some 78) (.int .i64 (k : Int))) _
                            simp only [Act.put, List.setIfInBounds_toArray, List.set_cons_zero, List.set_cons_succ]
                            refine wpAnyH_take (i := 7) (v := .pointer (some (b.add (k * 5)))) rfl (by kernel_rfl) (by kernel_rfl) (by kernel_rfl) (fun _ _ _ h => h) (Or.inl ⟨by rfl, fun w' hS' => by go_simp⟩) hS0 ?_
                            change wpAnyH _ _ _ _ _ _ _ (Act.put _ (some 79) (.pointer (some (b.add (k * 5))))) _
                            simp only [Act.put, List.setIfInBounds_toArray, List.set_cons_zero, List.set_cons_succ]
                            refine wpAnyH_take (i := 8) (v := .pointer (some ⟨(b.add (k * 5)).block, (b.add (k * 5)).off + 2, none⟩)) rfl (by kernel_rfl) (by kernel_rfl) (by kernel_rfl) (fun _ _ _ h => h) (Or.inl ⟨by rfl, fun w' hS' => by go_simp⟩) hS0 ?_
                            change wpAnyH _ _ _ _ _ _ _ (Act.put _ (some 80) (.pointer (some ⟨(b.add (k * 5)).block, (b.add (k * 5)).off + 2, none⟩))) _
                            simp only [Act.put, List.setIfInBounds_toArray, List.set_cons_zero, List.set_cons_succ]
                            refine wpAnyH_take (i := 9) (v := .string x.left) rfl (by kernel_rfl) (by kernel_rfl) (by kernel_rfl) (fun _ _ _ h => h) (Or.inl ⟨by rfl, fun w' hS' => by obtain ⟨c0, c1, c2, c3, c4⟩ := HCX.out _ hS'; go_simp⟩) hS0 ?_
                            change wpAnyH _ _ _ _ _ _ _ (Act.put _ (some 81) (.string x.left)) _
                            simp only [Act.put, List.setIfInBounds_toArray, List.set_cons_zero, List.set_cons_succ]
                            refine wpAnyH_take (i := 10) (v := (.slice (some b) L.length cl)) rfl (by kernel_rfl) (by kernel_rfl) (by kernel_rfl) (fun _ _ _ h => h) (Or.inl ⟨by rfl, fun w' hS' => by exact op_move rfl rfl⟩) hS0 ?_
                            change wpAnyH _ _ _ _ _ _ _ (Act.put _ (some 82) ((.slice (some b) L.length cl))) _
                            simp only [Act.put, List.setIfInBounds_toArray, List.set_cons_zero, List.set_cons_succ]
                            refine wpAnyH_take (i := 11) (v := .int .i64 (k : Int)) rfl (by kernel_rfl) (by kernel_rfl) (by kernel_rfl) (fun _ _ _ h => h) (Or.inl ⟨by rfl, fun w' hS' => by exact op_move rfl rfl⟩) hS0 ?_
                            change wpAnyH _ _ _ _ _ _ _ (Act.put _ (some 83) (.int .i64 (k : Int))) _
                            simp only [Act.put, List.setIfInBounds_toArray, List.set_cons_zero, List.set_cons_succ]
                            refine wpAnyH_take (i := 12) (v := .pointer (some (b.add (k * 5)))) rfl (by kernel_rfl) (by kernel_rfl) (by kernel_rfl) (fun _ _ _ h => h) (Or.inl ⟨by rfl, fun w' hS' => by go_simp⟩) hS0 ?_
                            change wpAnyH _ _ _ _ _ _ _ (Act.put _ (some 84) (.pointer (some (b.add (k * 5))))) _
                            simp only [Act.put, List.setIfInBounds_toArray, List.set_cons_zero, List.set_cons_succ]
                            refine wpAnyH_take (i := 13) (v := .pointer (some ⟨(b.add (k * 5)).block, (b.add (k * 5)).off + 3, none⟩)) rfl (by kernel_rfl) (by kernel_rfl) (by kernel_rfl) (fun _ _ _ h => h) (Or.inl ⟨by rfl, fun w' hS' => by go_simp⟩) hS0 ?_
                            change wpAnyH _ _ _ _ _ _ _ (Act.put _ (some 85) (.pointer (some ⟨(b.add (k * 5)).block, (b.add (k * 5)).off + 3, none⟩))) _
                            simp only [Act.put, List.setIfInBounds_toArray, List.set_cons_zero, List.set_cons_succ]
                            refine wpAnyH_take (i := 14) (v := .string x.right) rfl (by kernel_rfl) (by kernel_rfl) (by kernel_rfl) (fun _ _ _ h => h) (Or.inl ⟨by rfl, fun w' hS' => by obtain ⟨c0, c1, c2, c3, c4⟩ := HCX.out _ hS'; go_simp⟩) hS0 ?_
                            change wpAnyH _ _ _ _ _ _ _ (Act.put _ (some 86) (.string x.right)) _
                            simp only [Act.put, List.setIfInBounds_toArray, List.set_cons_zero, List.set_cons_succ]
                            refine wpAnyH_take (i := 15) (v := .pointer (some ⟨g, 0, none⟩)) rfl (by kernel_rfl) (by kernel_rfl) (by kernel_rfl) (fun _ _ _ h => h) (Or.inl ⟨by rfl, fun w' hS' => by go_simp⟩) hS0 ?_
                            change wpAnyH _ _ _ _ _ _ _ (Act.put _ (some 87) (.pointer (some ⟨g, 0, none⟩))) _
                            simp only [Act.put, List.setIfInBounds_toArray, List.set_cons_zero, List.set_cons_succ]
                            refine wpAnyH_take (i := 16) (v := .int .i64 c.width) rfl (by kernel_rfl) (by kernel_rfl) (by kernel_rfl) (fun _ _ _ h => h) (Or.inl ⟨by rfl, fun w' hS' => by obtain ⟨y0, y1, y2, y3, y4, y5, y6⟩ := HCB.out _ hS'; go_simp⟩) hS0 ?_
                            change wpAnyH _ _ _ _ _ _ _ (Act.put _ (some 88) (.int .i64 c.width)) _
                            simp only [Act.put, List.setIfInBounds_toArray, List.set_cons_zero, List.set_cons_succ]
                            refine wpAnyH_ready (rs := [17]) (by kernel_rfl) (by simp) (AllReadyH.cons rfl (fun K hK => ?_) (AllReadyH.nil))
                            · skip
                              go_simp
                              refine (rboth_v x.left x.right c.width _ p q HPQ.out HFX.out.1 HFX.out.2.1).mono ?_
                              rintro e W1 ⟨rfl, hb3⟩
                              refine hK.out _ _ (hS0.trans (hb3.mono hS0.size)) (fun hS2 => ?_)
                              clear hK K
                              simp only [List.setIfInBounds_toArray, List.set_cons_zero, List.set_cons_succ]
                              refine wpAnyH_take (i := 18) (v := .bool true) rfl (by kernel_rfl) (by kernel_rfl) (by kernel_rfl) (fun _ _ _ h => h) (Or.inl ⟨by rfl, fun w' hS' => by go_simp⟩) hS2 ?_
                              change wpAnyH _ _ _ _ _ _ _ (Act.put _ (some 90) (.bool true)) _
                              simp only [Act.put, List.setIfInBounds_toArray, List.set_cons_zero, List.set_cons_succ]
                              refine wpAnyH_take (i := 19) (v := .bool true) rfl (by kernel_rfl) (by kernel_rfl) (by kernel_rfl) (fun _ _ _ h => h) (Or.inl ⟨by rfl, fun w' hS' => by exact op_move rfl rfl⟩) hS2 ?_
                              change wpAnyH _ _ _ _ _ _ _ (Act.put _ (some 91) (.bool true)) _
                              simp only [Act.put, List.setIfInBounds_toArray, List.set_cons_zero, List.set_cons_succ]
                              refine wpAnyH_take (i := 20) (v := undef) rfl (by kernel_rfl) (by kernel_rfl) (by kernel_rfl) (fun _ _ _ h => h) (Or.inr ⟨by rfl, rfl⟩) hS2 ?_
                              change wpAnyH _ _ _ _ _ _ _ (Act.put _ (some 92) (undef)) _
                              simp only [Act.put, List.setIfInBounds_toArray, List.set_cons_zero, List.set_cons_succ]
                              refine wpAnyH_take (i := 21) (v := undef) rfl (by kernel_rfl) (by kernel_rfl) (by kernel_rfl) (fun _ _ _ h => h) (Or.inr ⟨by rfl, rfl⟩) hS2 ?_
                              change wpAnyH _ _ _ _ _ _ _ (Act.put _ (some 93) (undef)) _
                              simp only [Act.put, List.setIfInBounds_toArray, List.set_cons_zero, List.set_cons_succ]
                              refine wpAnyH_take (i := 22) (v := undef) rfl (by kernel_rfl) (by kernel_rfl) (by kernel_rfl) (fun _ _ _ h => h) (Or.inr ⟨by rfl, rfl⟩) hS2 ?_
                              change wpAnyH _ _ _ _ _ _ _ (Act.put _ (some 94) (undef)) _
                              simp only [Act.put, List.setIfInBounds_toArray, List.set_cons_zero, List.set_cons_succ]
                              refine wpAnyH_take (i := 23) (v := undef) rfl (by kernel_rfl) (by kernel_rfl) (by kernel_rfl) (fun _ _ _ h => h) (Or.inr ⟨by rfl, rfl⟩) hS2 ?_
                              change wpAnyH _ _ _ _ _ _ _ (Act.put _ (some 95) (undef)) _
                              simp only [Act.put, List.setIfInBounds_toArray, List.set_cons_zero, List.set_cons_succ]
                              refine wpAnyH_take (i := 24) (v := undef) rfl (by kernel_rfl) (by kernel_rfl) (by kernel_rfl) (fun _ _ _ h => h) (Or.inr ⟨by rfl, rfl⟩) hS2 ?_
                              change wpAnyH _ _ _ _ _ _ _ (Act.put _ (some 96) (undef)) _
                              simp only [Act.put, List.setIfInBounds_toArray, List.set_cons_zero, List.set_cons_succ]
                              refine wpAnyH_take (i := 25) (v := undef) rfl (by kernel_rfl) (by kernel_rfl) (by kernel_rfl) (fun _ _ _ h => h) (Or.inr ⟨by rfl, rfl⟩) hS2 ?_
                              change wpAnyH _ _ _ _ _ _ _ (Act.put _ (some 97) (undef)) _
                              simp only [Act.put, List.setIfInBounds_toArray, List.set_cons_zero, List.set_cons_succ]
                              refine wpAnyH_take (i := 26) (v := undef) rfl (by kernel_rfl) (by kernel_rfl) (by kernel_rfl) (fun _ _ _ h => h) (Or.inr ⟨by rfl, rfl⟩) hS2 ?_
                              change wpAnyH _ _ _ _ _ _ _ (Act.put _ (some 98) (undef)) _
                              simp only [Act.put, List.setIfInBounds_toArray, List.set_cons_zero, List.set_cons_succ]
                              refine wpAnyH_take (i := 27) (v := undef) rfl (by kernel_rfl) (by kernel_rfl) (by kernel_rfl) (fun _ _ _ h => h) (Or.inr ⟨by rfl, rfl⟩) hS2 ?_
                              change wpAnyH _ _ _ _ _ _ _ (Act.put _ (some 99) (undef)) _
                              simp only [Act.put, List.setIfInBounds_toArray, List.set_cons_zero, List.set_cons_succ]
                              refine wpAnyH_take (i := 28) (v := undef) rfl (by kernel_rfl) (by kernel_rfl) (by kernel_rfl) (fun _ _ _ h => h) (Or.inr ⟨by rfl, rfl⟩) hS2 ?_
                              change wpAnyH _ _ _ _ _ _ _ (Act.put _ (some 100) (undef)) _
                              simp only [Act.put, List.setIfInBounds_toArray, List.set_cons_zero, List.set_cons_succ]
                              refine wpAnyH_take (i := 29) (v := .bool true) rfl (by kernel_rfl) (by kernel_rfl) (by kernel_rfl) (fun _ _ _ h => h) (Or.inl ⟨by rfl, fun w' hS' => by go_simp⟩) hS2 ?_
                              change wpAnyH _ _ _ _ _ _ _ (Act.put _ (some 101) (.bool true)) _
                              simp only [Act.put, List.setIfInBounds_toArray, List.set_cons_zero, List.set_cons_succ]
                              refine wpAnyH_done (by kernel_rfl) ?_ _
                              refine NoPanic.normal ?_
                              have HS := Lib.hid hS2
                              go_wp2_with fail
                              go_ret
                              exact ⟨ret_bool HBAD.out, (HW1.out.trans (HB5.out.mono HW1.out.size)).trans (HS.out.mono (HW1.out.trans (HB5.out.mono HW1.out.size)).size)⟩
                          | true =>
                            have hkey : x.key = bothK x.left x.right c.width := by rw [HPQ.out]; exact Prod.ext (by show x.sum = p; simpa using t1) (by show x.len = q; simpa using t2)
                            have HKEY := Lib.hid hkey
                            clear hkey
                            cases t3 : ((partN c.parts.length (x.sum, x.len) : Int) == (i : Int)) with
                            | false =>
                              have HBAD : Hid (false = bo) := Lib.hid (by rw [← HRB.out]; exact (right_bad_part HL.out HX.out (by intro e; simp [Sl.key] at e; simp [e] at t3)).symm)
                              have t4 : ((partN c.parts.length (x.sum, x.len) : Int) != (i : Int)) = true := by rw [bne, t3]; rfl
                              refine wp_region_noPanic ?_
                              refine wp_region_held_drew (S := fun W => Below w5.heap.size w5 W) (by kernel_rfl) ((Below.refl w5.heap.size w5).drew) (fun hS0 => ?_)
                              change wpAnyH _ _ _ _ _ 30 #[false, false, false, false, false, false, false, false, false, false, false, false, false, false, false, false, false, false, false, false, false, false, false, false, false, false, false, false, false, false] _ (World.drew _)
                              refine wpAnyH_take (i := 0) (v := (.slice (some b) L.length cl)) rfl (by kernel_rfl) (by kernel_rfl) (by kernel_rfl) (fun _ _ _ h => h) (Or.inl ⟨by rfl, fun w' hS' => by exact op_move rfl rfl⟩) hS0 ?_
                              change wpAnyH _ _ _ _ _ _ _ (Act.put _ (some 72) ((.slice (some b) L.length cl))) _
                              simp only [Act.put, List.setIfInBounds_toArray, List.set_cons_zero, List.set_cons_succ]
                              refine wpAnyH_take (i := 1) (v := .int .i64 (k : Int)) rfl (by kernel_rfl) (by kernel_rfl) (by kernel_rfl) (fun _ _ _ h => h) (Or.inl ⟨by rfl, fun w' hS' => by exact op_move rfl rfl⟩) hS0 ?_
                              change wpAnyH _ _ _ _ _ _ _ (Act.put _ (some 73) (.int .i64 (k : Int))) _
                              simp only [Act.put, List.setIfInBounds_toArray, List.set_cons_zero, List.set_cons_succ]
                              refine wpAnyH_take (i := 2) (v := .pointer (some (b.add (k * 5)))) rfl (by kernel_rfl) (by kernel_rfl) (by kernel_rfl) (fun _ _ _ h => h) (Or.inl ⟨by rfl, fun w' hS' => by go_simp⟩) hS0 ?_
                              change wpAnyH _ _ _ _ _ _ _ (Act.put _ (some 74) (.pointer (some (b.add (k * 5))))) _
                              simp only [Act.put, List.setIfInBounds_toArray, List.set_cons_zero, List.set_cons_succ]
                              refine wpAnyH_take (i := 3) (v := .pointer (some (b.add (k * 5)))) rfl (by kernel_rfl) (by kernel_rfl) (by kernel_rfl) (fun _ _ _ h => h) (Or.inl ⟨by rfl, fun w' hS' => by go_simp⟩) hS0 ?_
                              change wpAnyH _ _ _ _ _ _ _ (Act.put _ (some 75) (.pointer (some (b.add (k * 5))))) _
                              simp only [Act.put, List.setIfInBounds_toArray, List.set_cons_zero, List.set_cons_succ]
                              refine wpAnyH_take (i := 4) (v := .agg #[.int .u64 x.sum, .int .i64 x.len]) rfl (by kernel_rfl) (by kernel_rfl) (by kernel_rfl) (fun _ _ _ h => h) (Or.inl ⟨by rfl, fun w' hS' => by obtain ⟨c0, c1, c2, c3, c4⟩ := HCX.out _ hS'; go_simp⟩) hS0 ?_
                              change wpAnyH _ _ _ _ _ _ _ (Act.put _ (some 76) (.agg #[.int .u64 x.sum, .int .i64 x.len])) _
                              simp only [Act.put, List.setIfInBounds_toArray, List.set_cons_zero, List.set_cons_succ]
                              refine wpAnyH_take (i := 5) (v := (.slice (some b) L.length cl)) rfl (by kernel_rfl) (by kernel_rfl) (by kernel_rfl) (fun _ _ _ h => h) (Or.inl ⟨by rfl, fun w' hS' => by exact op_move rfl rfl⟩) hS0 ?_
                              change wpAnyH _ _ _ _ _ _ _ (Act.put _ (some 77) ((.slice (some b) L.length cl))) _
                              simp only [Act.put, List.setIfInBounds_toArray, List.set_cons_zero, List.set_cons_succ]
                              refine wpAnyH_take (i := 6) (v := .int .i64 (k : Int)) rfl (by kernel_rfl) (by kernel_rfl) (by kernel_rfl) (fun _ _ _ h => h) (Or.inl ⟨by rfl, fun w' hS' => by exact op_move rfl rfl⟩) hS0 ?_
                              change wpAnyH _ _ _ _ _ _ _ (Act.put _ (some 78) (.int .i64 (k : Int))) _
                              simp only [Act.put, List.setIfInBounds_toArray, List.set_cons_zero, List.set_cons_succ]
                              refine wpAnyH_take (i := 7) (v := .pointer (some (b.add (k * 5)))) rfl (by kernel_rfl) (by kernel_rfl) (by kernel_rfl) (fun _ _ _ h => h) (Or.inl ⟨by rfl, fun w' hS' => by go_simp⟩) hS0 ?_
                              change wpAnyH _ _ _ _ _ _ _ (Act.put _ (some 79) (.pointer (some (b.add (k * 5))))) _
                              simp only [Act.put, List.setIfInBounds_toArray, List.set_cons_zero, List.set_cons_succ]
                              refine wpAnyH_take (i := 8) (v := .pointer (some ⟨(b.add (k * 5)).block, (b.add (k * 5)).off + 2, none⟩)) rfl (by kernel_rfl) (by kernel_rfl) (by kernel_rfl) (fun _ _ _ h => h) (Or.inl ⟨by rfl, fun w' hS' => by go_simp⟩) hS0 ?_
                              change wpAnyH _ _ _ _ _ _ _ (Act.put _ (some 80) (.pointer (some ⟨(b.add (k * 5)).block, (b.add (k * 5)).off + 2, none⟩))) _
                              simp only [Act.put, List.setIfInBounds_toArray, List.set_cons_zero, List.set_cons_succ]
                              refine wpAnyH_take (i := 9) (v := .string x.left) rfl (by kernel_rfl) (by kernel_rfl) (by kernel_rfl) (fun _ _ _ h => h) (Or.inl ⟨by rfl, fun w' hS' => by obtain ⟨c0, c1, c2, c3, c4⟩ := HCX.out _ hS'; go_simp⟩) hS0 ?_
                              change wpAnyH _ _ _ _ _ _ _ (Act.put _ (some 81) (.string x.left)) _
                              simp only [Act.put, List.setIfInBounds_toArray, List.set_cons_zero, List.set_cons_succ]
                              refine wpAnyH_take (i := 10) (v := (.slice (some b) L.length cl)) rfl (by kernel_rfl) (by kernel_rfl) (by kernel_rfl) (fun _ _ _ h => h) (Or.inl ⟨by rfl, fun w' hS' => by exact op_move rfl rfl⟩) hS0 ?_
                              change wpAnyH _ _ _ _ _ _ _ (Act.put _ (some 82) ((.slice (some b) L.length cl))) _
                              simp only [Act.put, List.setIfInBounds_toArray, List.set_cons_zero, List.set_cons_succ]
                              refine wpAnyH_take (i := 11) (v := .int .i64 (k : Int)) rfl (by kernel_rfl) (by kernel_rfl) (by kernel_rfl) (fun _ _ _ h => h) (Or.inl ⟨by rfl, fun w' hS' => by exact op_move rfl rfl⟩) hS0 ?_
                              change wpAnyH _ _ _ _ _ _ _ (Act.put _ (some 83) (.int .i64 (k : Int))) _
                              simp only [Act.put, List.setIfInBounds_toArray, List.set_cons_zero, List.set_cons_succ]
                              refine wpAnyH_take (i := 12) (v := .pointer (some (b.add (k * 5)))) rfl (by kernel_rfl) (by kernel_rfl) (by kernel_rfl) (fun _ _ _ h => h) (Or.inl ⟨by rfl, fun w' hS' => by go_simp⟩) hS0 ?_
                              change wpAnyH _ _ _ _ _ _ _ (Act.put _ (some 84) (.pointer (some (b.add (k * 5))))) _
                              simp only [Act.put, List.setIfInBounds_toArray, List.set_cons_zero, List.set_cons_succ]
                              refine wpAnyH_take (i := 13) (v := .pointer (some ⟨(b.add (k * 5)).block, (b.add (k * 5)).off + 3, none⟩)) rfl (by kernel_rfl) (by kernel_rfl) (by kernel_rfl) (fun _ _ _ h => h) (Or.inl ⟨by rfl, fun w' hS' => by go_simp⟩) hS0 ?_
                              change wpAnyH _ _ _ _ _ _ _ (Act.put _ (some 85) (.pointer (some ⟨(b.add (k * 5)).block, (b.add (k * 5)).off + 3, none⟩))) _
                              simp only [Act.put, List.setIfInBounds_toArray, List.set_cons_zero, List.set_cons_succ]
                              refine wpAnyH_take (i := 14) (v := .string x.right) rfl (by kernel_rfl) (by kernel_rfl) (by kernel_rfl) (fun _ _ _ h => h) (Or.inl ⟨by rfl, fun w' hS' => by obtain ⟨c0, c1, c2, c3, c4⟩ := HCX.out _ hS'; go_simp⟩) hS0 ?_
                              change wpAnyH _ _ _ _ _ _ _ (Act.put _ (some 86) (.string x.right)) _
                              simp only [Act.put, List.setIfInBounds_toArray, List.set_cons_zero, List.set_cons_succ]
                              refine wpAnyH_take (i := 15) (v := .pointer (some ⟨g, 0, none⟩)) rfl (by kernel_rfl) (by kernel_rfl) (by kernel_rfl) (fun _ _ _ h => h) (Or.inl ⟨by rfl, fun w' hS' => by go_simp⟩) hS0 ?_
                              change wpAnyH _ _ _ _ _ _ _ (Act.put _ (some 87) (.pointer (some ⟨g, 0, none⟩))) _
                              simp only [Act.put, List.setIfInBounds_toArray, List.set_cons_zero, List.set_cons_succ]
                              refine wpAnyH_take (i := 16) (v := .int .i64 c.width) rfl (by kernel_rfl) (by kernel_rfl) (by kernel_rfl) (fun _ _ _ h => h) (Or.inl ⟨by rfl, fun w' hS' => by obtain ⟨y0, y1, y2, y3, y4, y5, y6⟩ := HCB.out _ hS'; go_simp⟩) hS0 ?_
                              change wpAnyH _ _ _ _ _ _ _ (Act.put _ (some 88) (.int .i64 c.width)) _
                              simp only [Act.put, List.setIfInBounds_toArray, List.set_cons_zero, List.set_cons_succ]
                              refine wpAnyH_ready (rs := [17]) (by kernel_rfl) (by simp) (AllReadyH.cons rfl (fun K hK => ?_) (AllReadyH.nil))
                              · skip
                                go_simp
                                refine (rboth_v x.left x.right c.width _ p q HPQ.out HFX.out.1 HFX.out.2.1).mono ?_
                                rintro e W1 ⟨rfl, hb3⟩
                                refine hK.out _ _ (hS0.trans (hb3.mono hS0.size)) (fun hS2 => ?_)
                                clear hK K
                                simp only [List.setIfInBounds_toArray, List.set_cons_zero, List.set_cons_succ]
                                refine wpAnyH_take (i := 18) (v := .bool false) rfl (by kernel_rfl) (by kernel_rfl) (by kernel_rfl) (fun _ _ _ h => h) (Or.inl ⟨by rfl, fun w' hS' => by go_simp⟩) hS2 ?_
                                change wpAnyH _ _ _ _ _ _ _ (Act.put _ (some 90) (.bool false)) _
                                simp only [Act.put, List.setIfInBounds_toArray, List.set_cons_zero, List.set_cons_succ]
                                refine wpAnyH_take (i := 19) (v := .bool false) rfl (by kernel_rfl) (by kernel_rfl) (by kernel_rfl) (fun _ _ _ h => h) (Or.inl ⟨by rfl, fun w' hS' => by exact op_move rfl rfl⟩) hS2 ?_
                                change wpAnyH _ _ _ _ _ _ _ (Act.put _ (some 91) (.bool false)) _
                                simp only [Act.put, List.setIfInBounds_toArray, List.set_cons_zero, List.set_cons_succ]
                                refine wpAnyH_take (i := 20) (v := .agg #[.int .i64 c.width, .int .i64 c.room, .slice (some a) c.parts.length cap, .int .i64 c.hits, .int .i64 c.misses, .int .i64 c.clashes, .int .i64 c.evicted]) rfl (by kernel_rfl) (by kernel_rfl) (by kernel_rfl) (fun _ _ _ h => h) (Or.inl ⟨by rfl, fun w' hS' => by obtain ⟨y0, y1, y2, y3, y4, y5, y6⟩ := HCB.out _ hS'; go_simp⟩) hS2 ?_
                                change wpAnyH _ _ _ _ _ _ _ (Act.put _ (some 92) (.agg #[.int .i64 c.width, .int .i64 c.room, .slice (some a) c.parts.length cap, .int .i64 c.hits, .int .i64 c.misses, .int .i64 c.clashes, .int .i64 c.evicted])) _
                                simp only [Act.put, List.setIfInBounds_toArray, List.set_cons_zero, List.set_cons_succ]
                                refine wpAnyH_take (i := 21) (v := (.slice (some b) L.length cl)) rfl (by kernel_rfl) (by kernel_rfl) (by kernel_rfl) (fun _ _ _ h => h) (Or.inl ⟨by rfl, fun w' hS' => by exact op_move rfl rfl⟩) hS2 ?_
                                change wpAnyH _ _ _ _ _ _ _ (Act.put _ (some 93) ((.slice (some b) L.length cl))) _
                                simp only [Act.put, List.setIfInBounds_toArray, List.set_cons_zero, List.set_cons_succ]
                                refine wpAnyH_take (i := 22) (v := .int .i64 (k : Int)) rfl (by kernel_rfl) (by kernel_rfl) (by kernel_rfl) (fun _ _ _ h => h) (Or.inl ⟨by rfl, fun w' hS' => by exact op_move rfl rfl⟩) hS2 ?_
                                change wpAnyH _ _ _ _ _ _ _ (Act.put _ (some 94) (.int .i64 (k : Int))) _
                                simp only [Act.put, List.setIfInBounds_toArray, List.set_cons_zero, List.set_cons_succ]
                                refine wpAnyH_take (i := 23) (v := .pointer (some (b.add (k * 5)))) rfl (by kernel_rfl) (by kernel_rfl) (by kernel_rfl) (fun _ _ _ h => h) (Or.inl ⟨by rfl, fun w' hS' => by go_simp⟩) hS2 ?_
                                change wpAnyH _ _ _ _ _ _ _ (Act.put _ (some 95) (.pointer (some (b.add (k * 5))))) _
                                simp only [Act.put, List.setIfInBounds_toArray, List.set_cons_zero, List.set_cons_succ]
                                refine wpAnyH_take (i := 24) (v := .pointer (some (b.add (k * 5)))) rfl (by kernel_rfl) (by kernel_rfl) (by kernel_rfl) (fun _ _ _ h => h) (Or.inl ⟨by rfl, fun w' hS' => by go_simp⟩) hS2 ?_
                                change wpAnyH _ _ _ _ _ _ _ (Act.put _ (some 96) (.pointer (some (b.add (k * 5))))) _
                                simp only [Act.put, List.setIfInBounds_toArray, List.set_cons_zero, List.set_cons_succ]
                                refine wpAnyH_take (i := 25) (v := .agg #[.int .u64 x.sum, .int .i64 x.len]) rfl (by kernel_rfl) (by kernel_rfl) (by kernel_rfl) (fun _ _ _ h => h) (Or.inl ⟨by rfl, fun w' hS' => by obtain ⟨c0, c1, c2, c3, c4⟩ := HCX.out _ hS'; go_simp⟩) hS2 ?_
                                change wpAnyH _ _ _ _ _ _ _ (Act.put _ (some 97) (.agg #[.int .u64 x.sum, .int .i64 x.len])) _
                                simp only [Act.put, List.setIfInBounds_toArray, List.set_cons_zero, List.set_cons_succ]
                                refine wpAnyH_take (i := 27) (v := .int .i64 (i : Int)) rfl (by kernel_rfl) (by kernel_rfl) (by kernel_rfl) (fun _ _ _ h => h) (Or.inl ⟨by rfl, fun w' hS' => by exact op_move rfl rfl⟩) hS2 ?_
                                change wpAnyH _ _ _ _ _ _ _ (Act.put _ (some 99) (.int .i64 (i : Int))) _
                                simp only [Act.put, List.setIfInBounds_toArray, List.set_cons_zero, List.set_cons_succ]
                                refine wpAnyH_ready (rs := [26]) (by kernel_rfl) (by simp) (AllReadyH.cons rfl (fun K hK => ?_) (AllReadyH.nil))
                                · skip
                                  go_simp
                                  refine (rpart_any c.width c.room c.hits c.misses c.clashes c.evicted (some a) c.parts.length cap x.sum x.len _ n1 (by omega) HFX.out.2.2).mono ?_
                                  rintro e W4 ⟨rfl, hb6⟩
                                  refine hK.out _ _ (hS2.trans (hb6.mono hS2.size)) (fun hS5 => ?_)
                                  clear hK K
                                  simp only [List.setIfInBounds_toArray, List.set_cons_zero, List.set_cons_succ]
                                  refine wpAnyH_take (i := 28) (v := .bool true) rfl (by kernel_rfl) (by kernel_rfl) (by kernel_rfl) (fun _ _ _ h => h) (Or.inl ⟨by rfl, fun w' hS' => by go_simp⟩) hS5 ?_
                                  change wpAnyH _ _ _ _ _ _ _ (Act.put _ (some 100) (.bool true)) _
                                  simp only [Act.put, List.setIfInBounds_toArray, List.set_cons_zero, List.set_cons_succ]
                                  refine wpAnyH_take (i := 29) (v := .bool true) rfl (by kernel_rfl) (by kernel_rfl) (by kernel_rfl) (fun _ _ _ h => h) (Or.inl ⟨by rfl, fun w' hS' => by go_simp⟩) hS5 ?_
                                  change wpAnyH _ _ _ _ _ _ _ (Act.put _ (some 101) (.bool true)) _
                                  simp only [Act.put, List.setIfInBounds_toArray, List.set_cons_zero, List.set_cons_succ]
                                  refine wpAnyH_done (by kernel_rfl) ?_ _
                                  refine NoPanic.normal ?_
                                  have HS := Lib.hid hS5
                                  go_wp2_with fail
                                  go_ret
                                  exact ⟨ret_bool HBAD.out, (HW1.out.trans (HB5.out.mono HW1.out.size)).trans (HS.out.mono (HW1.out.trans (HB5.out.mono HW1.out.size)).size)⟩
                            | true =>
                              have t4 : ((partN c.parts.length (x.sum, x.len) : Int) != (i : Int)) = false := by rw [bne, t3]; rfl
                              have HOK : Hid (slotB c.width c.parts.length i x = true) := Lib.hid (by unfold slotB; exact decide_eq_true ⟨HKEY.out, by have := eq_of_beq t3; show partN c.parts.length (x.sum, x.len) = i; omega⟩)
                              refine wp_region_noPanic ?_
                              refine wp_region_held_drew (S := fun W => Below w5.heap.size w5 W) (by kernel_rfl) ((Below.refl w5.heap.size w5).drew) (fun hS0 => ?_)
                              change wpAnyH _ _ _ _ _ 30 #[false, false, false, false, false, false, false, false, false, false, false, false, false, false, false, false, false, false, false, false, false, false, false, false, false, false, false, false, false, false] _ (World.drew _)
                              refine wpAnyH_take (i := 0) (v := (.slice (some b) L.length cl)) rfl (by kernel_rfl) (by kernel_rfl) (by kernel_rfl) (fun _ _ _ h => h) (Or.inl ⟨by rfl, fun w' hS' => by exact op_move rfl rfl⟩) hS0 ?_
                              change wpAnyH _ _ _ _ _ _ _ (Act.put _ (some 72) ((.slice (some b) L.length cl))) _
                              simp only [Act.put, List.setIfInBounds_toArray, List.set_cons_zero, List.set_cons_succ]
                              refine wpAnyH_take (i := 1) (v := .int .i64 (k : Int)) rfl (by kernel_rfl) (by kernel_rfl) (by kernel_rfl) (fun _ _ _ h => h) (Or.inl ⟨by rfl, fun w' hS' => by exact op_move rfl rfl⟩) hS0 ?_
                              change wpAnyH _ _ _ _ _ _ _ (Act.put _ (some 73) (.int .i64 (k : Int))) _
                              simp only [Act.put, List.setIfInBounds_toArray, List.set_cons_zero, List.set_cons_succ]
                              refine wpAnyH_take (i := 2) (v := .pointer (some (b.add (k * 5)))) rfl (by kernel_rfl) (by kernel_rfl) (by kernel_rfl) (fun _ _ _ h => h) (Or.inl ⟨by rfl, fun w' hS' => by go_simp⟩) hS0 ?_
                              change wpAnyH _ _ _ _ _ _ _ (Act.put _ (some 74) (.pointer (some (b.add (k * 5))))) _
                              simp only [Act.put, List.setIfInBounds_toArray, List.set_cons_zero, List.set_cons_succ]
                              refine wpAnyH_take (i := 3) (v := .pointer (some (b.add (k * 5)))) rfl (by kernel_rfl) (by kernel_rfl) (by kernel_rfl) (fun _ _ _ h => h) (Or.inl ⟨by rfl, fun w' hS' => by go_simp⟩) hS0 ?_
                              change wpAnyH _ _ _ _ _ _ _ (Act.put _ (some 75) (.pointer (some (b.add (k * 5))))) _
                              simp only [Act.put, List.setIfInBounds_toArray, List.set_cons_zero, List.set_cons_succ]
                              refine wpAnyH_take (i := 4) (v := .agg #[.int .u64 x.sum, .int .i64 x.len]) rfl (by kernel_rfl) (by kernel_rfl) (by kernel_rfl) (fun _ _ _ h => h) (Or.inl ⟨by rfl, fun w' hS' => by obtain ⟨c0, c1, c2, c3, c4⟩ := HCX.out _ hS'; go_simp⟩) hS0 ?_
                              change wpAnyH _ _ _ _ _ _ _ (Act.put _ (some 76) (.agg #[.int .u64 x.sum, .int .i64 x.len])) _
                              simp only [Act.put, List.setIfInBounds_toArray, List.set_cons_zero, List.set_cons_succ]
                              refine wpAnyH_take (i := 5) (v := (.slice (some b) L.length cl)) rfl (by kernel_rfl) (by kernel_rfl) (by kernel_rfl) (fun _ _ _ h => h) (Or.inl ⟨by rfl, fun w' hS' => by exact op_move rfl rfl⟩) hS0 ?_
                              change wpAnyH _ _ _ _ _ _ _ (Act.put _ (some 77) ((.slice (some b) L.length cl))) _
                              simp only [Act.put, List.setIfInBounds_toArray, List.set_cons_zero, List.set_cons_succ]
                              refine wpAnyH_take (i := 6) (v := .int .i64 (k : Int)) rfl (by kernel_rfl) (by kernel_rfl) (by kernel_rfl) (fun _ _ _ h => h) (Or.inl ⟨by rfl, fun w' hS' => by exact op_move rfl rfl⟩) hS0 ?_
                              change wpAnyH _ _ _ _ _ _ _ (Act.put _ (some 78) (.int .i64 (k : Int))) _
                              simp only [Act.put, List.setIfInBounds_toArray, List.set_cons_zero, List.set_cons_succ]
                              refine wpAnyH_take (i := 7) (v := .pointer (some (b.add (k * 5)))) rfl (by kernel_rfl) (by kernel_rfl) (by kernel_rfl) (fun _ _ _ h => h) (Or.inl ⟨by rfl, fun w' hS' => by go_simp⟩) hS0 ?_
                              change wpAnyH _ _ _ _ _ _ _ (Act.put _ (some 79) (.pointer (some (b.add (k * 5))))) _
                              simp only [Act.put, List.setIfInBounds_toArray, List.set_cons_zero, List.set_cons_succ]
                              refine wpAnyH_take (i := 8) (v := .pointer (some ⟨(b.add (k * 5)).block, (b.add (k * 5)).off + 2, none⟩)) rfl (by kernel_rfl) (by kernel_rfl) (by kernel_rfl) (fun _ _ _ h => h) (Or.inl ⟨by rfl, fun w' hS' => by go_simp⟩) hS0 ?_
                              change wpAnyH _ _ _ _ _ _ _ (Act.put _ (some 80) (.pointer (some ⟨(b.add (k * 5)).block, (b.add (k * 5)).off + 2, none⟩))) _
                              simp only [Act.put, List.setIfInBounds_toArray, List.set_cons_zero, List.set_cons_succ]
                              refine wpAnyH_take (i := 9) (v := .string x.left) rfl (by kernel_rfl) (by kernel_rfl) (by kernel_rfl) (fun _ _ _ h => h) (Or.inl ⟨by rfl, fun w' hS' => by obtain ⟨c0, c1, c2, c3, c4⟩ := HCX.out _ hS'; go_simp⟩) hS0 ?_
                              change wpAnyH _ _ _ _ _ _ _ (Act.put _ (some 81) (.string x.left)) _
                              simp only [Act.put, List.setIfInBounds_toArray, List.set_cons_zero, List.set_cons_succ]
                              refine wpAnyH_take (i := 10) (v := (.slice (some b) L.length cl)) rfl (by kernel_rfl) (by kernel_rfl) (by kernel_rfl) (fun _ _ _ h => h) (Or.inl ⟨by rfl, fun w' hS' => by exact op_move rfl rfl⟩) hS0 ?_
                              change wpAnyH _ _ _ _ _ _ _ (Act.put _ (some 82) ((.slice (some b) L.length cl))) _
                              simp only [Act.put, List.setIfInBounds_toArray, List.set_cons_zero, List.set_cons_succ]
                              refine wpAnyH_take (i := 11) (v := .int .i64 (k : Int)) rfl (by kernel_rfl) (by kernel_rfl) (by kernel_rfl) (fun _ _ _ h => h) (Or.inl ⟨by rfl, fun w' hS' => by exact op_move rfl rfl⟩) hS0 ?_
                              change wpAnyH _ _ _ _ _ _ _ (Act.put _ (some 83) (.int .i64 (k : Int))) _
                              simp only [Act.put, List.setIfInBounds_toArray, List.set_cons_zero, List.set_cons_succ]
                              refine wpAnyH_take (i := 12) (v := .pointer (some (b.add (k * 5)))) rfl (by kernel_rfl) (by kernel_rfl) (by kernel_rfl) (fun _ _ _ h => h) (Or.inl ⟨by rfl, fun w' hS' => by go_simp⟩) hS0 ?_
                              change wpAnyH _ _ _ _ _ _ _ (Act.put _ (some 84) (.pointer (some (b.add (k * 5))))) _
                              simp only [Act.put, List.setIfInBounds_toArray, List.set_cons_zero, List.set_cons_succ]
                              refine wpAnyH_take (i := 13) (v := .pointer (some ⟨(b.add (k * 5)).block, (b.add (k * 5)).off + 3, none⟩)) rfl (by kernel_rfl) (by kernel_rfl) (by kernel_rfl) (fun _ _ _ h => h) (Or.inl ⟨by rfl, fun w' hS' => by go_simp⟩) hS0 ?_
                              change wpAnyH _ _ _ _ _ _ _ (Act.put _ (some 85) (.pointer (some ⟨(b.add (k * 5)).block, (b.add (k * 5)).off + 3, none⟩))) _
                              simp only [Act.put, List.setIfInBounds_toArray, List.set_cons_zero, List.set_cons_succ]
                              refine wpAnyH_take (i := 14) (v := .string x.right) rfl (by kernel_rfl) (by kernel_rfl) (by kernel_rfl) (fun _ _ _ h => h) (Or.inl ⟨by rfl, fun w' hS' => by obtain ⟨c0, c1, c2, c3, c4⟩ := HCX.out _ hS'; go_simp⟩) hS0 ?_
                              change wpAnyH _ _ _ _ _ _ _ (Act.put _ (some 86) (.string x.right)) _
                              simp only [Act.put, List.setIfInBounds_toArray, List.set_cons_zero, List.set_cons_succ]
                              refine wpAnyH_take (i := 15) (v := .pointer (some ⟨g, 0, none⟩)) rfl (by kernel_rfl) (by kernel_rfl) (by kernel_rfl) (fun _ _ _ h => h) (Or.inl ⟨by rfl, fun w' hS' => by go_simp⟩) hS0 ?_
                              change wpAnyH _ _ _ _ _ _ _ (Act.put _ (some 87) (.pointer (some ⟨g, 0, none⟩))) _
                              simp only [Act.put, List.setIfInBounds_toArray, List.set_cons_zero, List.set_cons_succ]
                              refine wpAnyH_take (i := 16) (v := .int .i64 c.width) rfl (by kernel_rfl) (by kernel_rfl) (by kernel_rfl) (fun _ _ _ h => h) (Or.inl ⟨by rfl, fun w' hS' => by obtain ⟨y0, y1, y2, y3, y4, y5, y6⟩ := HCB.out _ hS'; go_simp⟩) hS0 ?_
                              change wpAnyH _ _ _ _ _ _ _ (Act.put _ (some 88) (.int .i64 c.width)) _
                              simp only [Act.put, List.setIfInBounds_toArray, List.set_cons_zero, List.set_cons_succ]
                              refine wpAnyH_ready (rs := [17]) (by kernel_rfl) (by simp) (AllReadyH.cons rfl (fun K hK => ?_) (AllReadyH.nil))
                              · skip
                                go_simp
                                refine (rboth_v x.left x.right c.width _ p q HPQ.out HFX.out.1 HFX.out.2.1).mono ?_
                                rintro e W1 ⟨rfl, hb3⟩
                                refine hK.out _ _ (hS0.trans (hb3.mono hS0.size)) (fun hS2 => ?_)
                                clear hK K
                                simp only [List.setIfInBounds_toArray, List.set_cons_zero, List.set_cons_succ]
                                refine wpAnyH_take (i := 18) (v := .bool false) rfl (by kernel_rfl) (by kernel_rfl) (by kernel_rfl) (fun _ _ _ h => h) (Or.inl ⟨by rfl, fun w' hS' => by go_simp⟩) hS2 ?_
                                change wpAnyH _ _ _ _ _ _ _ (Act.put _ (some 90) (.bool false)) _
                                simp only [Act.put, List.setIfInBounds_toArray, List.set_cons_zero, List.set_cons_succ]
                                refine wpAnyH_take (i := 19) (v := .bool false) rfl (by kernel_rfl) (by kernel_rfl) (by kernel_rfl) (fun _ _ _ h => h) (Or.inl ⟨by rfl, fun w' hS' => by exact op_move rfl rfl⟩) hS2 ?_
                                change wpAnyH _ _ _ _ _ _ _ (Act.put _ (some 91) (.bool false)) _
                                simp only [Act.put, List.setIfInBounds_toArray, List.set_cons_zero, List.set_cons_succ]
                                refine wpAnyH_take (i := 20) (v := .agg #[.int .i64 c.width, .int .i64 c.room, .slice (some a) c.parts.length cap, .int .i64 c.hits, .int .i64 c.misses, .int .i64 c.clashes, .int .i64 c.evicted]) rfl (by kernel_rfl) (by kernel_rfl) (by kernel_rfl) (fun _ _ _ h => h) (Or.inl ⟨by rfl, fun w' hS' => by obtain ⟨y0, y1, y2, y3, y4, y5, y6⟩ := HCB.out _ hS'; go_simp⟩) hS2 ?_
                                change wpAnyH _ _ _ _ _ _ _ (Act.put _ (some 92) (.agg #[.int .i64 c.width, .int .i64 c.room, .slice (some a) c.parts.length cap, .int .i64 c.hits, .int .i64 c.misses, .int .i64 c.clashes, .int .i64 c.evicted])) _
                                simp only [Act.put, List.setIfInBounds_toArray, List.set_cons_zero, List.set_cons_succ]
                                refine wpAnyH_take (i := 21) (v := (.slice (some b) L.length cl)) rfl (by kernel_rfl) (by kernel_rfl) (by kernel_rfl) (fun _ _ _ h => h) (Or.inl ⟨by rfl, fun w' hS' => by exact op_move rfl rfl⟩) hS2 ?_
                                change wpAnyH _ _ _ _ _ _ _ (Act.put _ (some 93) ((.slice (some b) L.length cl))) _
                                simp only [Act.put, List.setIfInBounds_toArray, List.set_cons_zero, List.set_cons_succ]
                                refine wpAnyH_take (i := 22) (v := .int .i64 (k : Int)) rfl (by kernel_rfl) (by kernel_rfl) (by kernel_rfl) (fun _ _ _ h => h) (Or.inl ⟨by rfl, fun w' hS' => by exact op_move rfl rfl⟩) hS2 ?_
                                change wpAnyH _ _ _ _ _ _ _ (Act.put _ (some 94) (.int .i64 (k : Int))) _
                                simp only [Act.put, List.setIfInBounds_toArray, List.set_cons_zero, List.set_cons_succ]
                                refine wpAnyH_take (i := 23) (v := .pointer (some (b.add (k * 5)))) rfl (by kernel_rfl) (by kernel_rfl) (by kernel_rfl) (fun _ _ _ h => h) (Or.inl ⟨by rfl, fun w' hS' => by go_simp⟩) hS2 ?_
                                change wpAnyH _ _ _ _ _ _ _ (Act.put _ (some 95) (.pointer (some (b.add (k * 5))))) _
                                simp only [Act.put, List.setIfInBounds_toArray, List.set_cons_zero, List.set_cons_succ]
                                refine wpAnyH_take (i := 24) (v := .pointer (some (b.add (k * 5)))) rfl (by kernel_rfl) (by kernel_rfl) (by kernel_rfl) (fun _ _ _ h => h) (Or.inl ⟨by rfl, fun w' hS' => by go_simp⟩) hS2 ?_
                                change wpAnyH _ _ _ _ _ _ _ (Act.put _ (some 96) (.pointer (some (b.add (k * 5))))) _
                                simp only [Act.put, List.setIfInBounds_toArray, List.set_cons_zero, List.set_cons_succ]
                                refine wpAnyH_take (i := 25) (v := .agg #[.int .u64 x.sum, .int .i64 x.len]) rfl (by kernel_rfl) (by kernel_rfl) (by kernel_rfl) (fun _ _ _ h => h) (Or.inl ⟨by rfl, fun w' hS' => by obtain ⟨c0, c1, c2, c3, c4⟩ := HCX.out _ hS'; go_simp⟩) hS2 ?_
                                change wpAnyH _ _ _ _ _ _ _ (Act.put _ (some 97) (.agg #[.int .u64 x.sum, .int .i64 x.len])) _
                                simp only [Act.put, List.setIfInBounds_toArray, List.set_cons_zero, List.set_cons_succ]
                                refine wpAnyH_take (i := 27) (v := .int .i64 (i : Int)) rfl (by kernel_rfl) (by kernel_rfl) (by kernel_rfl) (fun _ _ _ h => h) (Or.inl ⟨by rfl, fun w' hS' => by exact op_move rfl rfl⟩) hS2 ?_
                                change wpAnyH _ _ _ _ _ _ _ (Act.put _ (some 99) (.int .i64 (i : Int))) _
                                simp only [Act.put, List.setIfInBounds_toArray, List.set_cons_zero, List.set_cons_succ]
                                refine wpAnyH_ready (rs := [26]) (by kernel_rfl) (by simp) (AllReadyH.cons rfl (fun K hK => ?_) (AllReadyH.nil))
                                · skip
                                  go_simp
                                  refine (rpart_any c.width c.room c.hits c.misses c.clashes c.evicted (some a) c.parts.length cap x.sum x.len _ n1 (by omega) HFX.out.2.2).mono ?_
                                  rintro e W4 ⟨rfl, hb6⟩
                                  refine hK.out _ _ (hS2.trans (hb6.mono hS2.size)) (fun hS5 => ?_)
                                  clear hK K
                                  simp only [List.setIfInBounds_toArray, List.set_cons_zero, List.set_cons_succ]
                                  refine wpAnyH_take (i := 28) (v := .bool false) rfl (by kernel_rfl) (by kernel_rfl) (by kernel_rfl) (fun _ _ _ h => h) (Or.inl ⟨by rfl, fun w' hS' => by go_simp⟩) hS5 ?_
                                  change wpAnyH _ _ _ _ _ _ _ (Act.put _ (some 100) (.bool false)) _
                                  simp only [Act.put, List.setIfInBounds_toArray, List.set_cons_zero, List.set_cons_succ]
                                  refine wpAnyH_take (i := 29) (v := .bool false) rfl (by kernel_rfl) (by kernel_rfl) (by kernel_rfl) (fun _ _ _ h => h) (Or.inl ⟨by rfl, fun w' hS' => by go_simp⟩) hS5 ?_
                                  change wpAnyH _ _ _ _ _ _ _ (Act.put _ (some 101) (.bool false)) _
                                  simp only [Act.put, List.setIfInBounds_toArray, List.set_cons_zero, List.set_cons_succ]
                                  refine wpAnyH_done (by kernel_rfl) ?_ _
                                  refine NoPanic.normal ?_
                                  have HS := Lib.hid hS5
                                  go_wp2_with fail
                                  go_roundw
                                  case rel => exact ⟨k + 1, by omega, by go_num, Lib.hid (HK.out.step HX.out HOK.out), Lib.hid (HB5.out.trans (HS.out.mono HB5.out.size))⟩
                                  case measure => simp [intOf]; omega
                      · obtain rfl : k = L.length := by omega
                        go_wp2_with fail
                        go_roundw
                        case rel => exact ⟨i + 1, by omega, by go_num, Lib.hid (parts_step HP.out HL.out HAB.out HLR.out HK.out), HB5⟩
                        case measure => simp [intOf]; omega
                  · have hld : decide (roomN c.parts.length c.room i < L.length) = true := decide_eq_true (by omega)
                    have HBAD : Hid (false = bo) := Lib.hid (by rw [← HRB.out]; exact (right_bad HL.out (by unfold partB; rw [decide_eq_false hl]; simp)).symm)
                    clear hl
                    go_wp2_with fail
                    go_ret
                    exact ⟨ret_bool HBAD.out, HW1.out.trans (HB4.out.mono HW1.out.size)⟩
              · obtain rfl : i = c.parts.length := by omega
                have HGOOD : Hid (true = bo) := Lib.hid (by rw [← HRB.out]; unfold rightC; rw [H0.out, H1.out, H2.out, H3.out, H4.out, HP.out]; rfl)
                go_wp2_with fail
                go_ret
                exact ⟨ret_bool HGOOD.out, HW1.out.trans (HB.out.mono HW1.out.size)⟩
end Go.Proofs.Ytjifmfgfmciaeaa
