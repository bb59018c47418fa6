/-
  Package cache: New, Size, fitting: what each returns; nothing that was there is changed.
-/
import Derived.Test.YtjifmfgfmciaeaaCiA
import Derived.Test.YtjifmfgfmciaeaaSmImp
import Derived.Test.YtjifmfgfmciaeaaImpG
import Derived.Deep.LoopGhost
namespace Go.Proofs.Ytjifmfgfmciaeaa
open Go.RowKit

theorem fitS_of {L : List Sl} (h : FitT L) : FitS L := fun x hx => ⟨⟨by have := (h x hx).1.1; omega, by have := (h x hx).1.2.1; omega, by have := (h x hx).1.2.2; omega⟩, (h x hx).2⟩
theorem both_v (a b : ByteArray) (w : Int) (W : World) (p q : Int) (h : bothK a b w = (p, q)) (ha : a.size ≤ 4096) (hb : b.size ≤ 4096) :
    Calls Try.prog 39 #[.string a, .string b, .int .i64 w] W fun e w' => e = .returned (.agg #[.int .u64 p, .int .i64 q]) ∧ Below W.heap.size W w' := by
  unfold bothK at h
  injection h with h1 h2
  subst h1 h2
  exact both_any a b w W ha hb
theorem may_v (p r w : Int) (W : World) (b : Bool) (hb : fitsB p r w = b) : Calls Try.prog 25 #[.int .i64 p, .int .i64 r, .int .i64 w] W fun e w' => e = .returned (.bool b) ∧ W = w' := by
  subst hb; exact may_any p r w W
theorem parts_bad {c : Ca} {i : Nat} {L : List Sl} (h : c.parts[i]? = some L) (hb : partB c.width c.room c.parts.length i L = false) : partsB c c.parts.length = false := by
  rw [Bool.eq_false_iff]
  intro hr
  have := partsB_iff.1 hr i (List.getElem?_eq_some_iff.1 h).1
  rw [part_is h, hb] at this
  cases this
theorem parts_bad_slot {c : Ca} {i k : Nat} {L : List Sl} {x : Sl} (h : c.parts[i]? = some L) (hx : L[k]? = some x) (hs : ¬ (x.key = bothK x.left x.right c.width ∧ partN c.parts.length x.key = i)) : partsB c c.parts.length = false := by
  refine parts_bad h ?_
  rw [Bool.eq_false_iff]
  intro hr
  exact hs ((partB_iff.1 hr).2.2 x (List.mem_of_getElem? hx))
theorem fit_bad {i n : Nat} {b : Bool} (h : i < n) (hb : b = false) : ((i : Int) == (n : Int)) = b := by
  rw [hb, beq_eq_false_iff_ne]
  omega
/-- how many parts are as they may be, from the first one on -/
def FitTold (c : Ca) (w : World) (e : Ending) (w' : World) : Prop := ∃ k : Nat, e = .returned (.int .i64 k) ∧ ((k : Int) == (c.parts.length : Int)) = partsB c c.parts.length ∧ Below w.heap.size w w'

set_option maxHeartbeats 2000000 in
theorem newC_any (p r w : Int) (W : World) (c : Ca) (b : Int) (hm : newC p r w = (c, b)) (X : Nat → Prop) (hX : ∀ b, X b → b < W.heap.size) : Calls Try.prog 11 #[.int .i64 p, .int .i64 r, .int .i64 w] W (CaTold X c b W) := by
  obtain ⟨fb, hfb⟩ : ∃ fb, fitsB p r w = fb := ⟨_, rfl⟩
  unfold newC at hm
  rw [hfb] at hm
  have HFB := Lib.hid hfb
  cases fb with
  | false =>
    simp only [Bool.false_eq_true, if_false, Prod.mk.injEq] at hm
    obtain ⟨rfl, rfl⟩ := hm
    clear hfb
    go_enter Try.func11, Try.ntmps11
    go_wp2_with fail
    refine (may_v _ _ _ _ false HFB.out).mono ?_
    rintro e w' ⟨rfl, rfl⟩
    go_wp2_with fail
    refine bodyPost_ret (v := .tuple #[.agg #[.int .i64 0, .int .i64 0, .slice none 0 0, .int .i64 0, .int .i64 0, .int .i64 0, .int .i64 0], .int .i64 1]) (by simp [results, Try.results11, go_sem]) rfl ?_
    exact ⟨none, 0, 0, rfl, rfl, PartsAt.nil, (Below.refl _ _).alloc (Nat.le_refl _) _, Nat.le_refl _⟩
  | true =>
    simp only [if_true, Prod.mk.injEq] at hm
    obtain ⟨rfl, rfl⟩ := hm
    unfold fitsB at hfb
    rw [decide_eq_true_eq] at hfb
    obtain ⟨n, rfl⟩ := Int.eq_ofNat_of_zero_le (show 0 ≤ p by omega)
    have n1 : 1 ≤ n := by omega
    have n2 : n ≤ 16 := by omega
    have hmk := make_parts n (by omega)
    clear hfb
    go_enter Try.func11, Try.ntmps11
    go_wp2_with fail
    refine (may_v _ _ _ _ true HFB.out).mono ?_
    rintro e w' ⟨rfl, rfl⟩
    go_wp2_with fail
    refine bodyPost_ret (v := .tuple #[.agg #[.int .i64 w, .int .i64 r, .slice (some ⟨W.heap.size + 1, 0, none⟩) n n, .int .i64 0, .int .i64 0, .int .i64 0, .int .i64 0], .int .i64 0]) (by simp [results, Try.results11, go_sem]) rfl ?_
    refine ⟨some ⟨W.heap.size + 1, 0, none⟩, n, n, rfl, by simp, ?_, ?_⟩
    · rw [Int.toNat_natCast]
      refine parts_made ?_ (fun hx => by have := hX _ hx; omega)
      have := Blk.new (W.alloc (.cells #[.int .i64 w, .int .i64 r, .slice (some ⟨W.heap.size + 1, 0, none⟩) n n, .int .i64 0, .int .i64 0, .int .i64 0, .int .i64 0] 28)) 58 (madeCells #[.slice none 0 0] n)
      simpa using this
    · exact ⟨((Below.refl _ _).alloc (Nat.le_refl _) _).alloc (by simp) _, Nat.le_refl _⟩

set_option maxHeartbeats 2000000 in
theorem sizeC_any (c : Ca) (A : Option Addr) (n cap : Nat) (w : World) {X : Nat → Prop} (ha : PartsAt X w A c.parts) (hn : c.parts.length = n) (hf : CaFit c) :
    Calls Try.prog 18 #[.agg #[.int .i64 c.width, .int .i64 c.room, .slice A n cap, .int .i64 c.hits, .int .i64 c.misses, .int .i64 c.clashes, .int .i64 c.evicted]] w fun e w' => e = .returned (.int .i64 (sizeC c : Nat)) ∧ Below w.heap.size w w' := by
  subst hn
  have HA := Lib.hid ha
  have HF := Lib.hid hf
  have hlen := hf.len
  clear ha hf
  go_enter Try.func18, Try.ntmps18
  go_wp2_with fail
  have hbx := Blk.new w 28 #[.int .i64 c.width, .int .i64 c.room, .slice A c.parts.length cap, .int .i64 c.hits, .int .i64 c.misses, .int .i64 c.clashes, .int .i64 c.evicted]
  have hal : Below w.heap.size w (w.alloc (.cells #[.int .i64 c.width, .int .i64 c.room, .slice A c.parts.length cap, .int .i64 c.hits, .int .i64 c.misses, .int .i64 c.clashes, .int .i64 c.evicted] 28)) := (Below.refl _ _).alloc (Nat.le_refl _) _
  obtain ⟨w1, hw1⟩ : ∃ w1, w1 = w.alloc (.cells #[.int .i64 c.width, .int .i64 c.room, .slice A c.parts.length cap, .int .i64 c.hits, .int .i64 c.misses, .int .i64 c.clashes, .int .i64 c.evicted] 28) := ⟨_, rfl⟩
  obtain ⟨g, hg⟩ : ∃ g, g = w.heap.size := ⟨_, rfl⟩
  rw [← hw1] at hbx hal ⊢
  rw [← hg] at hbx ⊢
  have HBX := Lib.hid hbx
  have HW1 := Lib.hid hal
  clear hbx hal hw1 hg
  go_loopw [3, 9] (fun m i wr => ∃ k : Nat, k ≤ c.parts.length ∧ i = .int .i64 k ∧ (∃ z : Nat, Hid (((c.parts.take k).map List.length).sum = z) ∧ z ≤ k * 1000 ∧ m = .int .i64 z) ∧ Hid (Below w1.heap.size w1 wr)) (fun _ i _ => c.parts.length - (intOf i).toNat)
  case atStart => exact ⟨0, Nat.zero_le _, rfl, ⟨0, Lib.hid (by simp), Nat.zero_le _, rfl⟩, Lib.hid (Below.refl _ _)⟩
  case round =>
    obtain ⟨k, hk, rfl, ⟨z, HZ, hz, rfl⟩, HB⟩ := hrel
    obtain ⟨y0, y1, y2, y3, y4, y5, y6⟩ := box7 HBX.out HB.out
    by_cases g1 : k < c.parts.length
    · obtain ⟨L, hL⟩ : ∃ L, c.parts[k]? = some L := ⟨_, List.getElem?_eq_getElem g1⟩
      obtain ⟨a, B, cl, rfl, hal, hcell, hSB, hcl⟩ := ((HA.out.up HW1.out).up HB.out).at_ hL
      have hl := (HF.out.each L (List.mem_of_getElem? hL)).1
      have HT : Hid (((c.parts.take (k + 1)).map List.length).sum = z + L.length) := Lib.hid (by rw [size_take hL, HZ.out])
      clear hL hSB hcl
      go_wp2_with fail
      go_roundw
      case rel => exact ⟨k + 1, by omega, by go_num, ⟨z + L.length, HT, by omega, by go_num⟩, HB⟩
      case measure => simp [intOf]; omega
    · have HT : Hid (sizeC c = z) := Lib.hid (by have := HZ.out; rw [List.take_of_length_le (by omega)] at this; exact this)
      go_wp2_with fail
      go_ret
      exact ⟨ret_int (by rw [HT.out]), HW1.out.trans (HB.out.mono HW1.out.size)⟩

set_option maxHeartbeats 8000000 in
set_option maxRecDepth 100000 in
theorem fitting_any (c : Ca) (A : Option Addr) (n cap : Nat) (w : World) {X : Nat → Prop} (ha : PartsAt X w A c.parts) (hn : c.parts.length = n) (hf : CaFit c) (n1 : 1 ≤ c.parts.length) (r1 : 0 ≤ c.room) (r2 : c.room ≤ 4096) :
    Calls Try.prog 29 #[.agg #[.int .i64 c.width, .int .i64 c.room, .slice A n cap, .int .i64 c.hits, .int .i64 c.misses, .int .i64 c.clashes, .int .i64 c.evicted]] w (FitTold c w) := by
  subst hn
  have HA := Lib.hid ha
  have HF := Lib.hid hf
  have hlen := hf.len
  clear ha hf
  obtain ⟨a, rfl⟩ : ∃ a, A = some a := by
    obtain ⟨a, e, _⟩ := HA.out (by intro e; rw [e] at n1; simp at n1)
    exact ⟨a, e⟩
  go_enter Try.func29, Try.ntmps29
  go_wp2_with fail
  go_step3
  go_wp2_with fail
  go_step3
  go_wp2_with fail
  have hbx := Blk.new w 28 #[.int .i64 c.width, .int .i64 c.room, .slice (some a) c.parts.length cap, .int .i64 c.hits, .int .i64 c.misses, .int .i64 c.clashes, .int .i64 c.evicted]
  have hal : Below w.heap.size w (w.alloc (.cells #[.int .i64 c.width, .int .i64 c.room, .slice (some a) c.parts.length cap, .int .i64 c.hits, .int .i64 c.misses, .int .i64 c.clashes, .int .i64 c.evicted] 28)) := (Below.refl _ _).alloc (Nat.le_refl _) _
  obtain ⟨w1, hw1⟩ : ∃ w1, w1 = w.alloc (.cells #[.int .i64 c.width, .int .i64 c.room, .slice (some a) c.parts.length cap, .int .i64 c.hits, .int .i64 c.misses, .int .i64 c.clashes, .int .i64 c.evicted] 28) := ⟨_, rfl⟩
  obtain ⟨g, hg⟩ : ∃ g, g = w.heap.size := ⟨_, rfl⟩
  rw [← hw1] at hbx hal ⊢
  rw [← hg] at hbx ⊢
  have HBX := Lib.hid hbx
  have HW1 := Lib.hid hal
  clear hbx hal hw1 hg
  go_loopg [3, 11] c.parts.length (fun gk s3 s11 wr => ∃ k : Nat, k + gk = c.parts.length ∧ s3 = .int .i64 k ∧ s11 = .int .i64 k ∧ Hid (partsB c k = true) ∧ Hid (Below w1.heap.size w1 wr))
  case atStart => exact ⟨0, by omega, rfl, rfl, Lib.hid (by unfold partsB; rfl), Lib.hid (Below.refl _ _)⟩
  case round =>
    obtain ⟨i, hi, rfl, rfl, HP, HB⟩ := hrel
    obtain ⟨w2, rfl⟩ : ∃ w2, w2 = wr := ⟨_, rfl⟩
    obtain ⟨y0, y1, y2, y3, y4, y5, y6⟩ := box7 HBX.out HB.out
    by_cases g1 : i < c.parts.length
    · obtain ⟨L, hL⟩ : ∃ L, c.parts[i]? = some L := ⟨_, List.getElem?_eq_getElem g1⟩
      obtain ⟨a', B, cl, ea, hal1, hcell1, hSB1, hcl⟩ := (HA.out.up HW1.out).at_ hL
      injection ea with ea
      subst ea
      have hcell : w2.cell? (a.add i) = some (.slice B L.length cl) := (HB.out.cell (by rw [add_block]; exact hal1)).trans hcell1
      have hal : a.block < w2.heap.size := Nat.lt_of_lt_of_le hal1 HB.out.size
      have hLc := HF.out.each L (List.mem_of_getElem? hL)
      have l1 : L.length ≤ 1000 := hLc.1
      have HFT := Lib.hid hLc.2
      have HL := Lib.hid hL
      obtain ⟨ab, hab⟩ : ∃ b, rightB L = b := ⟨_, rfl⟩
      have HAB := Lib.hid hab
      have HSU : Hid (∀ W, Below w1.heap.size w1 W → SlotsAt W B L) := Lib.hid fun W hW => hSB1.up hW
      clear hL hLc hab hcell1 hSB1 hal1 hcl
      go_wp2_with fail
      refine (roomOf_any c.width c.room c.hits c.misses c.clashes c.evicted (some a) c.parts.length cap i _ n1 hlen r1 r2).mono ?_
      rintro e w4 ⟨rfl, hb4⟩
      have HB4 := Lib.hid (HB.out.trans (hb4.mono HB.out.size))
      clear hb4 y0 y1 y2 y3 y4 y5 y6 hcell hal
      by_cases hl : L.length ≤ roomN c.parts.length c.room i
      · have hld : decide (roomN c.parts.length c.room i < L.length) = false := decide_eq_false (by omega)
        have HLR := Lib.hid hl
        clear hl
        go_wp2_with fail
        refine (right_any B L L.length cl _ ab HAB.out (HSU.out _ HB4.out) rfl (by omega) (fitS_of HFT.out)).mono ?_
        rintro e w3 ⟨rfl, hb3⟩
        have HB3 := Lib.hid (HB4.out.trans (hb3.mono HB4.out.size))
        clear hb3
        cases ab with
        | false =>
          have HBAD := Lib.hid (fit_bad g1 (parts_bad HL.out (by unfold partB; rw [HAB.out]; rfl)))
          go_wp2_with fail
          go_ret
          exact ⟨i, rfl, HBAD.out, HW1.out.trans (HB3.out.mono HW1.out.size)⟩
        | true =>
          go_wp2_with fail
          go_loopg [29] L.length (fun g2 s29 wr => ∃ j : Nat, j + g2 = L.length ∧ s29 = .int .i64 j ∧ Hid (SlotsOk c i L j) ∧ Hid (Below w1.heap.size w1 wr))
          case atStart => exact ⟨0, by omega, rfl, Lib.hid SlotsOk.zero, HB3⟩
          case round =>
            obtain ⟨k, hk, rfl, HK, HB5⟩ := hrel
            obtain ⟨w5, rfl⟩ : ∃ w5, w5 = wr := ⟨_, rfl⟩
            by_cases g2 : k < L.length
            · obtain ⟨x, hx⟩ : ∃ x, L[k]? = some x := ⟨_, List.getElem?_eq_getElem g2⟩
              obtain ⟨b, rfl, hbl, c0, c1, c2, c3, c4⟩ := slots_fields (HSU.out w5 HB5.out) hx
              have hfx := HFT.out x (List.mem_of_getElem? hx)
              have HFX : Hid (x.left.size ≤ 4096 ∧ x.right.size ≤ 4096 ∧ (Lit.int .u64 x.sum).wf = true) := Lib.hid ⟨hfx.1.1, hfx.1.2.1, hfx.2.1⟩
              have HX := Lib.hid hx
              obtain ⟨p, q, hpq⟩ : ∃ p q, bothK x.left x.right c.width = (p, q) := ⟨_, _, rfl⟩
              have HPQ := Lib.hid hpq
              clear hx hfx hpq
              go_upto_region 9 with (fail)
              clear c0 c1 c2 c3 c4 hbl
              have hbx := Blk.new w5 63 #[.int .u64 x.sum, .int .i64 x.len, .string x.left, .string x.right, .string x.val]
              have hal : Below w5.heap.size w5 (w5.alloc (.cells #[.int .u64 x.sum, .int .i64 x.len, .string x.left, .string x.right, .string x.val] 63)) := (Below.refl _ _).alloc (Nat.le_refl _) _
              obtain ⟨w6, hw6⟩ : ∃ w6, w6 = w5.alloc (.cells #[.int .u64 x.sum, .int .i64 x.len, .string x.left, .string x.right, .string x.val] 63) := ⟨_, rfl⟩
              obtain ⟨h, hh⟩ : ∃ h, h = w5.heap.size := ⟨_, rfl⟩
              rw [← hw6] at hbx hal ⊢
              rw [← hh] at hbx ⊢
              have HB6 : Hid (Below w1.heap.size w1 w6) := Lib.hid (HB5.out.trans (hal.mono HB5.out.size))
              have HXB := Lib.hid hbx
              have HCX : Hid (∀ W, Below w6.heap.size w6 W → W.cell? ⟨h, 0, none⟩ = some (.int .u64 x.sum) ∧ W.cell? ⟨h, 1, none⟩ = some (.int .i64 x.len) ∧ W.cell? ⟨h, 2, none⟩ = some (.string x.left) ∧ W.cell? ⟨h, 3, none⟩ = some (.string x.right) ∧ W.cell? ⟨h, 4, none⟩ = some (.string x.val)) :=
                Lib.hid fun W hW => slot_cells5 (Blk.below HXB.out hW HXB.out.lt)
              have HCB : Hid (∀ W, Below w6.heap.size w6 W → W.cell? ⟨g, 0, none⟩ = some (.int .i64 c.width) ∧ W.cell? ⟨g, 1, none⟩ = some (.int .i64 c.room) ∧ W.cell? ⟨g, 2, none⟩ = some (.slice (some a) c.parts.length cap) ∧ W.cell? ⟨g, 3, none⟩ = some (.int .i64 c.hits) ∧ W.cell? ⟨g, 4, none⟩ = some (.int .i64 c.misses) ∧ W.cell? ⟨g, 5, none⟩ = some (.int .i64 c.clashes) ∧ W.cell? ⟨g, 6, none⟩ = some (.int .i64 c.evicted)) := Lib.hid fun W hW => box7 HBX.out (HB6.out.trans (hW.mono HB6.out.size))
              clear hbx hal hw6 hh
              cases t1 : (x.sum == p) with
              | false =>
                have HBAD := Lib.hid (fit_bad g1 (parts_bad_slot HL.out HX.out (fun hh => by have e := hh.1; rw [HPQ.out] at e; have := congrArg Prod.fst e; simp [Sl.key] at this; simp [this] at t1)))
                refine wp_region_noPanic ?_
                refine wp_region_held_drew (S := fun W => Below w6.heap.size w6 W) (by kernel_rfl) ((Below.refl w6.heap.size w6).drew) (fun hS0 => ?_)
                change wpAnyH _ _ _ _ _ 18 #[false, false, false, false, false, false, false, false, false, false, false, false, false, false, false, false, false, false] _ (World.drew _)
                refine wpAnyH_take (i := 0) (v := .pointer (some ⟨h, 0, none⟩)) rfl (by kernel_rfl) (by kernel_rfl) (by kernel_rfl) (fun _ _ _ h => h) (Or.inl ⟨by rfl, fun w' hS' => by go_simp⟩) hS0 ?_
                change wpAnyH _ _ _ _ _ _ _ (Act.put _ (some 33) (.pointer (some ⟨h, 0, none⟩))) _
                simp only [Act.put, List.setIfInBounds_toArray, List.set_cons_zero, List.set_cons_succ]
                refine wpAnyH_take (i := 1) (v := .agg #[.int .u64 x.sum, .int .i64 x.len]) rfl (by kernel_rfl) (by kernel_rfl) (by kernel_rfl) (fun _ _ _ h => h) (Or.inl ⟨by rfl, fun w' hS' => by obtain ⟨c0, c1, c2, c3, c4⟩ := HCX.out _ hS'; go_simp⟩) hS0 ?_
                change wpAnyH _ _ _ _ _ _ _ (Act.put _ (some 34) (.agg #[.int .u64 x.sum, .int .i64 x.len])) _
                simp only [Act.put, List.setIfInBounds_toArray, List.set_cons_zero, List.set_cons_succ]
                refine wpAnyH_take (i := 2) (v := .pointer (some ⟨h, 2, none⟩)) rfl (by kernel_rfl) (by kernel_rfl) (by kernel_rfl) (fun _ _ _ h => h) (Or.inl ⟨by rfl, fun w' hS' => by go_simp⟩) hS0 ?_
                change wpAnyH _ _ _ _ _ _ _ (Act.put _ (some 35) (.pointer (some ⟨h, 2, none⟩))) _
                simp only [Act.put, List.setIfInBounds_toArray, List.set_cons_zero, List.set_cons_succ]
                refine wpAnyH_take (i := 3) (v := .string x.left) rfl (by kernel_rfl) (by kernel_rfl) (by kernel_rfl) (fun _ _ _ h => h) (Or.inl ⟨by rfl, fun w' hS' => by obtain ⟨c0, c1, c2, c3, c4⟩ := HCX.out _ hS'; go_simp⟩) hS0 ?_
                change wpAnyH _ _ _ _ _ _ _ (Act.put _ (some 36) (.string x.left)) _
                simp only [Act.put, List.setIfInBounds_toArray, List.set_cons_zero, List.set_cons_succ]
                refine wpAnyH_take (i := 4) (v := .pointer (some ⟨h, 3, none⟩)) rfl (by kernel_rfl) (by kernel_rfl) (by kernel_rfl) (fun _ _ _ h => h) (Or.inl ⟨by rfl, fun w' hS' => by go_simp⟩) hS0 ?_
                change wpAnyH _ _ _ _ _ _ _ (Act.put _ (some 37) (.pointer (some ⟨h, 3, none⟩))) _
                simp only [Act.put, List.setIfInBounds_toArray, List.set_cons_zero, List.set_cons_succ]
                refine wpAnyH_take (i := 5) (v := .string x.right) rfl (by kernel_rfl) (by kernel_rfl) (by kernel_rfl) (fun _ _ _ h => h) (Or.inl ⟨by rfl, fun w' hS' => by obtain ⟨c0, c1, c2, c3, c4⟩ := HCX.out _ hS'; go_simp⟩) hS0 ?_
                change wpAnyH _ _ _ _ _ _ _ (Act.put _ (some 38) (.string x.right)) _
                simp only [Act.put, List.setIfInBounds_toArray, List.set_cons_zero, List.set_cons_succ]
                refine wpAnyH_take (i := 6) (v := .pointer (some ⟨g, 0, none⟩)) rfl (by kernel_rfl) (by kernel_rfl) (by kernel_rfl) (fun _ _ _ h => h) (Or.inl ⟨by rfl, fun w' hS' => by go_simp⟩) hS0 ?_
                change wpAnyH _ _ _ _ _ _ _ (Act.put _ (some 39) (.pointer (some ⟨g, 0, none⟩))) _
                simp only [Act.put, List.setIfInBounds_toArray, List.set_cons_zero, List.set_cons_succ]
                refine wpAnyH_take (i := 7) (v := .int .i64 c.width) rfl (by kernel_rfl) (by kernel_rfl) (by kernel_rfl) (fun _ _ _ h => h) (Or.inl ⟨by rfl, fun w' hS' => by obtain ⟨y0, y1, y2, y3, y4, y5, y6⟩ := HCB.out _ hS'; go_simp⟩) hS0 ?_
                change wpAnyH _ _ _ _ _ _ _ (Act.put _ (some 40) (.int .i64 c.width)) _
                simp only [Act.put, List.setIfInBounds_toArray, List.set_cons_zero, List.set_cons_succ]
                refine wpAnyH_ready (rs := [8]) (by kernel_rfl) (by simp) (AllReadyH.cons rfl (fun K hK => ?_) (AllReadyH.nil))
                · skip
                  go_simp
                  refine (both_v x.left x.right c.width _ p q HPQ.out HFX.out.1 HFX.out.2.1).mono ?_
                  rintro e W1 ⟨rfl, hb3⟩
                  refine hK.out _ _ (hS0.trans (hb3.mono hS0.size)) (fun hS2 => ?_)
                  clear hK K
                  simp only [List.setIfInBounds_toArray, List.set_cons_zero, List.set_cons_succ]
                  refine wpAnyH_take (i := 9) (v := .bool true) rfl (by kernel_rfl) (by kernel_rfl) (by kernel_rfl) (fun _ _ _ h => h) (Or.inl ⟨by rfl, fun w' hS' => by go_simp⟩) hS2 ?_
                  change wpAnyH _ _ _ _ _ _ _ (Act.put _ (some 42) (.bool true)) _
                  simp only [Act.put, List.setIfInBounds_toArray, List.set_cons_zero, List.set_cons_succ]
                  refine wpAnyH_take (i := 10) (v := .bool true) rfl (by kernel_rfl) (by kernel_rfl) (by kernel_rfl) (fun _ _ _ h => h) (Or.inl ⟨by rfl, fun w' hS' => by exact op_move rfl rfl⟩) hS2 ?_
                  change wpAnyH _ _ _ _ _ _ _ (Act.put _ (some 43) (.bool true)) _
                  simp only [Act.put, List.setIfInBounds_toArray, List.set_cons_zero, List.set_cons_succ]
                  refine wpAnyH_take (i := 11) (v := undef) rfl (by kernel_rfl) (by kernel_rfl) (by kernel_rfl) (fun _ _ _ h => h) (Or.inr ⟨by rfl, rfl⟩) hS2 ?_
                  change wpAnyH _ _ _ _ _ _ _ (Act.put _ (some 44) (undef)) _
                  simp only [Act.put, List.setIfInBounds_toArray, List.set_cons_zero, List.set_cons_succ]
                  refine wpAnyH_take (i := 12) (v := undef) rfl (by kernel_rfl) (by kernel_rfl) (by kernel_rfl) (fun _ _ _ h => h) (Or.inr ⟨by rfl, rfl⟩) hS2 ?_
                  change wpAnyH _ _ _ _ _ _ _ (Act.put _ (some 45) (undef)) _
                  simp only [Act.put, List.setIfInBounds_toArray, List.set_cons_zero, List.set_cons_succ]
                  refine wpAnyH_take (i := 13) (v := undef) rfl (by kernel_rfl) (by kernel_rfl) (by kernel_rfl) (fun _ _ _ h => h) (Or.inr ⟨by rfl, rfl⟩) hS2 ?_
                  change wpAnyH _ _ _ _ _ _ _ (Act.put _ (some 46) (undef)) _
                  simp only [Act.put, List.setIfInBounds_toArray, List.set_cons_zero, List.set_cons_succ]
                  refine wpAnyH_take (i := 14) (v := undef) rfl (by kernel_rfl) (by kernel_rfl) (by kernel_rfl) (fun _ _ _ h => h) (Or.inr ⟨by rfl, rfl⟩) hS2 ?_
                  change wpAnyH _ _ _ _ _ _ _ (Act.put _ (some 47) (undef)) _
                  simp only [Act.put, List.setIfInBounds_toArray, List.set_cons_zero, List.set_cons_succ]
                  refine wpAnyH_take (i := 15) (v := undef) rfl (by kernel_rfl) (by kernel_rfl) (by kernel_rfl) (fun _ _ _ h => h) (Or.inr ⟨by rfl, rfl⟩) hS2 ?_
                  change wpAnyH _ _ _ _ _ _ _ (Act.put _ (some 48) (undef)) _
                  simp only [Act.put, List.setIfInBounds_toArray, List.set_cons_zero, List.set_cons_succ]
                  refine wpAnyH_take (i := 16) (v := undef) rfl (by kernel_rfl) (by kernel_rfl) (by kernel_rfl) (fun _ _ _ h => h) (Or.inr ⟨by rfl, rfl⟩) hS2 ?_
                  change wpAnyH _ _ _ _ _ _ _ (Act.put _ (some 49) (undef)) _
                  simp only [Act.put, List.setIfInBounds_toArray, List.set_cons_zero, List.set_cons_succ]
                  refine wpAnyH_take (i := 17) (v := .bool true) rfl (by kernel_rfl) (by kernel_rfl) (by kernel_rfl) (fun _ _ _ h => h) (Or.inl ⟨by rfl, fun w' hS' => by go_simp⟩) hS2 ?_
                  change wpAnyH _ _ _ _ _ _ _ (Act.put _ (some 50) (.bool true)) _
                  simp only [Act.put, List.setIfInBounds_toArray, List.set_cons_zero, List.set_cons_succ]
                  refine wpAnyH_done (by kernel_rfl) ?_ _
                  refine NoPanic.normal ?_
                  have HS : Hid (Below w1.heap.size w1 _) := Lib.hid (HB6.out.trans (hS2.mono HB6.out.size))
                  go_wp2_with fail
                  go_ret
                  exact ⟨i, rfl, HBAD.out, HW1.out.trans (HS.out.mono HW1.out.size)⟩
              | true =>
                cases t2 : (x.len == q) with
                | false =>
                  have HBAD := Lib.hid (fit_bad g1 (parts_bad_slot HL.out HX.out (fun hh => by have e := hh.1; rw [HPQ.out] at e; have := congrArg Prod.snd e; simp [Sl.key] at this; simp [this] at t2)))
                  refine wp_region_noPanic ?_
                  refine wp_region_held_drew (S := fun W => Below w6.heap.size w6 W) (by kernel_rfl) ((Below.refl w6.heap.size w6).drew) (fun hS0 => ?_)
                  change wpAnyH _ _ _ _ _ 18 #[false, false, false, false, false, false, false, false, false, false, false, false, false, false, false, false, false, false] _ (World.drew _)
                  refine wpAnyH_take (i := 0) (v := .pointer (some ⟨h, 0, none⟩)) rfl (by kernel_rfl) (by kernel_rfl) (by kernel_rfl) (fun _ _ _ h => h) (Or.inl ⟨by rfl, fun w' hS' => by go_simp⟩) hS0 ?_
                  change wpAnyH _ _ _ _ _ _ _ (Act.put _ (some 33) (.pointer (some ⟨h, 0, none⟩))) _
                  simp only [Act.put, List.setIfInBounds_toArray, List.set_cons_zero, List.set_cons_succ]
                  refine wpAnyH_take (i := 1) (v := .agg #[.int .u64 x.sum, .int .i64 x.len]) rfl (by kernel_rfl) (by kernel_rfl) (by kernel_rfl) (fun _ _ _ h => h) (Or.inl ⟨by rfl, fun w' hS' => by obtain ⟨c0, c1, c2, c3, c4⟩ := HCX.out _ hS'; go_simp⟩) hS0 ?_
                  change wpAnyH _ _ _ _ _ _ _ (Act.put _ (some 34) (.agg #[.int .u64 x.sum, .int .i64 x.len])) _
                  simp only [Act.put, List.setIfInBounds_toArray, List.set_cons_zero, List.set_cons_succ]
                  refine wpAnyH_take (i := 2) (v := .pointer (some ⟨h, 2, none⟩)) rfl (by kernel_rfl) (by kernel_rfl) (by kernel_rfl) (fun _ _ _ h => h) (Or.inl ⟨by rfl, fun w' hS' => by go_simp⟩) hS0 ?_
                  change wpAnyH _ _ _ _ _ _ _ (Act.put _ (some 35) (.pointer (some ⟨h, 2, none⟩))) _
                  simp only [Act.put, List.setIfInBounds_toArray, List.set_cons_zero, List.set_cons_succ]
                  refine wpAnyH_take (i := 3) (v := .string x.left) rfl (by kernel_rfl) (by kernel_rfl) (by kernel_rfl) (fun _ _ _ h => h) (Or.inl ⟨by rfl, fun w' hS' => by obtain ⟨c0, c1, c2, c3, c4⟩ := HCX.out _ hS'; go_simp⟩) hS0 ?_
                  change wpAnyH _ _ _ _ _ _ _ (Act.put _ (some 36) (.string x.left)) _
                  simp only [Act.put, List.setIfInBounds_toArray, List.set_cons_zero, List.set_cons_succ]
                  refine wpAnyH_take (i := 4) (v := .pointer (some ⟨h, 3, none⟩)) rfl (by kernel_rfl) (by kernel_rfl) (by kernel_rfl) (fun _ _ _ h => h) (Or.inl ⟨by rfl, fun w' hS' => by go_simp⟩) hS0 ?_
                  change wpAnyH _ _ _ _ _ _ _ (Act.put _ (some 37) (.pointer (some ⟨h, 3, none⟩))) _
                  simp only [Act.put, List.setIfInBounds_toArray, List.set_cons_zero, List.set_cons_succ]
                  refine wpAnyH_take (i := 5) (v := .string x.right) rfl (by kernel_rfl) (by kernel_rfl) (by kernel_rfl) (fun _ _ _ h => h) (Or.inl ⟨by rfl, fun w' hS' => by obtain ⟨c0, c1, c2, c3, c4⟩ := HCX.out _ hS'; go_simp⟩) hS0 ?_
                  change wpAnyH _ _ _ _ _ _ _ (Act.put _ (some 38) (.string x.right)) _
                  simp only [Act.put, List.setIfInBounds_toArray, List.set_cons_zero, List.set_cons_succ]
                  refine wpAnyH_take (i := 6) (v := .pointer (some ⟨g, 0, none⟩)) rfl (by kernel_rfl) (by kernel_rfl) (by kernel_rfl) (fun _ _ _ h => h) (Or.inl ⟨by rfl, fun w' hS' => by go_simp⟩) hS0 ?_
                  change wpAnyH _ _ _ _ _ _ _ (Act.put _ (some 39) (.pointer (some ⟨g, 0, none⟩))) _
                  simp only [Act.put, List.setIfInBounds_toArray, List.set_cons_zero, List.set_cons_succ]
                  refine wpAnyH_take (i := 7) (v := .int .i64 c.width) rfl (by kernel_rfl) (by kernel_rfl) (by kernel_rfl) (fun _ _ _ h => h) (Or.inl ⟨by rfl, fun w' hS' => by obtain ⟨y0, y1, y2, y3, y4, y5, y6⟩ := HCB.out _ hS'; go_simp⟩) hS0 ?_
                  change wpAnyH _ _ _ _ _ _ _ (Act.put _ (some 40) (.int .i64 c.width)) _
                  simp only [Act.put, List.setIfInBounds_toArray, List.set_cons_zero, List.set_cons_succ]
                  refine wpAnyH_ready (rs := [8]) (by kernel_rfl) (by simp) (AllReadyH.cons rfl (fun K hK => ?_) (AllReadyH.nil))
                  · skip
                    go_simp
                    refine (both_v x.left x.right c.width _ p q HPQ.out HFX.out.1 HFX.out.2.1).mono ?_
                    rintro e W1 ⟨rfl, hb3⟩
                    refine hK.out _ _ (hS0.trans (hb3.mono hS0.size)) (fun hS2 => ?_)
                    clear hK K
                    simp only [List.setIfInBounds_toArray, List.set_cons_zero, List.set_cons_succ]
                    refine wpAnyH_take (i := 9) (v := .bool true) rfl (by kernel_rfl) (by kernel_rfl) (by kernel_rfl) (fun _ _ _ h => h) (Or.inl ⟨by rfl, fun w' hS' => by go_simp⟩) hS2 ?_
                    change wpAnyH _ _ _ _ _ _ _ (Act.put _ (some 42) (.bool true)) _
                    simp only [Act.put, List.setIfInBounds_toArray, List.set_cons_zero, List.set_cons_succ]
                    refine wpAnyH_take (i := 10) (v := .bool true) rfl (by kernel_rfl) (by kernel_rfl) (by kernel_rfl) (fun _ _ _ h => h) (Or.inl ⟨by rfl, fun w' hS' => by exact op_move rfl rfl⟩) hS2 ?_
                    change wpAnyH _ _ _ _ _ _ _ (Act.put _ (some 43) (.bool true)) _
                    simp only [Act.put, List.setIfInBounds_toArray, List.set_cons_zero, List.set_cons_succ]
                    refine wpAnyH_take (i := 11) (v := undef) rfl (by kernel_rfl) (by kernel_rfl) (by kernel_rfl) (fun _ _ _ h => h) (Or.inr ⟨by rfl, rfl⟩) hS2 ?_
                    change wpAnyH _ _ _ _ _ _ _ (Act.put _ (some 44) (undef)) _
                    simp only [Act.put, List.setIfInBounds_toArray, List.set_cons_zero, List.set_cons_succ]
                    refine wpAnyH_take (i := 12) (v := undef) rfl (by kernel_rfl) (by kernel_rfl) (by kernel_rfl) (fun _ _ _ h => h) (Or.inr ⟨by rfl, rfl⟩) hS2 ?_
                    change wpAnyH _ _ _ _ _ _ _ (Act.put _ (some 45) (undef)) _
                    simp only [Act.put, List.setIfInBounds_toArray, List.set_cons_zero, List.set_cons_succ]
                    refine wpAnyH_take (i := 13) (v := undef) rfl (by kernel_rfl) (by kernel_rfl) (by kernel_rfl) (fun _ _ _ h => h) (Or.inr ⟨by rfl, rfl⟩) hS2 ?_
                    change wpAnyH _ _ _ _ _ _ _ (Act.put _ (some 46) (undef)) _
                    simp only [Act.put, List.setIfInBounds_toArray, List.set_cons_zero, List.set_cons_succ]
                    refine wpAnyH_take (i := 14) (v := undef) rfl (by kernel_rfl) (by kernel_rfl) (by kernel_rfl) (fun _ _ _ h => h) (Or.inr ⟨by rfl, rfl⟩) hS2 ?_
                    change wpAnyH _ _ _ _ _ _ _ (Act.put _ (some 47) (undef)) _
                    simp only [Act.put, List.setIfInBounds_toArray, List.set_cons_zero, List.set_cons_succ]
                    refine wpAnyH_take (i := 15) (v := undef) rfl (by kernel_rfl) (by kernel_rfl) (by kernel_rfl) (fun _ _ _ h => h) (Or.inr ⟨by rfl, rfl⟩) hS2 ?_
                    change wpAnyH _ _ _ _ _ _ _ (Act.put _ (some 48) (undef)) _
                    simp only [Act.put, List.setIfInBounds_toArray, List.set_cons_zero, List.set_cons_succ]
                    refine wpAnyH_take (i := 16) (v := undef) rfl (by kernel_rfl) (by kernel_rfl) (by kernel_rfl) (fun _ _ _ h => h) (Or.inr ⟨by rfl, rfl⟩) hS2 ?_
                    change wpAnyH _ _ _ _ _ _ _ (Act.put _ (some 49) (undef)) _
                    simp only [Act.put, List.setIfInBounds_toArray, List.set_cons_zero, List.set_cons_succ]
                    refine wpAnyH_take (i := 17) (v := .bool true) rfl (by kernel_rfl) (by kernel_rfl) (by kernel_rfl) (fun _ _ _ h => h) (Or.inl ⟨by rfl, fun w' hS' => by go_simp⟩) hS2 ?_
                    change wpAnyH _ _ _ _ _ _ _ (Act.put _ (some 50) (.bool true)) _
                    simp only [Act.put, List.setIfInBounds_toArray, List.set_cons_zero, List.set_cons_succ]
                    refine wpAnyH_done (by kernel_rfl) ?_ _
                    refine NoPanic.normal ?_
                    have HS : Hid (Below w1.heap.size w1 _) := Lib.hid (HB6.out.trans (hS2.mono HB6.out.size))
                    go_wp2_with fail
                    go_ret
                    exact ⟨i, rfl, HBAD.out, HW1.out.trans (HS.out.mono HW1.out.size)⟩
                | true =>
                  have hkey : x.key = bothK x.left x.right c.width := by rw [HPQ.out]; exact Prod.ext (by show x.sum = p; simpa using t1) (by show x.len = q; simpa using t2)
                  have HKEY := Lib.hid hkey
                  clear hkey
                  cases t3 : ((partN c.parts.length (x.sum, x.len) : Int) == (i : Int)) with
                  | false =>
                    have HBAD := Lib.hid (fit_bad g1 (parts_bad_slot HL.out HX.out (fun hh => by have e := hh.2; simp [Sl.key] at e; simp [e] at t3)))
                    have t4 : ((partN c.parts.length (x.sum, x.len) : Int) != (i : Int)) = true := by rw [bne, t3]; rfl
                    refine wp_region_noPanic ?_
                    refine wp_region_held_drew (S := fun W => Below w6.heap.size w6 W) (by kernel_rfl) ((Below.refl w6.heap.size w6).drew) (fun hS0 => ?_)
                    change wpAnyH _ _ _ _ _ 18 #[false, false, false, false, false, false, false, false, false, false, false, false, false, false, false, false, false, false] _ (World.drew _)
                    refine wpAnyH_take (i := 0) (v := .pointer (some ⟨h, 0, none⟩)) rfl (by kernel_rfl) (by kernel_rfl) (by kernel_rfl) (fun _ _ _ h => h) (Or.inl ⟨by rfl, fun w' hS' => by go_simp⟩) hS0 ?_
                    change wpAnyH _ _ _ _ _ _ _ (Act.put _ (some 33) (.pointer (some ⟨h, 0, none⟩))) _
                    simp only [Act.put, List.setIfInBounds_toArray, List.set_cons_zero, List.set_cons_succ]
                    refine wpAnyH_take (i := 1) (v := .agg #[.int .u64 x.sum, .int .i64 x.len]) rfl (by kernel_rfl) (by kernel_rfl) (by kernel_rfl) (fun _ _ _ h => h) (Or.inl ⟨by rfl, fun w' hS' => by obtain ⟨c0, c1, c2, c3, c4⟩ := HCX.out _ hS'; go_simp⟩) hS0 ?_
                    change wpAnyH _ _ _ _ _ _ _ (Act.put _ (some 34) (.agg #[.int .u64 x.sum, .int .i64 x.len])) _
                    simp only [Act.put, List.setIfInBounds_toArray, List.set_cons_zero, List.set_cons_succ]
                    refine wpAnyH_take (i := 2) (v := .pointer (some ⟨h, 2, none⟩)) rfl (by kernel_rfl) (by kernel_rfl) (by kernel_rfl) (fun _ _ _ h => h) (Or.inl ⟨by rfl, fun w' hS' => by go_simp⟩) hS0 ?_
                    change wpAnyH _ _ _ _ _ _ _ (Act.put _ (some 35) (.pointer (some ⟨h, 2, none⟩))) _
                    simp only [Act.put, List.setIfInBounds_toArray, List.set_cons_zero, List.set_cons_succ]
                    refine wpAnyH_take (i := 3) (v := .string x.left) rfl (by kernel_rfl) (by kernel_rfl) (by kernel_rfl) (fun _ _ _ h => h) (Or.inl ⟨by rfl, fun w' hS' => by obtain ⟨c0, c1, c2, c3, c4⟩ := HCX.out _ hS'; go_simp⟩) hS0 ?_
                    change wpAnyH _ _ _ _ _ _ _ (Act.put _ (some 36) (.string x.left)) _
                    simp only [Act.put, List.setIfInBounds_toArray, List.set_cons_zero, List.set_cons_succ]
                    refine wpAnyH_take (i := 4) (v := .pointer (some ⟨h, 3, none⟩)) rfl (by kernel_rfl) (by kernel_rfl) (by kernel_rfl) (fun _ _ _ h => h) (Or.inl ⟨by rfl, fun w' hS' => by go_simp⟩) hS0 ?_
                    change wpAnyH _ _ _ _ _ _ _ (Act.put _ (some 37) (.pointer (some ⟨h, 3, none⟩))) _
                    simp only [Act.put, List.setIfInBounds_toArray, List.set_cons_zero, List.set_cons_succ]
                    refine wpAnyH_take (i := 5) (v := .string x.right) rfl (by kernel_rfl) (by kernel_rfl) (by kernel_rfl) (fun _ _ _ h => h) (Or.inl ⟨by rfl, fun w' hS' => by obtain ⟨c0, c1, c2, c3, c4⟩ := HCX.out _ hS'; go_simp⟩) hS0 ?_
                    change wpAnyH _ _ _ _ _ _ _ (Act.put _ (some 38) (.string x.right)) _
                    simp only [Act.put, List.setIfInBounds_toArray, List.set_cons_zero, List.set_cons_succ]
                    refine wpAnyH_take (i := 6) (v := .pointer (some ⟨g, 0, none⟩)) rfl (by kernel_rfl) (by kernel_rfl) (by kernel_rfl) (fun _ _ _ h => h) (Or.inl ⟨by rfl, fun w' hS' => by go_simp⟩) hS0 ?_
                    change wpAnyH _ _ _ _ _ _ _ (Act.put _ (some 39) (.pointer (some ⟨g, 0, none⟩))) _
                    simp only [Act.put, List.setIfInBounds_toArray, List.set_cons_zero, List.set_cons_succ]
                    refine wpAnyH_take (i := 7) (v := .int .i64 c.width) rfl (by kernel_rfl) (by kernel_rfl) (by kernel_rfl) (fun _ _ _ h => h) (Or.inl ⟨by rfl, fun w' hS' => by obtain ⟨y0, y1, y2, y3, y4, y5, y6⟩ := HCB.out _ hS'; go_simp⟩) hS0 ?_
                    change wpAnyH _ _ _ _ _ _ _ (Act.put _ (some 40) (.int .i64 c.width)) _
                    simp only [Act.put, List.setIfInBounds_toArray, List.set_cons_zero, List.set_cons_succ]
                    refine wpAnyH_ready (rs := [8]) (by kernel_rfl) (by simp) (AllReadyH.cons rfl (fun K hK => ?_) (AllReadyH.nil))
                    · skip
                      go_simp
                      refine (both_v x.left x.right c.width _ p q HPQ.out HFX.out.1 HFX.out.2.1).mono ?_
                      rintro e W1 ⟨rfl, hb3⟩
                      refine hK.out _ _ (hS0.trans (hb3.mono hS0.size)) (fun hS2 => ?_)
                      clear hK K
                      simp only [List.setIfInBounds_toArray, List.set_cons_zero, List.set_cons_succ]
                      refine wpAnyH_take (i := 9) (v := .bool false) rfl (by kernel_rfl) (by kernel_rfl) (by kernel_rfl) (fun _ _ _ h => h) (Or.inl ⟨by rfl, fun w' hS' => by go_simp⟩) hS2 ?_
                      change wpAnyH _ _ _ _ _ _ _ (Act.put _ (some 42) (.bool false)) _
                      simp only [Act.put, List.setIfInBounds_toArray, List.set_cons_zero, List.set_cons_succ]
                      refine wpAnyH_take (i := 10) (v := .bool false) rfl (by kernel_rfl) (by kernel_rfl) (by kernel_rfl) (fun _ _ _ h => h) (Or.inl ⟨by rfl, fun w' hS' => by exact op_move rfl rfl⟩) hS2 ?_
                      change wpAnyH _ _ _ _ _ _ _ (Act.put _ (some 43) (.bool false)) _
                      simp only [Act.put, List.setIfInBounds_toArray, List.set_cons_zero, List.set_cons_succ]
                      refine wpAnyH_take (i := 11) (v := .agg #[.int .i64 c.width, .int .i64 c.room, .slice (some a) c.parts.length cap, .int .i64 c.hits, .int .i64 c.misses, .int .i64 c.clashes, .int .i64 c.evicted]) rfl (by kernel_rfl) (by kernel_rfl) (by kernel_rfl) (fun _ _ _ h => h) (Or.inl ⟨by rfl, fun w' hS' => by obtain ⟨y0, y1, y2, y3, y4, y5, y6⟩ := HCB.out _ hS'; go_simp⟩) hS2 ?_
                      change wpAnyH _ _ _ _ _ _ _ (Act.put _ (some 44) (.agg #[.int .i64 c.width, .int .i64 c.room, .slice (some a) c.parts.length cap, .int .i64 c.hits, .int .i64 c.misses, .int .i64 c.clashes, .int .i64 c.evicted])) _
                      simp only [Act.put, List.setIfInBounds_toArray, List.set_cons_zero, List.set_cons_succ]
                      refine wpAnyH_take (i := 12) (v := .pointer (some ⟨h, 0, none⟩)) rfl (by kernel_rfl) (by kernel_rfl) (by kernel_rfl) (fun _ _ _ h => h) (Or.inl ⟨by rfl, fun w' hS' => by go_simp⟩) hS2 ?_
                      change wpAnyH _ _ _ _ _ _ _ (Act.put _ (some 45) (.pointer (some ⟨h, 0, none⟩))) _
                      simp only [Act.put, List.setIfInBounds_toArray, List.set_cons_zero, List.set_cons_succ]
                      refine wpAnyH_take (i := 13) (v := .agg #[.int .u64 x.sum, .int .i64 x.len]) rfl (by kernel_rfl) (by kernel_rfl) (by kernel_rfl) (fun _ _ _ h => h) (Or.inl ⟨by rfl, fun w' hS' => by obtain ⟨c0, c1, c2, c3, c4⟩ := HCX.out _ hS'; go_simp⟩) hS2 ?_
                      change wpAnyH _ _ _ _ _ _ _ (Act.put _ (some 46) (.agg #[.int .u64 x.sum, .int .i64 x.len])) _
                      simp only [Act.put, List.setIfInBounds_toArray, List.set_cons_zero, List.set_cons_succ]
                      refine wpAnyH_take (i := 15) (v := .int .i64 (i : Int)) rfl (by kernel_rfl) (by kernel_rfl) (by kernel_rfl) (fun _ _ _ h => h) (Or.inl ⟨by rfl, fun w' hS' => by exact op_move rfl rfl⟩) hS2 ?_
                      change wpAnyH _ _ _ _ _ _ _ (Act.put _ (some 48) (.int .i64 (i : Int))) _
                      simp only [Act.put, List.setIfInBounds_toArray, List.set_cons_zero, List.set_cons_succ]
                      refine wpAnyH_ready (rs := [14]) (by kernel_rfl) (by simp) (AllReadyH.cons rfl (fun K hK => ?_) (AllReadyH.nil))
                      · skip
                        go_simp
                        refine (partOf_any c.width c.room c.hits c.misses c.clashes c.evicted (some a) c.parts.length cap x.sum x.len _ n1 (by omega) HFX.out.2.2).mono ?_
                        rintro e W4 ⟨rfl, hb6⟩
                        refine hK.out _ _ (hS2.trans (hb6.mono hS2.size)) (fun hS5 => ?_)
                        clear hK K
                        simp only [List.setIfInBounds_toArray, List.set_cons_zero, List.set_cons_succ]
                        refine wpAnyH_take (i := 16) (v := .bool true) rfl (by kernel_rfl) (by kernel_rfl) (by kernel_rfl) (fun _ _ _ h => h) (Or.inl ⟨by rfl, fun w' hS' => by go_simp⟩) hS5 ?_
                        change wpAnyH _ _ _ _ _ _ _ (Act.put _ (some 49) (.bool true)) _
                        simp only [Act.put, List.setIfInBounds_toArray, List.set_cons_zero, List.set_cons_succ]
                        refine wpAnyH_take (i := 17) (v := .bool true) rfl (by kernel_rfl) (by kernel_rfl) (by kernel_rfl) (fun _ _ _ h => h) (Or.inl ⟨by rfl, fun w' hS' => by go_simp⟩) hS5 ?_
                        change wpAnyH _ _ _ _ _ _ _ (Act.put _ (some 50) (.bool true)) _
                        simp only [Act.put, List.setIfInBounds_toArray, List.set_cons_zero, List.set_cons_succ]
                        refine wpAnyH_done (by kernel_rfl) ?_ _
                        refine NoPanic.normal ?_
                        have HS : Hid (Below w1.heap.size w1 _) := Lib.hid (HB6.out.trans (hS5.mono HB6.out.size))
                        go_wp2_with fail
                        go_ret
                        exact ⟨i, rfl, HBAD.out, HW1.out.trans (HS.out.mono HW1.out.size)⟩
                  | true =>
                    have t4 : ((partN c.parts.length (x.sum, x.len) : Int) != (i : Int)) = false := by rw [bne, t3]; rfl
                    have HOK : Hid (slotB c.width c.parts.length i x = true) := Lib.hid (by unfold slotB; exact decide_eq_true ⟨HKEY.out, by have := eq_of_beq t3; show partN c.parts.length (x.sum, x.len) = i; omega⟩)
                    refine wp_region_noPanic ?_
                    refine wp_region_held_drew (S := fun W => Below w6.heap.size w6 W) (by kernel_rfl) ((Below.refl w6.heap.size w6).drew) (fun hS0 => ?_)
                    change wpAnyH _ _ _ _ _ 18 #[false, false, false, false, false, false, false, false, false, false, false, false, false, false, false, false, false, false] _ (World.drew _)
                    refine wpAnyH_take (i := 0) (v := .pointer (some ⟨h, 0, none⟩)) rfl (by kernel_rfl) (by kernel_rfl) (by kernel_rfl) (fun _ _ _ h => h) (Or.inl ⟨by rfl, fun w' hS' => by go_simp⟩) hS0 ?_
                    change wpAnyH _ _ _ _ _ _ _ (Act.put _ (some 33) (.pointer (some ⟨h, 0, none⟩))) _
                    simp only [Act.put, List.setIfInBounds_toArray, List.set_cons_zero, List.set_cons_succ]
                    refine wpAnyH_take (i := 1) (v := .agg #[.int .u64 x.sum, .int .i64 x.len]) rfl (by kernel_rfl) (by kernel_rfl) (by kernel_rfl) (fun _ _ _ h => h) (Or.inl ⟨by rfl, fun w' hS' => by obtain ⟨c0, c1, c2, c3, c4⟩ := HCX.out _ hS'; go_simp⟩) hS0 ?_
                    change wpAnyH _ _ _ _ _ _ _ (Act.put _ (some 34) (.agg #[.int .u64 x.sum, .int .i64 x.len])) _
                    simp only [Act.put, List.setIfInBounds_toArray, List.set_cons_zero, List.set_cons_succ]
                    refine wpAnyH_take (i := 2) (v := .pointer (some ⟨h, 2, none⟩)) rfl (by kernel_rfl) (by kernel_rfl) (by kernel_rfl) (fun _ _ _ h => h) (Or.inl ⟨by rfl, fun w' hS' => by go_simp⟩) hS0 ?_
                    change wpAnyH _ _ _ _ _ _ _ (Act.put _ (some 35) (.pointer (some ⟨h, 2, none⟩))) _
                    simp only [Act.put, List.setIfInBounds_toArray, List.set_cons_zero, List.set_cons_succ]
                    refine wpAnyH_take (i := 3) (v := .string x.left) rfl (by kernel_rfl) (by kernel_rfl) (by kernel_rfl) (fun _ _ _ h => h) (Or.inl ⟨by rfl, fun w' hS' => by obtain ⟨c0, c1, c2, c3, c4⟩ := HCX.out _ hS'; go_simp⟩) hS0 ?_
                    change wpAnyH _ _ _ _ _ _ _ (Act.put _ (some 36) (.string x.left)) _
                    simp only [Act.put, List.setIfInBounds_toArray, List.set_cons_zero, List.set_cons_succ]
                    refine wpAnyH_take (i := 4) (v := .pointer (some ⟨h, 3, none⟩)) rfl (by kernel_rfl) (by kernel_rfl) (by kernel_rfl) (fun _ _ _ h => h) (Or.inl ⟨by rfl, fun w' hS' => by go_simp⟩) hS0 ?_
                    change wpAnyH _ _ _ _ _ _ _ (Act.put _ (some 37) (.pointer (some ⟨h, 3, none⟩))) _
                    simp only [Act.put, List.setIfInBounds_toArray, List.set_cons_zero, List.set_cons_succ]
                    refine wpAnyH_take (i := 5) (v := .string x.right) rfl (by kernel_rfl) (by kernel_rfl) (by kernel_rfl) (fun _ _ _ h => h) (Or.inl ⟨by rfl, fun w' hS' => by obtain ⟨c0, c1, c2, c3, c4⟩ := HCX.out _ hS'; go_simp⟩) hS0 ?_
                    change wpAnyH _ _ _ _ _ _ _ (Act.put _ (some 38) (.string x.right)) _
                    simp only [Act.put, List.setIfInBounds_toArray, List.set_cons_zero, List.set_cons_succ]
                    refine wpAnyH_take (i := 6) (v := .pointer (some ⟨g, 0, none⟩)) rfl (by kernel_rfl) (by kernel_rfl) (by kernel_rfl) (fun _ _ _ h => h) (Or.inl ⟨by rfl, fun w' hS' => by go_simp⟩) hS0 ?_
                    change wpAnyH _ _ _ _ _ _ _ (Act.put _ (some 39) (.pointer (some ⟨g, 0, none⟩))) _
                    simp only [Act.put, List.setIfInBounds_toArray, List.set_cons_zero, List.set_cons_succ]
                    refine wpAnyH_take (i := 7) (v := .int .i64 c.width) rfl (by kernel_rfl) (by kernel_rfl) (by kernel_rfl) (fun _ _ _ h => h) (Or.inl ⟨by rfl, fun w' hS' => by obtain ⟨y0, y1, y2, y3, y4, y5, y6⟩ := HCB.out _ hS'; go_simp⟩) hS0 ?_
                    change wpAnyH _ _ _ _ _ _ _ (Act.put _ (some 40) (.int .i64 c.width)) _
                    simp only [Act.put, List.setIfInBounds_toArray, List.set_cons_zero, List.set_cons_succ]
                    refine wpAnyH_ready (rs := [8]) (by kernel_rfl) (by simp) (AllReadyH.cons rfl (fun K hK => ?_) (AllReadyH.nil))
                    · skip
                      go_simp
                      refine (both_v x.left x.right c.width _ p q HPQ.out HFX.out.1 HFX.out.2.1).mono ?_
                      rintro e W1 ⟨rfl, hb3⟩
                      refine hK.out _ _ (hS0.trans (hb3.mono hS0.size)) (fun hS2 => ?_)
                      clear hK K
                      simp only [List.setIfInBounds_toArray, List.set_cons_zero, List.set_cons_succ]
                      refine wpAnyH_take (i := 9) (v := .bool false) rfl (by kernel_rfl) (by kernel_rfl) (by kernel_rfl) (fun _ _ _ h => h) (Or.inl ⟨by rfl, fun w' hS' => by go_simp⟩) hS2 ?_
                      change wpAnyH _ _ _ _ _ _ _ (Act.put _ (some 42) (.bool false)) _
                      simp only [Act.put, List.setIfInBounds_toArray, List.set_cons_zero, List.set_cons_succ]
                      refine wpAnyH_take (i := 10) (v := .bool false) rfl (by kernel_rfl) (by kernel_rfl) (by kernel_rfl) (fun _ _ _ h => h) (Or.inl ⟨by rfl, fun w' hS' => by exact op_move rfl rfl⟩) hS2 ?_
                      change wpAnyH _ _ _ _ _ _ _ (Act.put _ (some 43) (.bool false)) _
                      simp only [Act.put, List.setIfInBounds_toArray, List.set_cons_zero, List.set_cons_succ]
                      refine wpAnyH_take (i := 11) (v := .agg #[.int .i64 c.width, .int .i64 c.room, .slice (some a) c.parts.length cap, .int .i64 c.hits, .int .i64 c.misses, .int .i64 c.clashes, .int .i64 c.evicted]) rfl (by kernel_rfl) (by kernel_rfl) (by kernel_rfl) (fun _ _ _ h => h) (Or.inl ⟨by rfl, fun w' hS' => by obtain ⟨y0, y1, y2, y3, y4, y5, y6⟩ := HCB.out _ hS'; go_simp⟩) hS2 ?_
                      change wpAnyH _ _ _ _ _ _ _ (Act.put _ (some 44) (.agg #[.int .i64 c.width, .int .i64 c.room, .slice (some a) c.parts.length cap, .int .i64 c.hits, .int .i64 c.misses, .int .i64 c.clashes, .int .i64 c.evicted])) _
                      simp only [Act.put, List.setIfInBounds_toArray, List.set_cons_zero, List.set_cons_succ]
                      refine wpAnyH_take (i := 12) (v := .pointer (some ⟨h, 0, none⟩)) rfl (by kernel_rfl) (by kernel_rfl) (by kernel_rfl) (fun _ _ _ h => h) (Or.inl ⟨by rfl, fun w' hS' => by go_simp⟩) hS2 ?_
                      change wpAnyH _ _ _ _ _ _ _ (Act.put _ (some 45) (.pointer (some ⟨h, 0, none⟩))) _
                      simp only [Act.put, List.setIfInBounds_toArray, List.set_cons_zero, List.set_cons_succ]
                      refine wpAnyH_take (i := 13) (v := .agg #[.int .u64 x.sum, .int .i64 x.len]) rfl (by kernel_rfl) (by kernel_rfl) (by kernel_rfl) (fun _ _ _ h => h) (Or.inl ⟨by rfl, fun w' hS' => by obtain ⟨c0, c1, c2, c3, c4⟩ := HCX.out _ hS'; go_simp⟩) hS2 ?_
                      change wpAnyH _ _ _ _ _ _ _ (Act.put _ (some 46) (.agg #[.int .u64 x.sum, .int .i64 x.len])) _
                      simp only [Act.put, List.setIfInBounds_toArray, List.set_cons_zero, List.set_cons_succ]
                      refine wpAnyH_take (i := 15) (v := .int .i64 (i : Int)) rfl (by kernel_rfl) (by kernel_rfl) (by kernel_rfl) (fun _ _ _ h => h) (Or.inl ⟨by rfl, fun w' hS' => by exact op_move rfl rfl⟩) hS2 ?_
                      change wpAnyH _ _ _ _ _ _ _ (Act.put _ (some 48) (.int .i64 (i : Int))) _
                      simp only [Act.put, List.setIfInBounds_toArray, List.set_cons_zero, List.set_cons_succ]
                      refine wpAnyH_ready (rs := [14]) (by kernel_rfl) (by simp) (AllReadyH.cons rfl (fun K hK => ?_) (AllReadyH.nil))
                      · skip
                        go_simp
                        refine (partOf_any c.width c.room c.hits c.misses c.clashes c.evicted (some a) c.parts.length cap x.sum x.len _ n1 (by omega) HFX.out.2.2).mono ?_
                        rintro e W4 ⟨rfl, hb6⟩
                        refine hK.out _ _ (hS2.trans (hb6.mono hS2.size)) (fun hS5 => ?_)
                        clear hK K
                        simp only [List.setIfInBounds_toArray, List.set_cons_zero, List.set_cons_succ]
                        refine wpAnyH_take (i := 16) (v := .bool false) rfl (by kernel_rfl) (by kernel_rfl) (by kernel_rfl) (fun _ _ _ h => h) (Or.inl ⟨by rfl, fun w' hS' => by go_simp⟩) hS5 ?_
                        change wpAnyH _ _ _ _ _ _ _ (Act.put _ (some 49) (.bool false)) _
                        simp only [Act.put, List.setIfInBounds_toArray, List.set_cons_zero, List.set_cons_succ]
                        refine wpAnyH_take (i := 17) (v := .bool false) rfl (by kernel_rfl) (by kernel_rfl) (by kernel_rfl) (fun _ _ _ h => h) (Or.inl ⟨by rfl, fun w' hS' => by go_simp⟩) hS5 ?_
                        change wpAnyH _ _ _ _ _ _ _ (Act.put _ (some 50) (.bool false)) _
                        simp only [Act.put, List.setIfInBounds_toArray, List.set_cons_zero, List.set_cons_succ]
                        refine wpAnyH_done (by kernel_rfl) ?_ _
                        refine NoPanic.normal ?_
                        have HS : Hid (Below w1.heap.size w1 _) := Lib.hid (HB6.out.trans (hS5.mono HB6.out.size))
                        go_wp2_with fail
                        go_roundg (L.length - (k + 1))
                        case rel => exact ⟨k + 1, by omega, by go_num, Lib.hid (HK.out.step HX.out HOK.out), HS⟩
                        case measure => omega
            · obtain rfl : k = L.length := by omega
              go_wp2_with fail
              go_roundg (c.parts.length - (i + 1))
              case rel => exact ⟨i + 1, by omega, by go_num, by go_num, Lib.hid (parts_step HP.out HL.out HAB.out HLR.out HK.out), HB5⟩
              case measure => omega
      · have hld : decide (roomN c.parts.length c.room i < L.length) = true := decide_eq_true (by omega)
        have HBAD := Lib.hid (fit_bad g1 (parts_bad HL.out (by unfold partB; rw [decide_eq_false hl]; simp)))
        clear hl
        go_wp2_with fail
        go_ret
        exact ⟨i, rfl, HBAD.out, HW1.out.trans (HB4.out.mono HW1.out.size)⟩
    · obtain rfl : i = c.parts.length := by omega
      go_wp2_with fail
      go_ret
      exact ⟨c.parts.length, rfl, by rw [HP.out]; exact beq_self_eq_true _, HW1.out.trans (HB.out.mono HW1.out.size)⟩

end Go.Proofs.Ytjifmfgfmciaeaa
