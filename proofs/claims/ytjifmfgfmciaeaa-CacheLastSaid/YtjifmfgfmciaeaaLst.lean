/-
  collatorlaw14.CacheLast returns true: Get tells nothing, or what was put last for just these two texts, whatever the width; there are never more slots than room. Nothing that was there is changed.
-/
import Derived.Test.YtjifmfgfmciaeaaLw
import Derived.Deep.CutBlock
import Derived.Test.YtjifmfgfmciaeaaOpn
namespace Go.Proofs.Ytjifmfgfmciaeaa
open Go.RowKit

/-- what was put last, of each two texts -/
structure Lst (c : Ca) (T : Nat → Nat → ByteArray) : Prop where
  said : ∀ a b : Nat, a < 6 → b < 6 → ∀ x, c.at_ (textOf (a : Int)) (textOf (b : Int)) = some x → x.left = textOf (a : Int) → x.right = textOf (b : Int) → x.val = T a b ∧ x.val ≠ ⟨#[]⟩
theorem text_inj {a b : Nat} (ha : a < 6) (hb : b < 6) (h : textOf (a : Int) = textOf (b : Int)) : a = b := by
  have : ∀ i j : Fin 6, textOf ((i.val : Nat) : Int) = textOf ((j.val : Nat) : Int) → i = j := by decide +kernel
  have := this ⟨a, ha⟩ ⟨b, hb⟩ h
  exact congrArg Fin.val this
def setT (T : Nat → Nat → ByteArray) (a b : Nat) (v : ByteArray) : Nat → Nat → ByteArray := fun i j => if i = a ∧ j = b then v else T i j
theorem Lst.get {c : Ca} {T : Nat → Nat → ByteArray} (h : Lst c T) (hr : RightC c) (l r : ByteArray) : Lst (getC c l r).2.1 T := ⟨fun a b ha hb x hx => by
  rw [at_got hr] at hx
  exact h.said a b ha hb x hx⟩
theorem Lst.put {c : Ca} {T : Nat → Nat → ByteArray} (h : Lst c T) (hr : RightC c) {a b : Nat} (ha : a < 6) (hb : b < 6) {v : ByteArray} (hv : v ≠ ⟨#[]⟩) : Lst (putC c (textOf (a : Int)) (textOf (b : Int)) v).1 (setT T a b v) := ⟨fun i j hi hj x hx h1 h2 => by
  by_cases hk : c.key (textOf (i : Int)) (textOf (j : Int)) = c.key (textOf (a : Int)) (textOf (b : Int))
  · rw [at_put_same hr _ _ _ _ _ hk] at hx
    split at hx
    · injection hx with hx
      subst hx
      have e1 : a = i := text_inj ha hi h1
      have e2 : b = j := text_inj hb hj h2
      subst e1 e2
      unfold setT
      rw [if_pos ⟨rfl, rfl⟩]
      exact ⟨rfl, hv⟩
    · cases hx
  · have hne : ¬ (i = a ∧ j = b) := fun e => hk (by rw [e.1, e.2])
    unfold setT
    rw [if_neg hne]
    rcases at_put_other hr (textOf (a : Int)) (textOf (b : Int)) v _ _ hk with e | e
    · rw [e] at hx
      exact h.said i j hi hj x hx h1 h2
    · rw [e] at hx
      cases hx⟩
theorem Lst.got {c : Ca} {T : Nat → Nat → ByteArray} (h : Lst c T) (hr : RightC c) {a b : Nat} (ha : a < 6) (hb : b < 6) {s : ByteArray} {d : Ca} {e : Int} (hm : getC c (textOf (a : Int)) (textOf (b : Int)) = (s, d, e)) : (e = 0 ∧ T a b = s ∧ s ≠ ⟨#[]⟩) ∨ (e = 10 ∧ s = ⟨#[]⟩) := by
  rcases get_cases hr hm with ⟨_, rfl, _, rfl⟩ | ⟨x, _, _, rfl, _, rfl⟩ | ⟨x, h1, h2, h3, rfl, _, rfl⟩
  · exact .inr ⟨rfl, rfl⟩
  · exact .inr ⟨rfl, rfl⟩
  · obtain ⟨e1, e2⟩ := h.said a b ha hb x h1 h2 h3
    exact .inl ⟨rfl, e1.symm, e2⟩
theorem get_room (c : Ca) (l r : ByteArray) (h : RightC c) : (getC c l r).2.1.room = c.room := by
  have hw := get_way h l r
  generalize getC c l r = g at hw
  cases hw <;> rfl
theorem put_room (c : Ca) (l r v : ByteArray) (h : RightC c) : (putC c l r v).1.room = c.room := by rw [put_eq h]
theorem Lst.new {p r w : Int} (h : fitsB p r w = true) (T : Nat → Nat → ByteArray) : Lst (newC p r w).1 T := ⟨fun a b _ _ x hx => by
  exfalso
  have hp : (newC p r w).1.parts = List.replicate p.toNat [] := by unfold newC; rw [if_pos h]
  unfold Ca.at_ Ca.part at hx
  rw [hp, List.getElem?_replicate] at hx
  split at hx <;> cases hx⟩
theorem new_room {p r w : Int} (h : fitsB p r w = true) : (newC p r w).1.room = r := by unfold newC; rw [if_pos h]
/-- what was put last, in its cells -/
def LastAt (ls : Array Value) (T : Nat → Nat → ByteArray) : Prop := ls.size = 36 ∧ ∀ a b : Nat, a < 6 → b < 6 → ls[a * 6 + b]? = some (.string (T a b))
theorem LastAt.set_ {ls : Array Value} {T : Nat → Nat → ByteArray} (h : LastAt ls T) {a b : Nat} (ha : a < 6) (hb : b < 6) (v : ByteArray) : LastAt (ls.setIfInBounds (a * 6 + b) (.string v)) (setT T a b v) := by
  refine ⟨by rw [Array.size_setIfInBounds]; exact h.1, fun i j hi hj => ?_⟩
  unfold setT
  by_cases e : i = a ∧ j = b
  · obtain ⟨rfl, rfl⟩ := e
    rw [if_pos ⟨rfl, rfl⟩]
    exact Array.getElem?_setIfInBounds_self_of_lt (by rw [h.1]; omega)
  · rw [if_neg e, Array.getElem?_setIfInBounds_ne (by omega)]
    exact h.2 i j hi hj
def last0 : Array Value := #[.string ⟨#[]⟩, .string ⟨#[]⟩, .string ⟨#[]⟩, .string ⟨#[]⟩, .string ⟨#[]⟩, .string ⟨#[]⟩, .string ⟨#[]⟩, .string ⟨#[]⟩, .string ⟨#[]⟩, .string ⟨#[]⟩, .string ⟨#[]⟩, .string ⟨#[]⟩, .string ⟨#[]⟩, .string ⟨#[]⟩, .string ⟨#[]⟩, .string ⟨#[]⟩, .string ⟨#[]⟩, .string ⟨#[]⟩, .string ⟨#[]⟩, .string ⟨#[]⟩, .string ⟨#[]⟩, .string ⟨#[]⟩, .string ⟨#[]⟩, .string ⟨#[]⟩, .string ⟨#[]⟩, .string ⟨#[]⟩, .string ⟨#[]⟩, .string ⟨#[]⟩, .string ⟨#[]⟩, .string ⟨#[]⟩, .string ⟨#[]⟩, .string ⟨#[]⟩, .string ⟨#[]⟩, .string ⟨#[]⟩, .string ⟨#[]⟩, .string ⟨#[]⟩]
theorem last0_at : LastAt last0 (fun _ _ => ⟨#[]⟩) := by
  refine ⟨rfl, fun a b ha hb => ?_⟩
  have : ∀ i : Fin 36, last0[i.val]? = some (.string ⟨#[]⟩) := fun i => by
    obtain ⟨i, hi⟩ := i
    have : last0 = (List.replicate 36 (Value.string ⟨#[]⟩)).toArray := rfl
    rw [this, List.getElem?_toArray, List.getElem?_replicate, if_pos hi]
  exact this ⟨a * 6 + b, by omega⟩
/-- a new cache, in its places -/
def NewCut (w4 : World) (d : Ca) (b : Int) (vb ve : Value) (wx : World) : Prop :=
  ∃ (g : Nat) (A : Option Addr) (n cap : Nat), vb = .pointer (some ⟨g, 0, none⟩) ∧ ve = .int .i64 b ∧ Blk wx g 28 #[.int .i64 d.width, .int .i64 d.room, .slice A n cap, .int .i64 d.hits, .int .i64 d.misses, .int .i64 d.clashes, .int .i64 d.evicted] ∧ PartsAt (fun b => b < w4.heap.size ∨ b = g) wx A d.parts ∧ d.parts.length = n ∧ n ≤ cap ∧ Below w4.heap.size w4 wx ∧ w4.heap.size ≤ g
theorem hIup {w2 w w' : World} {g0 gl : Nat} {c : Ca} {ls : Array Value} (h : Below w2.heap.size w2 w ∧ Boxed (fun b => b = g0 ∨ b = gl) w g0 c ∧ Blk w gl 47 ls) (hb : Below w.heap.size w w') : Below w2.heap.size w2 w' ∧ Boxed (fun b => b = g0 ∨ b = gl) w' g0 c ∧ Blk w' gl 47 ls :=
  ⟨below_step h.1 hb, h.2.1.up hb, Blk.below h.2.2 hb h.2.2.lt⟩

set_option maxHeartbeats 8000000 in
set_option maxRecDepth 100000 in
theorem last_any (z0 z1 z2 : Int) (A1 A2 : Option Addr) (deeds : List Tri) (puts : List Bool) (dn dc pn pc : Nat) (w : World) (hz : TriFit (z0, z1, z2)) (ha1 : TrisAt w A1 deeds) (hn1 : deeds.length = dn) (hl1 : dn ≤ 9223372036854775807) (hf1 : ∀ z ∈ deeds, TriFit z) (ha2 : BoolsAt w A2 puts) (hn2 : puts.length = pn) (hl2 : pn ≤ 9223372036854775807) :
    Calls Try.prog 4 #[.agg #[.int .i64 z0, .int .i64 z1, .int .i64 z2], .slice A1 dn dc, .slice A2 pn pc] w fun e w' => e = .returned (.bool true) ∧ Below w.heap.size w w' := by
  subst hn1 hn2
  have HA1 := Lib.hid ha1
  have HA2 := Lib.hid ha2
  have HF1 := Lib.hid hf1
  have HZ : Hid (I64 z0 ∧ I64 z1 ∧ I64 z2) := Lib.hid hz
  obtain ⟨q0, hq0⟩ : ∃ q, pickI z0 4 = q := ⟨_, rfl⟩
  obtain ⟨q1, hq1⟩ : ∃ q, pickI z1 9 = q := ⟨_, rfl⟩
  obtain ⟨q2, hq2⟩ : ∃ q, pickI z2 65 = q := ⟨_, rfl⟩
  have a0 := pickI_range z0 4 (by omega)
  have a1 := pickI_range z1 9 (by omega)
  have a2 := pickI_range z2 65 (by omega)
  rw [hq0] at a0
  rw [hq1] at a1
  rw [hq2] at a2
  have hfits : fitsB (1 + q0) q1 q2 = true := decide_eq_true ⟨by omega, by omega, by omega, by omega, by omega, by omega⟩
  obtain ⟨c0, ec⟩ : ∃ c, (newC (1 + q0) q1 q2).1 = c := ⟨_, rfl⟩
  have HC0 : Hid (newC (1 + q0) q1 q2 = (c0, 0)) := Lib.hid (by rw [← ec]; unfold newC; rw [if_pos hfits])
  have HGC0 : Hid (Good c0 0 ∧ c0.room = q1 ∧ Lst c0 (fun _ _ => ⟨#[]⟩)) := Lib.hid (by rw [← ec]; exact ⟨Good.new hfits, new_room hfits, Lst.new hfits _⟩)
  have hw1 : IntKind.i64.wrap (1 + q0) = 1 + q0 := IntWalk.i64_in _ (by omega)
  have HQ0 := Lib.hid hq0
  have HQ1 := Lib.hid hq1
  have HQ2 := Lib.hid hq2
  clear ha1 ha2 hf1 hz hq0 hq1 hq2 ec hfits
  go_enter Try.func4, Try.ntmps4
  go_wp2_with fail
  have hb0 := Blk.new w 22 #[.int .i64 z0, .int .i64 z1, .int .i64 z2]
  have hw0 : Below w.heap.size w (w.alloc (.cells #[.int .i64 z0, .int .i64 z1, .int .i64 z2] 22)) := (Below.refl _ _).alloc (Nat.le_refl _) _
  obtain ⟨w1, hwe⟩ : ∃ w1, w1 = w.alloc (.cells #[.int .i64 z0, .int .i64 z1, .int .i64 z2] 22) := ⟨_, rfl⟩
  obtain ⟨gn, hg⟩ : ∃ g, g = w.heap.size := ⟨_, rfl⟩
  rw [← hwe] at hb0 hw0 ⊢
  rw [← hg] at hb0 ⊢
  have HX1 := Lib.hid hb0
  have HW1 := Lib.hid hw0
  clear hb0 hw0 hwe hg
  refine (awake_any cache_ok _).mono ?_
  rintro e w2 ⟨rfl, hb⟩
  have HW2 := Lib.hid (below_step HW1.out hb)
  have HX2 := Lib.hid (Blk.below HX1.out hb HX1.out.lt)
  have HCN : Hid (∀ W, Below w2.heap.size w2 W → W.cell? ⟨gn, 0, none⟩ = some (.int .i64 z0) ∧ W.cell? ⟨gn, 1, none⟩ = some (.int .i64 z1) ∧ W.cell? ⟨gn, 2, none⟩ = some (.int .i64 z2)) :=
    Lib.hid fun W hW => ⟨(Blk.below HX2.out hW HX2.out.lt).cell 0, (Blk.below HX2.out hW HX2.out.lt).cell 1, (Blk.below HX2.out hW HX2.out.lt).cell 2⟩
  clear hb
  go_wp2_with fail
  go_cut [8, 9] (fun s8 s9 wx => NewCut w2 c0 0 s8 s9 wx)
  case first =>
    refine wp_region_noPanic ?_
    refine wp_region_held_drew (S := fun W => Below w2.heap.size w2 W) (by kernel_rfl) ((Below.refl w2.heap.size w2).drew) (fun hS0 => ?_)
    change wpAnyH _ _ _ _ _ 17 #[false, false, false, false, false, false, false, false, false, false, false, false, false, false, false, false, false] _ (World.drew _)
    refine wpAnyH_take (i := 0) (v := .pointer (some ⟨gn, 0, none⟩)) rfl (by kernel_rfl) (by kernel_rfl) (by kernel_rfl) (fun _ _ _ h => h) (Or.inl ⟨by rfl, fun w' hS' => by go_simp⟩) hS0 ?_
    change wpAnyH _ _ _ _ _ _ _ (Act.put _ (some 22) (.pointer (some ⟨gn, 0, none⟩))) _
    simp only [Act.put, List.setIfInBounds_toArray, List.set_cons_zero, List.set_cons_succ]
    refine wpAnyH_take (i := 1) (v := .int .i64 z0) rfl (by kernel_rfl) (by kernel_rfl) (by kernel_rfl) (fun _ _ _ h => h) (Or.inl ⟨by rfl, fun w' hS' => by obtain ⟨k0, k1, k2⟩ := HCN.out _ hS'; go_simp⟩) hS0 ?_
    change wpAnyH _ _ _ _ _ _ _ (Act.put _ (some 23) (.int .i64 z0)) _
    simp only [Act.put, List.setIfInBounds_toArray, List.set_cons_zero, List.set_cons_succ]
    refine wpAnyH_take (i := 4) (v := .pointer (some ⟨gn, 1, none⟩)) rfl (by kernel_rfl) (by kernel_rfl) (by kernel_rfl) (fun _ _ _ h => h) (Or.inl ⟨by rfl, fun w' hS' => by go_simp⟩) hS0 ?_
    change wpAnyH _ _ _ _ _ _ _ (Act.put _ (some 26) (.pointer (some ⟨gn, 1, none⟩))) _
    simp only [Act.put, List.setIfInBounds_toArray, List.set_cons_zero, List.set_cons_succ]
    refine wpAnyH_take (i := 5) (v := .int .i64 z1) rfl (by kernel_rfl) (by kernel_rfl) (by kernel_rfl) (fun _ _ _ h => h) (Or.inl ⟨by rfl, fun w' hS' => by obtain ⟨k0, k1, k2⟩ := HCN.out _ hS'; go_simp⟩) hS0 ?_
    change wpAnyH _ _ _ _ _ _ _ (Act.put _ (some 27) (.int .i64 z1)) _
    simp only [Act.put, List.setIfInBounds_toArray, List.set_cons_zero, List.set_cons_succ]
    refine wpAnyH_take (i := 7) (v := .pointer (some ⟨gn, 2, none⟩)) rfl (by kernel_rfl) (by kernel_rfl) (by kernel_rfl) (fun _ _ _ h => h) (Or.inl ⟨by rfl, fun w' hS' => by go_simp⟩) hS0 ?_
    change wpAnyH _ _ _ _ _ _ _ (Act.put _ (some 29) (.pointer (some ⟨gn, 2, none⟩))) _
    simp only [Act.put, List.setIfInBounds_toArray, List.set_cons_zero, List.set_cons_succ]
    refine wpAnyH_take (i := 8) (v := .int .i64 z2) rfl (by kernel_rfl) (by kernel_rfl) (by kernel_rfl) (fun _ _ _ h => h) (Or.inl ⟨by rfl, fun w' hS' => by obtain ⟨k0, k1, k2⟩ := HCN.out _ hS'; go_simp⟩) hS0 ?_
    change wpAnyH _ _ _ _ _ _ _ (Act.put _ (some 30) (.int .i64 z2)) _
    simp only [Act.put, List.setIfInBounds_toArray, List.set_cons_zero, List.set_cons_succ]
    refine wpAnyH_ready (rs := [2, 14]) (by kernel_rfl) (by simp) (AllReadyH.cons rfl (fun K hK => ?_) (AllReadyH.cons rfl (fun K hK => ?_) (AllReadyH.nil)))
    · skip
      go_simp
      refine (pick_v z0 4 q0 HQ0.out _ HZ.out.1 (by omega) (by omega)).mono ?_
      rintro e w2 ⟨rfl, rfl⟩
      refine hK.out _ _ hS0 (fun hS1 => ?_)
      clear hK K
      simp only [List.setIfInBounds_toArray, List.set_cons_zero, List.set_cons_succ]
      refine wpAnyH_take (i := 3) (v := .int .i64 (1 + q0)) rfl (by kernel_rfl) (by kernel_rfl) (by kernel_rfl) (fun _ _ _ h => h) (Or.inl ⟨by rfl, fun w' hS' => by go_simp⟩) hS1 ?_
      change wpAnyH _ _ _ _ _ _ _ (Act.put _ (some 25) (.int .i64 (1 + q0))) _
      simp only [Act.put, List.setIfInBounds_toArray, List.set_cons_zero, List.set_cons_succ]
      refine wpAnyH_ready (rs := [6, 14]) (by kernel_rfl) (by simp) (AllReadyH.cons rfl (fun K hK => ?_) (AllReadyH.cons rfl (fun K hK => ?_) (AllReadyH.nil)))
      · skip
        go_simp
        refine (pick_v z1 9 q1 HQ1.out _ HZ.out.2.1 (by omega) (by omega)).mono ?_
        rintro e w4 ⟨rfl, rfl⟩
        refine hK.out _ _ hS1 (fun hS3 => ?_)
        clear hK K
        simp only [List.setIfInBounds_toArray, List.set_cons_zero, List.set_cons_succ]
        refine wpAnyH_ready (rs := [9, 14]) (by kernel_rfl) (by simp) (AllReadyH.cons rfl (fun K hK => ?_) (AllReadyH.cons rfl (fun K hK => ?_) (AllReadyH.nil)))
        · skip
          go_simp
          refine (pick_v z2 65 q2 HQ2.out _ HZ.out.2.2 (by omega) (by omega)).mono ?_
          rintro e w6 ⟨rfl, rfl⟩
          refine hK.out _ _ hS3 (fun hS5 => ?_)
          clear hK K
          simp only [List.setIfInBounds_toArray, List.set_cons_zero, List.set_cons_succ]
          refine wpAnyH_ready (rs := [10, 14]) (by kernel_rfl) (by simp) (AllReadyH.cons rfl (fun K hK => ?_) (AllReadyH.cons rfl (fun K hK => ?_) (AllReadyH.nil)))
          · skip
            go_simp
            refine (new_new (1 + q0) q1 q2 _ c0 0 HC0.out).mono ?_
            rintro e W7 ⟨A10, n11, cp12, rfl, hn13, hp14, hb9, hc15⟩
            refine hK.out _ _ (hS5.trans (hb9.mono hS5.size)) (fun hS8 => ?_)
            clear hK K
            simp only [List.setIfInBounds_toArray, List.set_cons_zero, List.set_cons_succ]
            refine wpAnyH_take (i := 11) (v := .tuple #[.agg #[.int .i64 c0.width, .int .i64 c0.room, .slice A10 n11 cp12, .int .i64 c0.hits, .int .i64 c0.misses, .int .i64 c0.clashes, .int .i64 c0.evicted], .int .i64 0]) rfl (by kernel_rfl) (by kernel_rfl) (by kernel_rfl) (fun _ _ _ h => h) (Or.inl ⟨by rfl, fun w' hS' => by exact op_move rfl rfl⟩) hS8 ?_
            change wpAnyH _ _ _ _ _ _ _ (Act.put _ (some 21) (.tuple #[.agg #[.int .i64 c0.width, .int .i64 c0.room, .slice A10 n11 cp12, .int .i64 c0.hits, .int .i64 c0.misses, .int .i64 c0.clashes, .int .i64 c0.evicted], .int .i64 0])) _
            simp only [Act.put, List.setIfInBounds_toArray, List.set_cons_zero, List.set_cons_succ]
            refine wpAnyH_take (i := 12) (v := .agg #[.int .i64 c0.width, .int .i64 c0.room, .slice A10 n11 cp12, .int .i64 c0.hits, .int .i64 c0.misses, .int .i64 c0.clashes, .int .i64 c0.evicted]) rfl (by kernel_rfl) (by kernel_rfl) (by kernel_rfl) (fun _ _ _ h => h) (Or.inl ⟨by rfl, fun w' hS' => by go_simp⟩) hS8 ?_
            change wpAnyH _ _ _ _ _ _ _ (Act.put _ (some 33) (.agg #[.int .i64 c0.width, .int .i64 c0.room, .slice A10 n11 cp12, .int .i64 c0.hits, .int .i64 c0.misses, .int .i64 c0.clashes, .int .i64 c0.evicted])) _
            simp only [Act.put, List.setIfInBounds_toArray, List.set_cons_zero, List.set_cons_succ]
            refine wpAnyH_take (i := 13) (v := .int .i64 0) rfl (by kernel_rfl) (by kernel_rfl) (by kernel_rfl) (fun _ _ _ h => h) (Or.inl ⟨by rfl, fun w' hS' => by go_simp⟩) hS8 ?_
            change wpAnyH _ _ _ _ _ _ _ (Act.put _ (some 34) (.int .i64 0)) _
            simp only [Act.put, List.setIfInBounds_toArray, List.set_cons_zero, List.set_cons_succ]
            refine wpAnyH_ready (rs := [14]) (by kernel_rfl) (by simp) (AllReadyH.cons rfl (fun K hK => ?_) (AllReadyH.nil))
            · skip
              obtain ⟨gs17, W16, hr20, hk21, hb19, hg22⟩ := op_allocC W7
              refine step_op_run (hr20 _ _ rfl) rfl ?_
              refine hK.out _ _ (hS8.trans (hb19.mono hS8.size)) (fun hS18 => ?_)
              clear hK K
              change wpAnyH _ _ _ _ _ _ _ (Act.put _ (some 8) (.pointer (some ⟨gs17, 0, none⟩))) _
              simp only [Act.put, List.setIfInBounds_toArray, List.set_cons_zero, List.set_cons_succ]
              refine wpAnyH_ready (rs := [15]) (by kernel_rfl) (by simp) (AllReadyH.cons rfl (fun K hK => ?_) (AllReadyH.nil))
              · skip
                obtain ⟨W23, hr25, hk26, hgr27⟩ := op_store7 hk21 (c0.width) (c0.room) A10 n11 cp12 (c0.hits) (c0.misses) (c0.clashes) (c0.evicted)
                refine step_op_skip (hr25 _ _ _ _ rfl rfl rfl) rfl ?_
                refine hK.out _ _ (hS18.grown hgr27 hS18.size (fun b e => by injection e with e; rw [← e]; exact Nat.le_trans (hS8).size hg22)) (fun hS24 => ?_)
                clear hK K
                change wpAnyH _ _ _ _ _ _ _ (Act.put _ none (undef)) _
                simp only [Act.put]
                refine wpAnyH_take (i := 16) (v := .int .i64 0) rfl (by kernel_rfl) (by kernel_rfl) (by kernel_rfl) (fun _ _ _ h => h) (Or.inl ⟨by rfl, fun w' hS' => by exact op_assign rfl rfl⟩) hS24 ?_
                change wpAnyH _ _ _ _ _ _ _ (Act.put _ (some 9) (.int .i64 0)) _
                simp only [Act.put, List.setIfInBounds_toArray, List.set_cons_zero, List.set_cons_succ]
                refine wpAnyH_done (by kernel_rfl) ?_ _
                refine NoPanic.normal ?_
                go_wp2_with fail
                go_meet
                exact ⟨gs17, A10, n11, cp12, rfl, rfl, hk26, (((hp14.add hg22).up hb19).kept hgr27 (Or.inr rfl)).less (fun _ hb => hb.elim (fun h => .inl (Nat.lt_of_lt_of_le h (hS5).size)) .inr), hn13, hc15, hS24, Nat.le_trans (hS8).size hg22⟩
          · skip
            obtain ⟨gs29, W28, hr32, hk33, hb31, hg34⟩ := op_allocC w2.drew
            refine step_op_run (hr32 _ _ rfl) rfl ?_
            refine hK.out _ _ (hS5.trans (hb31.mono hS5.size)) (fun hS30 => ?_)
            clear hK K
            change wpAnyH _ _ _ _ _ _ _ (Act.put _ (some 8) (.pointer (some ⟨gs29, 0, none⟩))) _
            simp only [Act.put, List.setIfInBounds_toArray, List.set_cons_zero, List.set_cons_succ]
            refine wpAnyH_ready (rs := [10]) (by kernel_rfl) (by simp) (AllReadyH.cons rfl (fun K hK => ?_) (AllReadyH.nil))
            · skip
              go_simp
              refine (new_new (1 + q0) q1 q2 _ c0 0 HC0.out).mono ?_
              rintro e W35 ⟨A38, n39, cp40, rfl, hn41, hp42, hb37, hc43⟩
              refine hK.out _ _ (hS30.trans (hb37.mono hS30.size)) (fun hS36 => ?_)
              clear hK K
              simp only [List.setIfInBounds_toArray, List.set_cons_zero, List.set_cons_succ]
              refine wpAnyH_take (i := 11) (v := .tuple #[.agg #[.int .i64 c0.width, .int .i64 c0.room, .slice A38 n39 cp40, .int .i64 c0.hits, .int .i64 c0.misses, .int .i64 c0.clashes, .int .i64 c0.evicted], .int .i64 0]) rfl (by kernel_rfl) (by kernel_rfl) (by kernel_rfl) (fun _ _ _ h => h) (Or.inl ⟨by rfl, fun w' hS' => by exact op_move rfl rfl⟩) hS36 ?_
              change wpAnyH _ _ _ _ _ _ _ (Act.put _ (some 21) (.tuple #[.agg #[.int .i64 c0.width, .int .i64 c0.room, .slice A38 n39 cp40, .int .i64 c0.hits, .int .i64 c0.misses, .int .i64 c0.clashes, .int .i64 c0.evicted], .int .i64 0])) _
              simp only [Act.put, List.setIfInBounds_toArray, List.set_cons_zero, List.set_cons_succ]
              refine wpAnyH_take (i := 12) (v := .agg #[.int .i64 c0.width, .int .i64 c0.room, .slice A38 n39 cp40, .int .i64 c0.hits, .int .i64 c0.misses, .int .i64 c0.clashes, .int .i64 c0.evicted]) rfl (by kernel_rfl) (by kernel_rfl) (by kernel_rfl) (fun _ _ _ h => h) (Or.inl ⟨by rfl, fun w' hS' => by go_simp⟩) hS36 ?_
              change wpAnyH _ _ _ _ _ _ _ (Act.put _ (some 33) (.agg #[.int .i64 c0.width, .int .i64 c0.room, .slice A38 n39 cp40, .int .i64 c0.hits, .int .i64 c0.misses, .int .i64 c0.clashes, .int .i64 c0.evicted])) _
              simp only [Act.put, List.setIfInBounds_toArray, List.set_cons_zero, List.set_cons_succ]
              refine wpAnyH_take (i := 13) (v := .int .i64 0) rfl (by kernel_rfl) (by kernel_rfl) (by kernel_rfl) (fun _ _ _ h => h) (Or.inl ⟨by rfl, fun w' hS' => by go_simp⟩) hS36 ?_
              change wpAnyH _ _ _ _ _ _ _ (Act.put _ (some 34) (.int .i64 0)) _
              simp only [Act.put, List.setIfInBounds_toArray, List.set_cons_zero, List.set_cons_succ]
              refine wpAnyH_ready (rs := [15]) (by kernel_rfl) (by simp) (AllReadyH.cons rfl (fun K hK => ?_) (AllReadyH.nil))
              · skip
                obtain ⟨W44, hr46, hk47, hgr48⟩ := op_store7 (Blk.below hk33 hb37 hk33.lt) (c0.width) (c0.room) A38 n39 cp40 (c0.hits) (c0.misses) (c0.clashes) (c0.evicted)
                refine step_op_skip (hr46 _ _ _ _ rfl rfl rfl) rfl ?_
                refine hK.out _ _ (hS36.grown hgr48 hS36.size (fun b e => by injection e with e; rw [← e]; exact Nat.le_trans (hS5).size hg34)) (fun hS45 => ?_)
                clear hK K
                change wpAnyH _ _ _ _ _ _ _ (Act.put _ none (undef)) _
                simp only [Act.put]
                refine wpAnyH_take (i := 16) (v := .int .i64 0) rfl (by kernel_rfl) (by kernel_rfl) (by kernel_rfl) (fun _ _ _ h => h) (Or.inl ⟨by rfl, fun w' hS' => by exact op_assign rfl rfl⟩) hS45 ?_
                change wpAnyH _ _ _ _ _ _ _ (Act.put _ (some 9) (.int .i64 0)) _
                simp only [Act.put, List.setIfInBounds_toArray, List.set_cons_zero, List.set_cons_succ]
                refine wpAnyH_done (by kernel_rfl) ?_ _
                refine NoPanic.normal ?_
                go_wp2_with fail
                go_meet
                exact ⟨gs29, A38, n39, cp40, rfl, rfl, hk47, (hp42.kept hgr48 ((hk33).lt)).less (fun _ hb => hb.elim (fun h => Nat.lt_of_lt_of_le h (hS30).size) (fun h => by rw [h]; exact (hk33).lt)), hn41, hc43, hS45, Nat.le_trans (hS5).size hg34⟩
        · skip
          obtain ⟨gs50, W49, hr53, hk54, hb52, hg55⟩ := op_allocC w2.drew
          refine step_op_run (hr53 _ _ rfl) rfl ?_
          refine hK.out _ _ (hS3.trans (hb52.mono hS3.size)) (fun hS51 => ?_)
          clear hK K
          change wpAnyH _ _ _ _ _ _ _ (Act.put _ (some 8) (.pointer (some ⟨gs50, 0, none⟩))) _
          simp only [Act.put, List.setIfInBounds_toArray, List.set_cons_zero, List.set_cons_succ]
          refine wpAnyH_ready (rs := [9]) (by kernel_rfl) (by simp) (AllReadyH.cons rfl (fun K hK => ?_) (AllReadyH.nil))
          · skip
            go_simp
            refine (pick_v z2 65 q2 HQ2.out _ HZ.out.2.2 (by omega) (by omega)).mono ?_
            rintro e w57 ⟨rfl, rfl⟩
            refine hK.out _ _ hS51 (fun hS56 => ?_)
            clear hK K
            simp only [List.setIfInBounds_toArray, List.set_cons_zero, List.set_cons_succ]
            refine wpAnyH_ready (rs := [10]) (by kernel_rfl) (by simp) (AllReadyH.cons rfl (fun K hK => ?_) (AllReadyH.nil))
            · skip
              go_simp
              refine (new_new (1 + q0) q1 q2 _ c0 0 HC0.out).mono ?_
              rintro e W58 ⟨A61, n62, cp63, rfl, hn64, hp65, hb60, hc66⟩
              refine hK.out _ _ (hS56.trans (hb60.mono hS56.size)) (fun hS59 => ?_)
              clear hK K
              simp only [List.setIfInBounds_toArray, List.set_cons_zero, List.set_cons_succ]
              refine wpAnyH_take (i := 11) (v := .tuple #[.agg #[.int .i64 c0.width, .int .i64 c0.room, .slice A61 n62 cp63, .int .i64 c0.hits, .int .i64 c0.misses, .int .i64 c0.clashes, .int .i64 c0.evicted], .int .i64 0]) rfl (by kernel_rfl) (by kernel_rfl) (by kernel_rfl) (fun _ _ _ h => h) (Or.inl ⟨by rfl, fun w' hS' => by exact op_move rfl rfl⟩) hS59 ?_
              change wpAnyH _ _ _ _ _ _ _ (Act.put _ (some 21) (.tuple #[.agg #[.int .i64 c0.width, .int .i64 c0.room, .slice A61 n62 cp63, .int .i64 c0.hits, .int .i64 c0.misses, .int .i64 c0.clashes, .int .i64 c0.evicted], .int .i64 0])) _
              simp only [Act.put, List.setIfInBounds_toArray, List.set_cons_zero, List.set_cons_succ]
              refine wpAnyH_take (i := 12) (v := .agg #[.int .i64 c0.width, .int .i64 c0.room, .slice A61 n62 cp63, .int .i64 c0.hits, .int .i64 c0.misses, .int .i64 c0.clashes, .int .i64 c0.evicted]) rfl (by kernel_rfl) (by kernel_rfl) (by kernel_rfl) (fun _ _ _ h => h) (Or.inl ⟨by rfl, fun w' hS' => by go_simp⟩) hS59 ?_
              change wpAnyH _ _ _ _ _ _ _ (Act.put _ (some 33) (.agg #[.int .i64 c0.width, .int .i64 c0.room, .slice A61 n62 cp63, .int .i64 c0.hits, .int .i64 c0.misses, .int .i64 c0.clashes, .int .i64 c0.evicted])) _
              simp only [Act.put, List.setIfInBounds_toArray, List.set_cons_zero, List.set_cons_succ]
              refine wpAnyH_take (i := 13) (v := .int .i64 0) rfl (by kernel_rfl) (by kernel_rfl) (by kernel_rfl) (fun _ _ _ h => h) (Or.inl ⟨by rfl, fun w' hS' => by go_simp⟩) hS59 ?_
              change wpAnyH _ _ _ _ _ _ _ (Act.put _ (some 34) (.int .i64 0)) _
              simp only [Act.put, List.setIfInBounds_toArray, List.set_cons_zero, List.set_cons_succ]
              refine wpAnyH_ready (rs := [15]) (by kernel_rfl) (by simp) (AllReadyH.cons rfl (fun K hK => ?_) (AllReadyH.nil))
              · skip
                obtain ⟨W67, hr69, hk70, hgr71⟩ := op_store7 (Blk.below hk54 hb60 hk54.lt) (c0.width) (c0.room) A61 n62 cp63 (c0.hits) (c0.misses) (c0.clashes) (c0.evicted)
                refine step_op_skip (hr69 _ _ _ _ rfl rfl rfl) rfl ?_
                refine hK.out _ _ (hS59.grown hgr71 hS59.size (fun b e => by injection e with e; rw [← e]; exact Nat.le_trans (hS3).size hg55)) (fun hS68 => ?_)
                clear hK K
                change wpAnyH _ _ _ _ _ _ _ (Act.put _ none (undef)) _
                simp only [Act.put]
                refine wpAnyH_take (i := 16) (v := .int .i64 0) rfl (by kernel_rfl) (by kernel_rfl) (by kernel_rfl) (fun _ _ _ h => h) (Or.inl ⟨by rfl, fun w' hS' => by exact op_assign rfl rfl⟩) hS68 ?_
                change wpAnyH _ _ _ _ _ _ _ (Act.put _ (some 9) (.int .i64 0)) _
                simp only [Act.put, List.setIfInBounds_toArray, List.set_cons_zero, List.set_cons_succ]
                refine wpAnyH_done (by kernel_rfl) ?_ _
                refine NoPanic.normal ?_
                go_wp2_with fail
                go_meet
                exact ⟨gs50, A61, n62, cp63, rfl, rfl, hk70, (hp65.kept hgr71 ((hk54).lt)).less (fun _ hb => hb.elim (fun h => Nat.lt_of_lt_of_le h (hS56).size) (fun h => by rw [h]; exact (hk54).lt)), hn64, hc66, hS68, Nat.le_trans (hS3).size hg55⟩
      · skip
        obtain ⟨gs73, W72, hr76, hk77, hb75, hg78⟩ := op_allocC w2.drew
        refine step_op_run (hr76 _ _ rfl) rfl ?_
        refine hK.out _ _ (hS1.trans (hb75.mono hS1.size)) (fun hS74 => ?_)
        clear hK K
        change wpAnyH _ _ _ _ _ _ _ (Act.put _ (some 8) (.pointer (some ⟨gs73, 0, none⟩))) _
        simp only [Act.put, List.setIfInBounds_toArray, List.set_cons_zero, List.set_cons_succ]
        refine wpAnyH_ready (rs := [6]) (by kernel_rfl) (by simp) (AllReadyH.cons rfl (fun K hK => ?_) (AllReadyH.nil))
        · skip
          go_simp
          refine (pick_v z1 9 q1 HQ1.out _ HZ.out.2.1 (by omega) (by omega)).mono ?_
          rintro e w80 ⟨rfl, rfl⟩
          refine hK.out _ _ hS74 (fun hS79 => ?_)
          clear hK K
          simp only [List.setIfInBounds_toArray, List.set_cons_zero, List.set_cons_succ]
          refine wpAnyH_ready (rs := [9]) (by kernel_rfl) (by simp) (AllReadyH.cons rfl (fun K hK => ?_) (AllReadyH.nil))
          · skip
            go_simp
            refine (pick_v z2 65 q2 HQ2.out _ HZ.out.2.2 (by omega) (by omega)).mono ?_
            rintro e w82 ⟨rfl, rfl⟩
            refine hK.out _ _ hS79 (fun hS81 => ?_)
            clear hK K
            simp only [List.setIfInBounds_toArray, List.set_cons_zero, List.set_cons_succ]
            refine wpAnyH_ready (rs := [10]) (by kernel_rfl) (by simp) (AllReadyH.cons rfl (fun K hK => ?_) (AllReadyH.nil))
            · skip
              go_simp
              refine (new_new (1 + q0) q1 q2 _ c0 0 HC0.out).mono ?_
              rintro e W83 ⟨A86, n87, cp88, rfl, hn89, hp90, hb85, hc91⟩
              refine hK.out _ _ (hS81.trans (hb85.mono hS81.size)) (fun hS84 => ?_)
              clear hK K
              simp only [List.setIfInBounds_toArray, List.set_cons_zero, List.set_cons_succ]
              refine wpAnyH_take (i := 11) (v := .tuple #[.agg #[.int .i64 c0.width, .int .i64 c0.room, .slice A86 n87 cp88, .int .i64 c0.hits, .int .i64 c0.misses, .int .i64 c0.clashes, .int .i64 c0.evicted], .int .i64 0]) rfl (by kernel_rfl) (by kernel_rfl) (by kernel_rfl) (fun _ _ _ h => h) (Or.inl ⟨by rfl, fun w' hS' => by exact op_move rfl rfl⟩) hS84 ?_
              change wpAnyH _ _ _ _ _ _ _ (Act.put _ (some 21) (.tuple #[.agg #[.int .i64 c0.width, .int .i64 c0.room, .slice A86 n87 cp88, .int .i64 c0.hits, .int .i64 c0.misses, .int .i64 c0.clashes, .int .i64 c0.evicted], .int .i64 0])) _
              simp only [Act.put, List.setIfInBounds_toArray, List.set_cons_zero, List.set_cons_succ]
              refine wpAnyH_take (i := 12) (v := .agg #[.int .i64 c0.width, .int .i64 c0.room, .slice A86 n87 cp88, .int .i64 c0.hits, .int .i64 c0.misses, .int .i64 c0.clashes, .int .i64 c0.evicted]) rfl (by kernel_rfl) (by kernel_rfl) (by kernel_rfl) (fun _ _ _ h => h) (Or.inl ⟨by rfl, fun w' hS' => by go_simp⟩) hS84 ?_
              change wpAnyH _ _ _ _ _ _ _ (Act.put _ (some 33) (.agg #[.int .i64 c0.width, .int .i64 c0.room, .slice A86 n87 cp88, .int .i64 c0.hits, .int .i64 c0.misses, .int .i64 c0.clashes, .int .i64 c0.evicted])) _
              simp only [Act.put, List.setIfInBounds_toArray, List.set_cons_zero, List.set_cons_succ]
              refine wpAnyH_take (i := 13) (v := .int .i64 0) rfl (by kernel_rfl) (by kernel_rfl) (by kernel_rfl) (fun _ _ _ h => h) (Or.inl ⟨by rfl, fun w' hS' => by go_simp⟩) hS84 ?_
              change wpAnyH _ _ _ _ _ _ _ (Act.put _ (some 34) (.int .i64 0)) _
              simp only [Act.put, List.setIfInBounds_toArray, List.set_cons_zero, List.set_cons_succ]
              refine wpAnyH_ready (rs := [15]) (by kernel_rfl) (by simp) (AllReadyH.cons rfl (fun K hK => ?_) (AllReadyH.nil))
              · skip
                obtain ⟨W92, hr94, hk95, hgr96⟩ := op_store7 (Blk.below hk77 hb85 hk77.lt) (c0.width) (c0.room) A86 n87 cp88 (c0.hits) (c0.misses) (c0.clashes) (c0.evicted)
                refine step_op_skip (hr94 _ _ _ _ rfl rfl rfl) rfl ?_
                refine hK.out _ _ (hS84.grown hgr96 hS84.size (fun b e => by injection e with e; rw [← e]; exact Nat.le_trans (hS1).size hg78)) (fun hS93 => ?_)
                clear hK K
                change wpAnyH _ _ _ _ _ _ _ (Act.put _ none (undef)) _
                simp only [Act.put]
                refine wpAnyH_take (i := 16) (v := .int .i64 0) rfl (by kernel_rfl) (by kernel_rfl) (by kernel_rfl) (fun _ _ _ h => h) (Or.inl ⟨by rfl, fun w' hS' => by exact op_assign rfl rfl⟩) hS93 ?_
                change wpAnyH _ _ _ _ _ _ _ (Act.put _ (some 9) (.int .i64 0)) _
                simp only [Act.put, List.setIfInBounds_toArray, List.set_cons_zero, List.set_cons_succ]
                refine wpAnyH_done (by kernel_rfl) ?_ _
                refine NoPanic.normal ?_
                go_wp2_with fail
                go_meet
                exact ⟨gs73, A86, n87, cp88, rfl, rfl, hk95, (hp90.kept hgr96 ((hk77).lt)).less (fun _ hb => hb.elim (fun h => Nat.lt_of_lt_of_le h (hS81).size) (fun h => by rw [h]; exact (hk77).lt)), hn89, hc91, hS93, Nat.le_trans (hS1).size hg78⟩
    · skip
      obtain ⟨gs98, W97, hr101, hk102, hb100, hg103⟩ := op_allocC w2.drew
      refine step_op_run (hr101 _ _ rfl) rfl ?_
      refine hK.out _ _ (hS0.trans (hb100.mono hS0.size)) (fun hS99 => ?_)
      clear hK K
      change wpAnyH _ _ _ _ _ _ _ (Act.put _ (some 8) (.pointer (some ⟨gs98, 0, none⟩))) _
      simp only [Act.put, List.setIfInBounds_toArray, List.set_cons_zero, List.set_cons_succ]
      refine wpAnyH_ready (rs := [2]) (by kernel_rfl) (by simp) (AllReadyH.cons rfl (fun K hK => ?_) (AllReadyH.nil))
      · skip
        go_simp
        refine (pick_v z0 4 q0 HQ0.out _ HZ.out.1 (by omega) (by omega)).mono ?_
        rintro e w105 ⟨rfl, rfl⟩
        refine hK.out _ _ hS99 (fun hS104 => ?_)
        clear hK K
        simp only [List.setIfInBounds_toArray, List.set_cons_zero, List.set_cons_succ]
        refine wpAnyH_take (i := 3) (v := .int .i64 (1 + q0)) rfl (by kernel_rfl) (by kernel_rfl) (by kernel_rfl) (fun _ _ _ h => h) (Or.inl ⟨by rfl, fun w' hS' => by go_simp⟩) hS104 ?_
        change wpAnyH _ _ _ _ _ _ _ (Act.put _ (some 25) (.int .i64 (1 + q0))) _
        simp only [Act.put, List.setIfInBounds_toArray, List.set_cons_zero, List.set_cons_succ]
        refine wpAnyH_ready (rs := [6]) (by kernel_rfl) (by simp) (AllReadyH.cons rfl (fun K hK => ?_) (AllReadyH.nil))
        · skip
          go_simp
          refine (pick_v z1 9 q1 HQ1.out _ HZ.out.2.1 (by omega) (by omega)).mono ?_
          rintro e w107 ⟨rfl, rfl⟩
          refine hK.out _ _ hS104 (fun hS106 => ?_)
          clear hK K
          simp only [List.setIfInBounds_toArray, List.set_cons_zero, List.set_cons_succ]
          refine wpAnyH_ready (rs := [9]) (by kernel_rfl) (by simp) (AllReadyH.cons rfl (fun K hK => ?_) (AllReadyH.nil))
          · skip
            go_simp
            refine (pick_v z2 65 q2 HQ2.out _ HZ.out.2.2 (by omega) (by omega)).mono ?_
            rintro e w109 ⟨rfl, rfl⟩
            refine hK.out _ _ hS106 (fun hS108 => ?_)
            clear hK K
            simp only [List.setIfInBounds_toArray, List.set_cons_zero, List.set_cons_succ]
            refine wpAnyH_ready (rs := [10]) (by kernel_rfl) (by simp) (AllReadyH.cons rfl (fun K hK => ?_) (AllReadyH.nil))
            · skip
              go_simp
              refine (new_new (1 + q0) q1 q2 _ c0 0 HC0.out).mono ?_
              rintro e W110 ⟨A113, n114, cp115, rfl, hn116, hp117, hb112, hc118⟩
              refine hK.out _ _ (hS108.trans (hb112.mono hS108.size)) (fun hS111 => ?_)
              clear hK K
              simp only [List.setIfInBounds_toArray, List.set_cons_zero, List.set_cons_succ]
              refine wpAnyH_take (i := 11) (v := .tuple #[.agg #[.int .i64 c0.width, .int .i64 c0.room, .slice A113 n114 cp115, .int .i64 c0.hits, .int .i64 c0.misses, .int .i64 c0.clashes, .int .i64 c0.evicted], .int .i64 0]) rfl (by kernel_rfl) (by kernel_rfl) (by kernel_rfl) (fun _ _ _ h => h) (Or.inl ⟨by rfl, fun w' hS' => by exact op_move rfl rfl⟩) hS111 ?_
              change wpAnyH _ _ _ _ _ _ _ (Act.put _ (some 21) (.tuple #[.agg #[.int .i64 c0.width, .int .i64 c0.room, .slice A113 n114 cp115, .int .i64 c0.hits, .int .i64 c0.misses, .int .i64 c0.clashes, .int .i64 c0.evicted], .int .i64 0])) _
              simp only [Act.put, List.setIfInBounds_toArray, List.set_cons_zero, List.set_cons_succ]
              refine wpAnyH_take (i := 12) (v := .agg #[.int .i64 c0.width, .int .i64 c0.room, .slice A113 n114 cp115, .int .i64 c0.hits, .int .i64 c0.misses, .int .i64 c0.clashes, .int .i64 c0.evicted]) rfl (by kernel_rfl) (by kernel_rfl) (by kernel_rfl) (fun _ _ _ h => h) (Or.inl ⟨by rfl, fun w' hS' => by go_simp⟩) hS111 ?_
              change wpAnyH _ _ _ _ _ _ _ (Act.put _ (some 33) (.agg #[.int .i64 c0.width, .int .i64 c0.room, .slice A113 n114 cp115, .int .i64 c0.hits, .int .i64 c0.misses, .int .i64 c0.clashes, .int .i64 c0.evicted])) _
              simp only [Act.put, List.setIfInBounds_toArray, List.set_cons_zero, List.set_cons_succ]
              refine wpAnyH_take (i := 13) (v := .int .i64 0) rfl (by kernel_rfl) (by kernel_rfl) (by kernel_rfl) (fun _ _ _ h => h) (Or.inl ⟨by rfl, fun w' hS' => by go_simp⟩) hS111 ?_
              change wpAnyH _ _ _ _ _ _ _ (Act.put _ (some 34) (.int .i64 0)) _
              simp only [Act.put, List.setIfInBounds_toArray, List.set_cons_zero, List.set_cons_succ]
              refine wpAnyH_ready (rs := [15]) (by kernel_rfl) (by simp) (AllReadyH.cons rfl (fun K hK => ?_) (AllReadyH.nil))
              · skip
                obtain ⟨W119, hr121, hk122, hgr123⟩ := op_store7 (Blk.below hk102 hb112 hk102.lt) (c0.width) (c0.room) A113 n114 cp115 (c0.hits) (c0.misses) (c0.clashes) (c0.evicted)
                refine step_op_skip (hr121 _ _ _ _ rfl rfl rfl) rfl ?_
                refine hK.out _ _ (hS111.grown hgr123 hS111.size (fun b e => by injection e with e; rw [← e]; exact Nat.le_trans (hS0).size hg103)) (fun hS120 => ?_)
                clear hK K
                change wpAnyH _ _ _ _ _ _ _ (Act.put _ none (undef)) _
                simp only [Act.put]
                refine wpAnyH_take (i := 16) (v := .int .i64 0) rfl (by kernel_rfl) (by kernel_rfl) (by kernel_rfl) (fun _ _ _ h => h) (Or.inl ⟨by rfl, fun w' hS' => by exact op_assign rfl rfl⟩) hS120 ?_
                change wpAnyH _ _ _ _ _ _ _ (Act.put _ (some 9) (.int .i64 0)) _
                simp only [Act.put, List.setIfInBounds_toArray, List.set_cons_zero, List.set_cons_succ]
                refine wpAnyH_done (by kernel_rfl) ?_ _
                refine NoPanic.normal ?_
                go_wp2_with fail
                go_meet
                exact ⟨gs98, A113, n114, cp115, rfl, rfl, hk122, (hp117.kept hgr123 ((hk102).lt)).less (fun _ hb => hb.elim (fun h => Nat.lt_of_lt_of_le h (hS108).size) (fun h => by rw [h]; exact (hk102).lt)), hn116, hc118, hS120, Nat.le_trans (hS0).size hg103⟩
  case rest =>
    obtain ⟨g0, A8, n8, cap8, rfl, rfl, hb8, hp8, hn8, hc8, hbw, hge⟩ := hcut
    obtain ⟨w3, rfl⟩ : ∃ w3, w3 = wc := ⟨_, rfl⟩
    have HB8 := Lib.hid hb8
    have HP8 := Lib.hid hp8
    have HN8 := Lib.hid hn8
    have HBW := Lib.hid hbw
    clear hb8 hp8 hn8 hbw hw1 a0 a2
    go_upto_block 0 with (fail)
    have hbl : Blk (w3.alloc (.cells last0 47)) w3.heap.size 47 last0 := Blk.new w3 _ _
    have hw4 : Below w3.heap.size w3 (w3.alloc (.cells last0 47)) := (Below.refl _ _).alloc (Nat.le_refl _) _
    rw [show (#[.string ⟨#[]⟩, .string ⟨#[]⟩, .string ⟨#[]⟩, .string ⟨#[]⟩, .string ⟨#[]⟩, .string ⟨#[]⟩, .string ⟨#[]⟩, .string ⟨#[]⟩, .string ⟨#[]⟩, .string ⟨#[]⟩, .string ⟨#[]⟩, .string ⟨#[]⟩, .string ⟨#[]⟩, .string ⟨#[]⟩, .string ⟨#[]⟩, .string ⟨#[]⟩, .string ⟨#[]⟩, .string ⟨#[]⟩, .string ⟨#[]⟩, .string ⟨#[]⟩, .string ⟨#[]⟩, .string ⟨#[]⟩, .string ⟨#[]⟩, .string ⟨#[]⟩, .string ⟨#[]⟩, .string ⟨#[]⟩, .string ⟨#[]⟩, .string ⟨#[]⟩, .string ⟨#[]⟩, .string ⟨#[]⟩, .string ⟨#[]⟩, .string ⟨#[]⟩, .string ⟨#[]⟩, .string ⟨#[]⟩, .string ⟨#[]⟩, .string ⟨#[]⟩] : Array Value) = last0 from rfl]
    obtain ⟨w5, hwe⟩ : ∃ w5, w5 = w3.alloc (.cells last0 47) := ⟨_, rfl⟩
    obtain ⟨gl, hgl⟩ : ∃ g, g = w3.heap.size := ⟨_, rfl⟩
    rw [← hwe] at hbl hw4 ⊢
    rw [← hgl] at hbl ⊢
    have HG : Hid (w2.heap.size ≤ g0 ∧ w2.heap.size ≤ gl ∧ gl ≠ g0) := Lib.hid (by have h1 := HB8.out.lt; have h2 := HBW.out.size; omega)
    have HI0 : Hid (Below w2.heap.size w2 w5 ∧ Boxed (fun b => b = g0 ∨ b = gl) w5 g0 c0 ∧ Blk w5 gl 47 last0) := Lib.hid
      ⟨below_step HBW.out hw4, ⟨A8, n8, cap8, Blk.below HB8.out hw4 HB8.out.lt, (((HP8.out.less (fun b hb => Or.inr hb) : PartsAt (fun b => b = g0) _ _ _).add (show w3.heap.size ≤ gl by omega))).up hw4, HN8.out, hc8⟩, hbl⟩
    clear hbl hw4 hwe hgl hge hc8
    go_wp2_with fail
    go_loopw [11] (fun s11 wr => ∃ (k : Nat) (c : Ca) (T : Nat → Nat → ByteArray) (ls : Array Value), k ≤ deeds.length ∧ k ≤ 30 ∧ s11 = .int .i64 k ∧ Hid (Lst c T) ∧ Hid (Good c k) ∧ Hid (c.room = q1) ∧ Hid (LastAt ls T) ∧ Hid (Below w2.heap.size w2 wr ∧ Boxed (fun b => b = g0 ∨ b = gl) wr g0 c ∧ Blk wr gl 47 ls)) (fun s11 _ => deeds.length - (intOf s11).toNat)
    case atStart => exact ⟨0, c0, _, last0, Nat.zero_le _, Nat.zero_le _, rfl, Lib.hid HGC0.out.2.2, Lib.hid HGC0.out.1, Lib.hid HGC0.out.2.1, Lib.hid last0_at, HI0⟩
    case round =>
      obtain ⟨k, c, T, ls, hk, hk30, rfl, HLS, HGC, HRM, HLL, HI⟩ := hrel
      obtain ⟨w4, rfl⟩ : ∃ w4, w4 = wr := ⟨_, rfl⟩
      by_cases g1 : k < deeds.length
      · by_cases g2 : k < 30
        · obtain ⟨A0, n0, cap0, hb0, hp0, hn0, hc0⟩ := HI.out.2.1
          have HB0 := Lib.hid hb0
          have HP0 := Lib.hid hp0
          have HN0 := Lib.hid hn0
          have HL0 := Lib.hid HI.out.2.2
          have HF0 := Lib.hid (HGC.out.fit (by omega))
          have HWW := Lib.hid (below_step HW2.out HI.out.1)
          obtain ⟨z, hz⟩ : ∃ z, deeds[k]? = some z := ⟨_, List.getElem?_eq_getElem g1⟩
          obtain ⟨aa, rfl, hal, htz⟩ := tri_cells (HA1.out.up HWW.out) hz
          have HTZ0 := Lib.hid htz
          have HTF := Lib.hid (HF1.out z (List.mem_of_getElem? hz))
          clear hb0 hp0 hn0 hz htz
          obtain ⟨a, ha⟩ := Int.eq_ofNat_of_zero_le (pickI_range z.1 6 (by omega)).1
          obtain ⟨b, hb⟩ := Int.eq_ofNat_of_zero_le (pickI_range z.2.1 6 (by omega)).1
          have hab : a < 6 ∧ b < 6 := by have h1 := (pickI_range z.1 6 (by omega)).2; have h2 := (pickI_range z.2.1 6 (by omega)).2; omega
          have HAB := Lib.hid hab
          obtain ⟨hab1, hab2⟩ := hab
          have HPA : Hid (pickI z.1 6 = (a : Int)) := Lib.hid ha
          have HPB : Hid (pickI z.2.1 6 = (b : Int)) := Lib.hid hb
          have HIA : Hid (I64 (a : Int)) := Lib.hid (small_i64 (by omega))
          have HIB : Hid (I64 (b : Int)) := Lib.hid (small_i64 (by omega))
          clear ha hb
          obtain ⟨t0, t1, t2⟩ := HTZ0.out _ (Below.refl _ _)
          go_wp2_with fail
          refine (pick_v z.1 6 a HPA.out _ HTF.out.1 (by omega) (by omega)).mono ?_
          rintro e w' ⟨rfl, rfl⟩
          go_wp2_with fail
          refine (pick_v z.2.1 6 b HPB.out _ HTF.out.2.1 (by omega) (by omega)).mono ?_
          rintro e w' ⟨rfl, rfl⟩
          clear t0 t1 t2
          have HB6 : Hid (Below w4.heap.size w4 w4) := Lib.hid (Below.refl _ _)
          obtain ⟨w6, hw6⟩ : ∃ w6, w6 = w4 := ⟨_, rfl⟩
          have HB6 : Hid (Below w4.heap.size w4 w6) := Lib.hid (by rw [hw6]; exact Below.refl _ _)
          have HC0 : Hid (∀ W, Below w6.heap.size w6 W → W.cell? ⟨g0, 0, none⟩ = some (.int .i64 c.width) ∧ W.cell? ⟨g0, 1, none⟩ = some (.int .i64 c.room) ∧ W.cell? ⟨g0, 2, none⟩ = some (.slice A0 n0 cap0) ∧ W.cell? ⟨g0, 3, none⟩ = some (.int .i64 c.hits) ∧ W.cell? ⟨g0, 4, none⟩ = some (.int .i64 c.misses) ∧ W.cell? ⟨g0, 5, none⟩ = some (.int .i64 c.clashes) ∧ W.cell? ⟨g0, 6, none⟩ = some (.int .i64 c.evicted)) := Lib.hid fun W hW => box7 HB0.out (below_step HB6.out hW)
          have hbool : ∀ bk ab, A2 = some ab → puts[k]? = some bk → w6.cell? (ab.add k) = some (.bool bk) := fun bk ab e hbk => by
            obtain ⟨ab', e', hab', hcb⟩ := HA2.out.at_ hbk
            rw [e] at e'
            injection e' with e'
            subst e'
            have h1 := hcb 0 _ rfl
            rw [Nat.mul_one, Nat.add_zero] at h1
            exact ((below_step HWW.out HB6.out).cell (by rw [add_block]; exact hab')).trans h1
          have HBOOL := Lib.hid hbool
          clear hbool
          rw [← hw6]
          clear hw6
          go_upto_region 11 with (fail)
          obtain ⟨pk, hpk⟩ : ∃ pk : Bool, (puts[k]?).getD false = pk := ⟨_, rfl⟩
          go_cut [68] (fun s68 wx => s68 = .bool pk ∧ wx = w6)
          case first =>
            by_cases g3 : k < puts.length
            · obtain ⟨bk, hbk⟩ : ∃ b, puts[k]? = some b := ⟨_, List.getElem?_eq_getElem g3⟩
              obtain ⟨ab, rfl, hab, _⟩ := HA2.out.at_ hbk
              have hcell := HBOOL.out bk ab rfl hbk
              rw [hbk, Option.getD_some] at hpk
              subst hpk
              clear hbk
              go_wp2_with fail
              go_meet
              exact ⟨rfl, rfl⟩
            · rw [List.getElem?_eq_none (by omega), Option.getD_none] at hpk
              subst hpk
              go_wp2_with fail
              go_meet
              exact ⟨rfl, rfl⟩
          case rest =>
            obtain ⟨rfl, hw⟩ := hcut
            obtain rfl : w6 = wc := hw.symm
            clear hpk
            go_upto_if 68 with (fail)
            go_cut [] (fun wx => ∃ (d : Ca) (T2 : Nat → Nat → ByteArray) (ls2 : Array Value), Lst d T2 ∧ Good d (k + 1) ∧ d.room = q1 ∧ LastAt ls2 T2 ∧ Below w2.heap.size w2 wx ∧ Boxed (fun b => b = g0 ∨ b = gl) wx g0 d ∧ Blk wx gl 47 ls2)
            case first =>
              cases pk with
              | true =>
                obtain ⟨t0, t1, t2⟩ := HTZ0.out _ HB6.out
                have hal6 := Nat.lt_of_lt_of_le hal HB6.out.size
                go_wp2_with fail
                refine (text_any z.2.2 _ HTF.out.2.2).mono ?_
                rintro e w6b ⟨rfl, hb6⟩
                have HB6o := HB6
                clear HB6
                have HB6 := Lib.hid (below_step HB6o.out hb6)
                obtain ⟨w6, rfl⟩ : ∃ w6, w6 = w6b := ⟨_, rfl⟩
                clear hb6 t0 t1 t2 hal6 HC0
                have HC0 : Hid (∀ W, Below w6.heap.size w6 W → W.cell? ⟨g0, 0, none⟩ = some (.int .i64 c.width) ∧ W.cell? ⟨g0, 1, none⟩ = some (.int .i64 c.room) ∧ W.cell? ⟨g0, 2, none⟩ = some (.slice A0 n0 cap0) ∧ W.cell? ⟨g0, 3, none⟩ = some (.int .i64 c.hits) ∧ W.cell? ⟨g0, 4, none⟩ = some (.int .i64 c.misses) ∧ W.cell? ⟨g0, 5, none⟩ = some (.int .i64 c.clashes) ∧ W.cell? ⟨g0, 6, none⟩ = some (.int .i64 c.evicted)) := Lib.hid fun W hW => box7 HB0.out (below_step HB6.out hW)
                have hcat : ¬ 9223372036854775807 < (textOf z.2.2).size + (⟨#[33]⟩ : ByteArray).size := by
                  have h1 := textOf_size z.2.2
                  have h2 : (⟨#[33]⟩ : ByteArray).size = 1 := rfl
                  omega
                go_upto_region 13 with (fail)
                obtain ⟨v, hv⟩ : ∃ v, v = textOf z.2.2 ++ ⟨#[33]⟩ := ⟨_, rfl⟩
                rw [← hv]
                have HV : Hid (v.size ≤ 4096) := Lib.hid (by rw [hv, ByteArray.size_append]; have h1 := textOf_size z.2.2; have h2 : (⟨#[33]⟩ : ByteArray).size = 1 := rfl; omega)
                have HV0 : Hid (v ≠ ⟨#[]⟩) := Lib.hid (by intro h; have h1 := congrArg ByteArray.size (hv.symm.trans h); rw [ByteArray.size_append] at h1; have h2 : (⟨#[33]⟩ : ByteArray).size = 1 := rfl; have h3 : (⟨#[]⟩ : ByteArray).size = 0 := rfl; omega)
                clear hv hcat
                obtain ⟨d, e0, hpm⟩ : ∃ d e, putC c (textOf (a : Int)) (textOf (b : Int)) v = (d, e) := ⟨_, _, rfl⟩
                obtain rfl : e0 = 0 := by have := put_eq HGC.out.right (textOf (a : Int)) (textOf (b : Int)) v; rw [hpm] at this; exact congrArg Prod.snd this
                have HPM := Lib.hid hpm
                have HLS2 : Hid (Lst d (setT T a b v)) := Lib.hid (by have := HLS.out.put HGC.out.right HAB.out.1 HAB.out.2 HV0.out; rw [hpm] at this; exact this)
                have HGD : Hid (Good d (k + 1)) := Lib.hid (by have := HGC.out.put (textOf (a : Int)) (textOf (b : Int)) v (text_le _) (text_le _) HV.out; rw [hpm] at this; exact this)
                have HROOM : Hid (d.room = q1) := Lib.hid (by have := put_room c (textOf (a : Int)) (textOf (b : Int)) v HGC.out.right; rw [hpm] at this; exact this.trans HRM.out)
                clear hpm
                go_cut [15, 16] (fun s15 s16 wx => PutCut w6 d 0 s15 s16 wx)
                case first =>
                  refine wp_region_noPanic ?_
                  refine wp_region_held_drew (S := fun W => Below w6.heap.size w6 W) (by kernel_rfl) ((Below.refl w6.heap.size w6).drew) (fun hS0 => ?_)
                  change wpAnyH _ _ _ _ _ 13 #[false, false, false, false, false, false, false, false, false, false, false, false, false] _ (World.drew _)
                  refine wpAnyH_take (i := 0) (v := .agg #[.int .i64 c.width, .int .i64 c.room, .slice A0 n0 cap0, .int .i64 c.hits, .int .i64 c.misses, .int .i64 c.clashes, .int .i64 c.evicted]) rfl (by kernel_rfl) (by kernel_rfl) (by kernel_rfl) (fun _ _ _ h => h) (Or.inl ⟨by rfl, fun w' hS' => by obtain ⟨y0, y1, y2, y3, y4, y5, y6⟩ := HC0.out _ hS'; go_simp⟩) hS0 ?_
                  change wpAnyH _ _ _ _ _ _ _ (Act.put _ (some 77) (.agg #[.int .i64 c.width, .int .i64 c.room, .slice A0 n0 cap0, .int .i64 c.hits, .int .i64 c.misses, .int .i64 c.clashes, .int .i64 c.evicted])) _
                  simp only [Act.put, List.setIfInBounds_toArray, List.set_cons_zero, List.set_cons_succ]
                  refine wpAnyH_take (i := 1) (v := .int .i64 (a : Int)) rfl (by kernel_rfl) (by kernel_rfl) (by kernel_rfl) (fun _ _ _ h => h) (Or.inl ⟨by rfl, fun w' hS' => by exact op_move rfl rfl⟩) hS0 ?_
                  change wpAnyH _ _ _ _ _ _ _ (Act.put _ (some 78) (.int .i64 (a : Int))) _
                  simp only [Act.put, List.setIfInBounds_toArray, List.set_cons_zero, List.set_cons_succ]
                  refine wpAnyH_take (i := 3) (v := .int .i64 (b : Int)) rfl (by kernel_rfl) (by kernel_rfl) (by kernel_rfl) (fun _ _ _ h => h) (Or.inl ⟨by rfl, fun w' hS' => by exact op_move rfl rfl⟩) hS0 ?_
                  change wpAnyH _ _ _ _ _ _ _ (Act.put _ (some 80) (.int .i64 (b : Int))) _
                  simp only [Act.put, List.setIfInBounds_toArray, List.set_cons_zero, List.set_cons_succ]
                  refine wpAnyH_take (i := 5) (v := .string v) rfl (by kernel_rfl) (by kernel_rfl) (by kernel_rfl) (fun _ _ _ h => h) (Or.inl ⟨by rfl, fun w' hS' => by exact op_move rfl rfl⟩) hS0 ?_
                  change wpAnyH _ _ _ _ _ _ _ (Act.put _ (some 82) (.string v)) _
                  simp only [Act.put, List.setIfInBounds_toArray, List.set_cons_zero, List.set_cons_succ]
                  refine wpAnyH_ready (rs := [2, 10]) (by kernel_rfl) (by simp) (AllReadyH.cons rfl (fun K hK => ?_) (AllReadyH.cons rfl (fun K hK => ?_) (AllReadyH.nil)))
                  · skip
                    go_simp
                    refine (text_any (a : Int) _ HIA.out).mono ?_
                    rintro e W1 ⟨rfl, hb3⟩
                    refine hK.out _ _ (hS0.trans (hb3.mono hS0.size)) (fun hS2 => ?_)
                    clear hK K
                    simp only [List.setIfInBounds_toArray, List.set_cons_zero, List.set_cons_succ]
                    refine wpAnyH_ready (rs := [4, 10]) (by kernel_rfl) (by simp) (AllReadyH.cons rfl (fun K hK => ?_) (AllReadyH.cons rfl (fun K hK => ?_) (AllReadyH.nil)))
                    · skip
                      go_simp
                      refine (text_any (b : Int) _ HIB.out).mono ?_
                      rintro e W4 ⟨rfl, hb6⟩
                      refine hK.out _ _ (hS2.trans (hb6.mono hS2.size)) (fun hS5 => ?_)
                      clear hK K
                      simp only [List.setIfInBounds_toArray, List.set_cons_zero, List.set_cons_succ]
                      refine wpAnyH_ready (rs := [6, 10]) (by kernel_rfl) (by simp) (AllReadyH.cons rfl (fun K hK => ?_) (AllReadyH.cons rfl (fun K hK => ?_) (AllReadyH.nil)))
                      · skip
                        go_simp
                        refine (put_new c A0 n0 cap0 (textOf (a : Int)) (textOf (b : Int)) v _ d 0 HPM.out ((HP0.out.up HB6.out).up hS5) HN0.out HF0.out (text_le _) (text_le _) HV.out).mono ?_
                        rintro e W7 ⟨A10, n11, cp12, rfl, hn13, hp14, hb9, hc15⟩
                        refine hK.out _ _ (hS5.trans (hb9.mono hS5.size)) (fun hS8 => ?_)
                        clear hK K
                        simp only [List.setIfInBounds_toArray, List.set_cons_zero, List.set_cons_succ]
                        refine wpAnyH_take (i := 7) (v := .tuple #[.agg #[.int .i64 d.width, .int .i64 d.room, .slice A10 n11 cp12, .int .i64 d.hits, .int .i64 d.misses, .int .i64 d.clashes, .int .i64 d.evicted], .int .i64 0]) rfl (by kernel_rfl) (by kernel_rfl) (by kernel_rfl) (fun _ _ _ h => h) (Or.inl ⟨by rfl, fun w' hS' => by exact op_move rfl rfl⟩) hS8 ?_
                        change wpAnyH _ _ _ _ _ _ _ (Act.put _ (some 76) (.tuple #[.agg #[.int .i64 d.width, .int .i64 d.room, .slice A10 n11 cp12, .int .i64 d.hits, .int .i64 d.misses, .int .i64 d.clashes, .int .i64 d.evicted], .int .i64 0])) _
                        simp only [Act.put, List.setIfInBounds_toArray, List.set_cons_zero, List.set_cons_succ]
                        refine wpAnyH_take (i := 8) (v := .agg #[.int .i64 d.width, .int .i64 d.room, .slice A10 n11 cp12, .int .i64 d.hits, .int .i64 d.misses, .int .i64 d.clashes, .int .i64 d.evicted]) rfl (by kernel_rfl) (by kernel_rfl) (by kernel_rfl) (fun _ _ _ h => h) (Or.inl ⟨by rfl, fun w' hS' => by go_simp⟩) hS8 ?_
                        change wpAnyH _ _ _ _ _ _ _ (Act.put _ (some 84) (.agg #[.int .i64 d.width, .int .i64 d.room, .slice A10 n11 cp12, .int .i64 d.hits, .int .i64 d.misses, .int .i64 d.clashes, .int .i64 d.evicted])) _
                        simp only [Act.put, List.setIfInBounds_toArray, List.set_cons_zero, List.set_cons_succ]
                        refine wpAnyH_take (i := 9) (v := .int .i64 0) rfl (by kernel_rfl) (by kernel_rfl) (by kernel_rfl) (fun _ _ _ h => h) (Or.inl ⟨by rfl, fun w' hS' => by go_simp⟩) hS8 ?_
                        change wpAnyH _ _ _ _ _ _ _ (Act.put _ (some 85) (.int .i64 0)) _
                        simp only [Act.put, List.setIfInBounds_toArray, List.set_cons_zero, List.set_cons_succ]
                        refine wpAnyH_ready (rs := [10]) (by kernel_rfl) (by simp) (AllReadyH.cons rfl (fun K hK => ?_) (AllReadyH.nil))
                        · skip
                          obtain ⟨gs17, W16, hr20, hk21, hb19, hg22⟩ := op_allocC W7
                          refine step_op_run (hr20 _ _ rfl) rfl ?_
                          refine hK.out _ _ (hS8.trans (hb19.mono hS8.size)) (fun hS18 => ?_)
                          clear hK K
                          change wpAnyH _ _ _ _ _ _ _ (Act.put _ (some 15) (.pointer (some ⟨gs17, 0, none⟩))) _
                          simp only [Act.put, List.setIfInBounds_toArray, List.set_cons_zero, List.set_cons_succ]
                          refine wpAnyH_ready (rs := [11]) (by kernel_rfl) (by simp) (AllReadyH.cons rfl (fun K hK => ?_) (AllReadyH.nil))
                          · skip
                            obtain ⟨W23, hr25, hk26, hgr27⟩ := op_store7 hk21 (d.width) (d.room) A10 n11 cp12 (d.hits) (d.misses) (d.clashes) (d.evicted)
                            refine step_op_skip (hr25 _ _ _ _ rfl rfl rfl) rfl ?_
                            refine hK.out _ _ (hS18.grown hgr27 hS18.size (fun b e => by injection e with e; rw [← e]; exact Nat.le_trans (hS8).size hg22)) (fun hS24 => ?_)
                            clear hK K
                            change wpAnyH _ _ _ _ _ _ _ (Act.put _ none (undef)) _
                            simp only [Act.put]
                            refine wpAnyH_take (i := 12) (v := .int .i64 0) rfl (by kernel_rfl) (by kernel_rfl) (by kernel_rfl) (fun _ _ _ h => h) (Or.inl ⟨by rfl, fun w' hS' => by exact op_assign rfl rfl⟩) hS24 ?_
                            change wpAnyH _ _ _ _ _ _ _ (Act.put _ (some 16) (.int .i64 0)) _
                            simp only [Act.put, List.setIfInBounds_toArray, List.set_cons_zero, List.set_cons_succ]
                            refine wpAnyH_done (by kernel_rfl) ?_ _
                            refine NoPanic.normal ?_
                            go_wp2_with fail
                            go_meet
                            exact ⟨gs17, A10, n11, cp12, rfl, rfl, hk26, (((hp14.add hg22).up hb19).kept hgr27 (Or.inr rfl)).less (fun _ hb => .inl (Nat.lt_of_lt_of_le hb (hS5).size)), hn13, hc15, hS24, Nat.le_trans (hS8).size hg22⟩
                      · skip
                        obtain ⟨gs29, W28, hr32, hk33, hb31, hg34⟩ := op_allocC W4
                        refine step_op_run (hr32 _ _ rfl) rfl ?_
                        refine hK.out _ _ (hS5.trans (hb31.mono hS5.size)) (fun hS30 => ?_)
                        clear hK K
                        change wpAnyH _ _ _ _ _ _ _ (Act.put _ (some 15) (.pointer (some ⟨gs29, 0, none⟩))) _
                        simp only [Act.put, List.setIfInBounds_toArray, List.set_cons_zero, List.set_cons_succ]
                        refine wpAnyH_ready (rs := [6]) (by kernel_rfl) (by simp) (AllReadyH.cons rfl (fun K hK => ?_) (AllReadyH.nil))
                        · skip
                          go_simp
                          refine (put_new c A0 n0 cap0 (textOf (a : Int)) (textOf (b : Int)) v _ d 0 HPM.out ((HP0.out.up HB6.out).up hS30) HN0.out HF0.out (text_le _) (text_le _) HV.out).mono ?_
                          rintro e W35 ⟨A38, n39, cp40, rfl, hn41, hp42, hb37, hc43⟩
                          refine hK.out _ _ (hS30.trans (hb37.mono hS30.size)) (fun hS36 => ?_)
                          clear hK K
                          simp only [List.setIfInBounds_toArray, List.set_cons_zero, List.set_cons_succ]
                          refine wpAnyH_take (i := 7) (v := .tuple #[.agg #[.int .i64 d.width, .int .i64 d.room, .slice A38 n39 cp40, .int .i64 d.hits, .int .i64 d.misses, .int .i64 d.clashes, .int .i64 d.evicted], .int .i64 0]) rfl (by kernel_rfl) (by kernel_rfl) (by kernel_rfl) (fun _ _ _ h => h) (Or.inl ⟨by rfl, fun w' hS' => by exact op_move rfl rfl⟩) hS36 ?_
                          change wpAnyH _ _ _ _ _ _ _ (Act.put _ (some 76) (.tuple #[.agg #[.int .i64 d.width, .int .i64 d.room, .slice A38 n39 cp40, .int .i64 d.hits, .int .i64 d.misses, .int .i64 d.clashes, .int .i64 d.evicted], .int .i64 0])) _
                          simp only [Act.put, List.setIfInBounds_toArray, List.set_cons_zero, List.set_cons_succ]
                          refine wpAnyH_take (i := 8) (v := .agg #[.int .i64 d.width, .int .i64 d.room, .slice A38 n39 cp40, .int .i64 d.hits, .int .i64 d.misses, .int .i64 d.clashes, .int .i64 d.evicted]) rfl (by kernel_rfl) (by kernel_rfl) (by kernel_rfl) (fun _ _ _ h => h) (Or.inl ⟨by rfl, fun w' hS' => by go_simp⟩) hS36 ?_
                          change wpAnyH _ _ _ _ _ _ _ (Act.put _ (some 84) (.agg #[.int .i64 d.width, .int .i64 d.room, .slice A38 n39 cp40, .int .i64 d.hits, .int .i64 d.misses, .int .i64 d.clashes, .int .i64 d.evicted])) _
                          simp only [Act.put, List.setIfInBounds_toArray, List.set_cons_zero, List.set_cons_succ]
                          refine wpAnyH_take (i := 9) (v := .int .i64 0) rfl (by kernel_rfl) (by kernel_rfl) (by kernel_rfl) (fun _ _ _ h => h) (Or.inl ⟨by rfl, fun w' hS' => by go_simp⟩) hS36 ?_
                          change wpAnyH _ _ _ _ _ _ _ (Act.put _ (some 85) (.int .i64 0)) _
                          simp only [Act.put, List.setIfInBounds_toArray, List.set_cons_zero, List.set_cons_succ]
                          refine wpAnyH_ready (rs := [11]) (by kernel_rfl) (by simp) (AllReadyH.cons rfl (fun K hK => ?_) (AllReadyH.nil))
                          · skip
                            obtain ⟨W44, hr46, hk47, hgr48⟩ := op_store7 (Blk.below hk33 hb37 hk33.lt) (d.width) (d.room) A38 n39 cp40 (d.hits) (d.misses) (d.clashes) (d.evicted)
                            refine step_op_skip (hr46 _ _ _ _ rfl rfl rfl) rfl ?_
                            refine hK.out _ _ (hS36.grown hgr48 hS36.size (fun b e => by injection e with e; rw [← e]; exact Nat.le_trans (hS5).size hg34)) (fun hS45 => ?_)
                            clear hK K
                            change wpAnyH _ _ _ _ _ _ _ (Act.put _ none (undef)) _
                            simp only [Act.put]
                            refine wpAnyH_take (i := 12) (v := .int .i64 0) rfl (by kernel_rfl) (by kernel_rfl) (by kernel_rfl) (fun _ _ _ h => h) (Or.inl ⟨by rfl, fun w' hS' => by exact op_assign rfl rfl⟩) hS45 ?_
                            change wpAnyH _ _ _ _ _ _ _ (Act.put _ (some 16) (.int .i64 0)) _
                            simp only [Act.put, List.setIfInBounds_toArray, List.set_cons_zero, List.set_cons_succ]
                            refine wpAnyH_done (by kernel_rfl) ?_ _
                            refine NoPanic.normal ?_
                            go_wp2_with fail
                            go_meet
                            exact ⟨gs29, A38, n39, cp40, rfl, rfl, hk47, (hp42.kept hgr48 ((hk33).lt)).less (fun _ hb => Nat.lt_of_lt_of_le hb (hS30).size), hn41, hc43, hS45, Nat.le_trans (hS5).size hg34⟩
                    · skip
                      obtain ⟨gs50, W49, hr53, hk54, hb52, hg55⟩ := op_allocC W1
                      refine step_op_run (hr53 _ _ rfl) rfl ?_
                      refine hK.out _ _ (hS2.trans (hb52.mono hS2.size)) (fun hS51 => ?_)
                      clear hK K
                      change wpAnyH _ _ _ _ _ _ _ (Act.put _ (some 15) (.pointer (some ⟨gs50, 0, none⟩))) _
                      simp only [Act.put, List.setIfInBounds_toArray, List.set_cons_zero, List.set_cons_succ]
                      refine wpAnyH_ready (rs := [4]) (by kernel_rfl) (by simp) (AllReadyH.cons rfl (fun K hK => ?_) (AllReadyH.nil))
                      · skip
                        go_simp
                        refine (text_any (b : Int) _ HIB.out).mono ?_
                        rintro e W56 ⟨rfl, hb58⟩
                        refine hK.out _ _ (hS51.trans (hb58.mono hS51.size)) (fun hS57 => ?_)
                        clear hK K
                        simp only [List.setIfInBounds_toArray, List.set_cons_zero, List.set_cons_succ]
                        refine wpAnyH_ready (rs := [6]) (by kernel_rfl) (by simp) (AllReadyH.cons rfl (fun K hK => ?_) (AllReadyH.nil))
                        · skip
                          go_simp
                          refine (put_new c A0 n0 cap0 (textOf (a : Int)) (textOf (b : Int)) v _ d 0 HPM.out ((HP0.out.up HB6.out).up hS57) HN0.out HF0.out (text_le _) (text_le _) HV.out).mono ?_
                          rintro e W59 ⟨A62, n63, cp64, rfl, hn65, hp66, hb61, hc67⟩
                          refine hK.out _ _ (hS57.trans (hb61.mono hS57.size)) (fun hS60 => ?_)
                          clear hK K
                          simp only [List.setIfInBounds_toArray, List.set_cons_zero, List.set_cons_succ]
                          refine wpAnyH_take (i := 7) (v := .tuple #[.agg #[.int .i64 d.width, .int .i64 d.room, .slice A62 n63 cp64, .int .i64 d.hits, .int .i64 d.misses, .int .i64 d.clashes, .int .i64 d.evicted], .int .i64 0]) rfl (by kernel_rfl) (by kernel_rfl) (by kernel_rfl) (fun _ _ _ h => h) (Or.inl ⟨by rfl, fun w' hS' => by exact op_move rfl rfl⟩) hS60 ?_
                          change wpAnyH _ _ _ _ _ _ _ (Act.put _ (some 76) (.tuple #[.agg #[.int .i64 d.width, .int .i64 d.room, .slice A62 n63 cp64, .int .i64 d.hits, .int .i64 d.misses, .int .i64 d.clashes, .int .i64 d.evicted], .int .i64 0])) _
                          simp only [Act.put, List.setIfInBounds_toArray, List.set_cons_zero, List.set_cons_succ]
                          refine wpAnyH_take (i := 8) (v := .agg #[.int .i64 d.width, .int .i64 d.room, .slice A62 n63 cp64, .int .i64 d.hits, .int .i64 d.misses, .int .i64 d.clashes, .int .i64 d.evicted]) rfl (by kernel_rfl) (by kernel_rfl) (by kernel_rfl) (fun _ _ _ h => h) (Or.inl ⟨by rfl, fun w' hS' => by go_simp⟩) hS60 ?_
                          change wpAnyH _ _ _ _ _ _ _ (Act.put _ (some 84) (.agg #[.int .i64 d.width, .int .i64 d.room, .slice A62 n63 cp64, .int .i64 d.hits, .int .i64 d.misses, .int .i64 d.clashes, .int .i64 d.evicted])) _
                          simp only [Act.put, List.setIfInBounds_toArray, List.set_cons_zero, List.set_cons_succ]
                          refine wpAnyH_take (i := 9) (v := .int .i64 0) rfl (by kernel_rfl) (by kernel_rfl) (by kernel_rfl) (fun _ _ _ h => h) (Or.inl ⟨by rfl, fun w' hS' => by go_simp⟩) hS60 ?_
                          change wpAnyH _ _ _ _ _ _ _ (Act.put _ (some 85) (.int .i64 0)) _
                          simp only [Act.put, List.setIfInBounds_toArray, List.set_cons_zero, List.set_cons_succ]
                          refine wpAnyH_ready (rs := [11]) (by kernel_rfl) (by simp) (AllReadyH.cons rfl (fun K hK => ?_) (AllReadyH.nil))
                          · skip
                            obtain ⟨W68, hr70, hk71, hgr72⟩ := op_store7 (Blk.below (Blk.below hk54 hb58 hk54.lt) hb61 (Blk.below hk54 hb58 hk54.lt).lt) (d.width) (d.room) A62 n63 cp64 (d.hits) (d.misses) (d.clashes) (d.evicted)
                            refine step_op_skip (hr70 _ _ _ _ rfl rfl rfl) rfl ?_
                            refine hK.out _ _ (hS60.grown hgr72 hS60.size (fun b e => by injection e with e; rw [← e]; exact Nat.le_trans (hS2).size hg55)) (fun hS69 => ?_)
                            clear hK K
                            change wpAnyH _ _ _ _ _ _ _ (Act.put _ none (undef)) _
                            simp only [Act.put]
                            refine wpAnyH_take (i := 12) (v := .int .i64 0) rfl (by kernel_rfl) (by kernel_rfl) (by kernel_rfl) (fun _ _ _ h => h) (Or.inl ⟨by rfl, fun w' hS' => by exact op_assign rfl rfl⟩) hS69 ?_
                            change wpAnyH _ _ _ _ _ _ _ (Act.put _ (some 16) (.int .i64 0)) _
                            simp only [Act.put, List.setIfInBounds_toArray, List.set_cons_zero, List.set_cons_succ]
                            refine wpAnyH_done (by kernel_rfl) ?_ _
                            refine NoPanic.normal ?_
                            go_wp2_with fail
                            go_meet
                            exact ⟨gs50, A62, n63, cp64, rfl, rfl, hk71, (hp66.kept hgr72 (((Blk.below hk54 hb58 hk54.lt)).lt)).less (fun _ hb => Nat.lt_of_lt_of_le hb (hS57).size), hn65, hc67, hS69, Nat.le_trans (hS2).size hg55⟩
                  · skip
                    obtain ⟨gs74, W73, hr77, hk78, hb76, hg79⟩ := op_allocC w6.drew
                    refine step_op_run (hr77 _ _ rfl) rfl ?_
                    refine hK.out _ _ (hS0.trans (hb76.mono hS0.size)) (fun hS75 => ?_)
                    clear hK K
                    change wpAnyH _ _ _ _ _ _ _ (Act.put _ (some 15) (.pointer (some ⟨gs74, 0, none⟩))) _
                    simp only [Act.put, List.setIfInBounds_toArray, List.set_cons_zero, List.set_cons_succ]
                    refine wpAnyH_ready (rs := [2]) (by kernel_rfl) (by simp) (AllReadyH.cons rfl (fun K hK => ?_) (AllReadyH.nil))
                    · skip
                      go_simp
                      refine (text_any (a : Int) _ HIA.out).mono ?_
                      rintro e W80 ⟨rfl, hb82⟩
                      refine hK.out _ _ (hS75.trans (hb82.mono hS75.size)) (fun hS81 => ?_)
                      clear hK K
                      simp only [List.setIfInBounds_toArray, List.set_cons_zero, List.set_cons_succ]
                      refine wpAnyH_ready (rs := [4]) (by kernel_rfl) (by simp) (AllReadyH.cons rfl (fun K hK => ?_) (AllReadyH.nil))
                      · skip
                        go_simp
                        refine (text_any (b : Int) _ HIB.out).mono ?_
                        rintro e W83 ⟨rfl, hb85⟩
                        refine hK.out _ _ (hS81.trans (hb85.mono hS81.size)) (fun hS84 => ?_)
                        clear hK K
                        simp only [List.setIfInBounds_toArray, List.set_cons_zero, List.set_cons_succ]
                        refine wpAnyH_ready (rs := [6]) (by kernel_rfl) (by simp) (AllReadyH.cons rfl (fun K hK => ?_) (AllReadyH.nil))
                        · skip
                          go_simp
                          refine (put_new c A0 n0 cap0 (textOf (a : Int)) (textOf (b : Int)) v _ d 0 HPM.out ((HP0.out.up HB6.out).up hS84) HN0.out HF0.out (text_le _) (text_le _) HV.out).mono ?_
                          rintro e W86 ⟨A89, n90, cp91, rfl, hn92, hp93, hb88, hc94⟩
                          refine hK.out _ _ (hS84.trans (hb88.mono hS84.size)) (fun hS87 => ?_)
                          clear hK K
                          simp only [List.setIfInBounds_toArray, List.set_cons_zero, List.set_cons_succ]
                          refine wpAnyH_take (i := 7) (v := .tuple #[.agg #[.int .i64 d.width, .int .i64 d.room, .slice A89 n90 cp91, .int .i64 d.hits, .int .i64 d.misses, .int .i64 d.clashes, .int .i64 d.evicted], .int .i64 0]) rfl (by kernel_rfl) (by kernel_rfl) (by kernel_rfl) (fun _ _ _ h => h) (Or.inl ⟨by rfl, fun w' hS' => by exact op_move rfl rfl⟩) hS87 ?_
                          change wpAnyH _ _ _ _ _ _ _ (Act.put _ (some 76) (.tuple #[.agg #[.int .i64 d.width, .int .i64 d.room, .slice A89 n90 cp91, .int .i64 d.hits, .int .i64 d.misses, .int .i64 d.clashes, .int .i64 d.evicted], .int .i64 0])) _
                          simp only [Act.put, List.setIfInBounds_toArray, List.set_cons_zero, List.set_cons_succ]
                          refine wpAnyH_take (i := 8) (v := .agg #[.int .i64 d.width, .int .i64 d.room, .slice A89 n90 cp91, .int .i64 d.hits, .int .i64 d.misses, .int .i64 d.clashes, .int .i64 d.evicted]) rfl (by kernel_rfl) (by kernel_rfl) (by kernel_rfl) (fun _ _ _ h => h) (Or.inl ⟨by rfl, fun w' hS' => by go_simp⟩) hS87 ?_
                          change wpAnyH _ _ _ _ _ _ _ (Act.put _ (some 84) (.agg #[.int .i64 d.width, .int .i64 d.room, .slice A89 n90 cp91, .int .i64 d.hits, .int .i64 d.misses, .int .i64 d.clashes, .int .i64 d.evicted])) _
                          simp only [Act.put, List.setIfInBounds_toArray, List.set_cons_zero, List.set_cons_succ]
                          refine wpAnyH_take (i := 9) (v := .int .i64 0) rfl (by kernel_rfl) (by kernel_rfl) (by kernel_rfl) (fun _ _ _ h => h) (Or.inl ⟨by rfl, fun w' hS' => by go_simp⟩) hS87 ?_
                          change wpAnyH _ _ _ _ _ _ _ (Act.put _ (some 85) (.int .i64 0)) _
                          simp only [Act.put, List.setIfInBounds_toArray, List.set_cons_zero, List.set_cons_succ]
                          refine wpAnyH_ready (rs := [11]) (by kernel_rfl) (by simp) (AllReadyH.cons rfl (fun K hK => ?_) (AllReadyH.nil))
                          · skip
                            obtain ⟨W95, hr97, hk98, hgr99⟩ := op_store7 (Blk.below (Blk.below (Blk.below hk78 hb82 hk78.lt) hb85 (Blk.below hk78 hb82 hk78.lt).lt) hb88 (Blk.below (Blk.below hk78 hb82 hk78.lt) hb85 (Blk.below hk78 hb82 hk78.lt).lt).lt) (d.width) (d.room) A89 n90 cp91 (d.hits) (d.misses) (d.clashes) (d.evicted)
                            refine step_op_skip (hr97 _ _ _ _ rfl rfl rfl) rfl ?_
                            refine hK.out _ _ (hS87.grown hgr99 hS87.size (fun b e => by injection e with e; rw [← e]; exact Nat.le_trans (hS0).size hg79)) (fun hS96 => ?_)
                            clear hK K
                            change wpAnyH _ _ _ _ _ _ _ (Act.put _ none (undef)) _
                            simp only [Act.put]
                            refine wpAnyH_take (i := 12) (v := .int .i64 0) rfl (by kernel_rfl) (by kernel_rfl) (by kernel_rfl) (fun _ _ _ h => h) (Or.inl ⟨by rfl, fun w' hS' => by exact op_assign rfl rfl⟩) hS96 ?_
                            change wpAnyH _ _ _ _ _ _ _ (Act.put _ (some 16) (.int .i64 0)) _
                            simp only [Act.put, List.setIfInBounds_toArray, List.set_cons_zero, List.set_cons_succ]
                            refine wpAnyH_done (by kernel_rfl) ?_ _
                            refine NoPanic.normal ?_
                            go_wp2_with fail
                            go_meet
                            exact ⟨gs74, A89, n90, cp91, rfl, rfl, hk98, (hp93.kept hgr99 (((Blk.below (Blk.below hk78 hb82 hk78.lt) hb85 (Blk.below hk78 hb82 hk78.lt).lt)).lt)).less (fun _ hb => Nat.lt_of_lt_of_le hb (hS84).size), hn92, hc94, hS96, Nat.le_trans (hS0).size hg79⟩
                case rest =>
                  obtain ⟨g6, A6, n6, c6, rfl, rfl, hbs, hp6, hn6, hc6, hbw, hge⟩ := hcut
                  obtain ⟨w7, rfl⟩ : ∃ w7, w7 = wc := ⟨_, rfl⟩
                  have HB7 := Lib.hid (below_step HB6.out hbw)
                  have HB6s := Lib.hid hbs
                  have HP6 := Lib.hid hp6
                  have HN6 := Lib.hid hn6
                  have HC66 := Lib.hid hc6
                  have HB0c := Lib.hid (Blk.below HB0.out HB7.out HB0.out.lt)
                  have HLc := Lib.hid (Blk.below HL0.out HB7.out HL0.out.lt)
                  have HW7 : Hid (Below w2.heap.size w2 w7) := Lib.hid (below_step HI.out.1 HB7.out)
                  have HG6 : Hid (g0 < w6.heap.size) := Lib.hid (Nat.lt_of_lt_of_le HB0.out.lt HB6.out.size)
                  have HGL6 : Hid (gl < w6.heap.size) := Lib.hid (Nat.lt_of_lt_of_le HL0.out.lt HB6.out.size)
                  have HGN : Hid (g6 ≠ g0) := Lib.hid (by have := HG6.out; omega)
                  clear hbs hp6 hn6 hc6 hbw hge
                  have HBS := HB6s
                  have HBC := HB0c
                  have HLX := HLc
                  have HWX := HW7
                  have HPX := HP6
                  have hne : g6 ≠ g0 := HGN.out
                  obtain ⟨x0, x1, x2, x3, x4, x5, x6⟩ := box7 HBS.out (Below.refl _ _)
                  obtain ⟨y0, y1, y2, y3, y4, y5, y6⟩ := box7 HBC.out (Below.refl _ _)
                  have q0 := Blk.frozen HBC.out 0
                  have q1 := Blk.frozen HBC.out 1
                  have q2 := Blk.frozen HBC.out 2
                  have q3 := Blk.frozen HBC.out 3
                  have q4 := Blk.frozen HBC.out 4
                  have q5 := Blk.frozen HBC.out 5
                  have q6 := Blk.frozen HBC.out 6
                  have hl0 := HBC.out.lt
                  have HS7 := Lib.hid (set7 HBC.out d.width d.room A6 n6 c6 d.hits d.misses d.clashes d.evicted)
                  have HB9 := Lib.hid HS7.out.1
                  have HW9 := Lib.hid (HWX.out.grown HS7.out.2 HWX.out.size (fun b e => by injection e with e; rw [← e]; exact HG.out.1))
                  have HP9 := Lib.hid ((HPX.out.kept HS7.out.2 (show g0 < w6.heap.size from HG6.out)).less (fun b hb => hb.elim (fun e => by rw [e]; exact HG6.out) (fun e => by rw [e]; exact HGL6.out)) : PartsAt (fun b => b = g0 ∨ b = gl) _ A6 d.parts)
                  have HL9 := Lib.hid (Blk.grown HLX.out HS7.out.2 (fun e => HG.out.2.2 (Option.some.inj e)))
                  clear HS7
                  go_upto_region 17 with (fail)
                  obtain ⟨w8, hw8⟩ : ∃ w8, w8 = ((((((w7.setCell ⟨g0, 0, none⟩ (.int .i64 d.width)).setCell ⟨g0, 1, none⟩ (.int .i64 d.room)).setCell ⟨g0, 2, none⟩ (.slice A6 n6 c6)).setCell ⟨g0, 3, none⟩ (.int .i64 d.hits)).setCell ⟨g0, 4, none⟩ (.int .i64 d.misses)).setCell ⟨g0, 5, none⟩ (.int .i64 d.clashes)).setCell ⟨g0, 6, none⟩ (.int .i64 d.evicted) := ⟨_, rfl⟩
                  rw [← hw8] at HB9 HW9 HP9 HL9 ⊢
                  clear hw8 x0 x1 x2 x3 x4 x5 x6 y0 y1 y2 y3 y4 y5 y6 q0 q1 q2 q3 q4 q5 q6
                  obtain ⟨vo, hvo⟩ : ∃ vo, ls[a * 6 + b]? = some vo := ⟨_, Array.getElem?_eq_getElem (by have := HAB.out; rw [HLL.out.1]; omega)⟩
                  have zl := (Blk.cell HL9.out (a * 6 + b)).trans hvo
                  have ql := Blk.frozen HL9.out (a * 6 + b)
                  have hll := HL9.out.lt
                  have hb9 := Blk.far HB9.out (fun e => HG.out.2.2 e.symm) (p := ⟨gl, a * 6 + b, none⟩) (.string v)
                  have hw9 := HW9.out.setCell (p := ⟨gl, a * 6 + b, none⟩) HG.out.2.1 (.string v)
                  have hp9 := HP9.out.kept (grown_set w8 gl (a * 6 + b) (.string v)) (.inr rfl)
                  have hl9 := Blk.set_ HL9.out (a * 6 + b) (.string v)
                  have HB9b := Lib.hid hb9
                  have HW9b := Lib.hid hw9
                  have HP9b := Lib.hid hp9
                  have HL9b := Lib.hid hl9
                  clear hvo hb9 hw9 hp9 hl9 HB9 HW9 HP9 HL9
                  go_upto_region 22 with (fail)
                  obtain ⟨w9, hw9⟩ : ∃ w9, w9 = w8.setCell ⟨gl, a * 6 + b, none⟩ (.string v) := ⟨_, rfl⟩
                  rw [← hw9] at HB9b HW9b HP9b HL9b ⊢
                  have HB9 := HB9b
                  have HW9 := HW9b
                  have HP9 := HP9b
                  have HL9 := HL9b
                  clear hw9 zl ql hll HB9b HW9b HP9b HL9b
                  go_wp2_with fail
                  go_meet
                  exact ⟨d, setT T a b v, _, HLS2.out, HGD.out, HROOM.out, HLL.out.set_ HAB.out.1 HAB.out.2 v, HW9.out, ⟨A6, n6, c6, HB9.out, HP9.out, HN6.out, HC66.out⟩, HL9.out⟩
              | false =>
                obtain ⟨s, d, e0, hgm⟩ : ∃ s d e, getC c (textOf (a : Int)) (textOf (b : Int)) = (s, d, e) := ⟨_, _, _, rfl⟩
                have HGM := Lib.hid hgm
                have hcase := HLS.out.got HGC.out.right HAB.out.1 HAB.out.2 hgm
                have HLS2 : Hid (Lst d T) := Lib.hid (by have := HLS.out.get HGC.out.right (textOf (a : Int)) (textOf (b : Int)); rw [hgm] at this; exact this)
                have HGD : Hid (Good d (k + 1)) := Lib.hid (by have := (HGC.out.get (textOf (a : Int)) (textOf (b : Int))).mono (show k ≤ k + 1 by omega); rw [hgm] at this; exact this)
                have HROOM : Hid (d.room = q1) := Lib.hid (by have := get_room c (textOf (a : Int)) (textOf (b : Int)) HGC.out.right; rw [hgm] at this; exact this.trans HRM.out)
                obtain ⟨sc, hsc⟩ : ∃ n, sizeC c = n := ⟨_, rfl⟩
                have HSC := Lib.hid hsc
                have HSD : Hid (sizeC d = sc) := Lib.hid (by have := size_get HGC.out.right (textOf (a : Int)) (textOf (b : Int)); rw [hgm] at this; exact this.trans hsc)
                have HF6 := Lib.hid (HGD.out.fit (by omega))
                have HCASE := Lib.hid hcase
                clear hgm hcase hsc
                go_wp2_with fail
                go_cut [17, 18, 19] (fun s17 s18 s19 wx => GetCut w6 s d e0 s17 s18 s19 wx)
                case first =>
                  refine wp_region_noPanic ?_
                  refine wp_region_held_drew (S := fun W => Below w6.heap.size w6 W) (by kernel_rfl) ((Below.refl w6.heap.size w6).drew) (fun hS0 => ?_)
                  change wpAnyH _ _ _ _ _ 14 #[false, false, false, false, false, false, false, false, false, false, false, false, false, false] _ (World.drew _)
                  refine wpAnyH_take (i := 0) (v := .agg #[.int .i64 c.width, .int .i64 c.room, .slice A0 n0 cap0, .int .i64 c.hits, .int .i64 c.misses, .int .i64 c.clashes, .int .i64 c.evicted]) rfl (by kernel_rfl) (by kernel_rfl) (by kernel_rfl) (fun _ _ _ h => h) (Or.inl ⟨by rfl, fun w' hS' => by obtain ⟨y0, y1, y2, y3, y4, y5, y6⟩ := HC0.out _ hS'; go_simp⟩) hS0 ?_
                  change wpAnyH _ _ _ _ _ _ _ (Act.put _ (some 95) (.agg #[.int .i64 c.width, .int .i64 c.room, .slice A0 n0 cap0, .int .i64 c.hits, .int .i64 c.misses, .int .i64 c.clashes, .int .i64 c.evicted])) _
                  simp only [Act.put, List.setIfInBounds_toArray, List.set_cons_zero, List.set_cons_succ]
                  refine wpAnyH_take (i := 1) (v := .int .i64 (a : Int)) rfl (by kernel_rfl) (by kernel_rfl) (by kernel_rfl) (fun _ _ _ h => h) (Or.inl ⟨by rfl, fun w' hS' => by exact op_move rfl rfl⟩) hS0 ?_
                  change wpAnyH _ _ _ _ _ _ _ (Act.put _ (some 96) (.int .i64 (a : Int))) _
                  simp only [Act.put, List.setIfInBounds_toArray, List.set_cons_zero, List.set_cons_succ]
                  refine wpAnyH_take (i := 3) (v := .int .i64 (b : Int)) rfl (by kernel_rfl) (by kernel_rfl) (by kernel_rfl) (fun _ _ _ h => h) (Or.inl ⟨by rfl, fun w' hS' => by exact op_move rfl rfl⟩) hS0 ?_
                  change wpAnyH _ _ _ _ _ _ _ (Act.put _ (some 98) (.int .i64 (b : Int))) _
                  simp only [Act.put, List.setIfInBounds_toArray, List.set_cons_zero, List.set_cons_succ]
                  refine wpAnyH_ready (rs := [2, 10]) (by kernel_rfl) (by simp) (AllReadyH.cons rfl (fun K hK => ?_) (AllReadyH.cons rfl (fun K hK => ?_) (AllReadyH.nil)))
                  · skip
                    go_simp
                    refine (text_any (a : Int) _ HIA.out).mono ?_
                    rintro e W1 ⟨rfl, hb3⟩
                    refine hK.out _ _ (hS0.trans (hb3.mono hS0.size)) (fun hS2 => ?_)
                    clear hK K
                    simp only [List.setIfInBounds_toArray, List.set_cons_zero, List.set_cons_succ]
                    refine wpAnyH_ready (rs := [4, 10]) (by kernel_rfl) (by simp) (AllReadyH.cons rfl (fun K hK => ?_) (AllReadyH.cons rfl (fun K hK => ?_) (AllReadyH.nil)))
                    · skip
                      go_simp
                      refine (text_any (b : Int) _ HIB.out).mono ?_
                      rintro e W4 ⟨rfl, hb6⟩
                      refine hK.out _ _ (hS2.trans (hb6.mono hS2.size)) (fun hS5 => ?_)
                      clear hK K
                      simp only [List.setIfInBounds_toArray, List.set_cons_zero, List.set_cons_succ]
                      refine wpAnyH_ready (rs := [5, 10]) (by kernel_rfl) (by simp) (AllReadyH.cons rfl (fun K hK => ?_) (AllReadyH.cons rfl (fun K hK => ?_) (AllReadyH.nil)))
                      · skip
                        go_simp
                        refine (get_new c A0 n0 cap0 (textOf (a : Int)) (textOf (b : Int)) _ s d e0 HGM.out ((HP0.out.up HB6.out).up hS5) HN0.out HF0.out (text_le _) (text_le _)).mono ?_
                        rintro e W7 ⟨A10, n11, cp12, rfl, hn13, hp14, hb9, hc15⟩
                        refine hK.out _ _ (hS5.trans (hb9.mono hS5.size)) (fun hS8 => ?_)
                        clear hK K
                        simp only [List.setIfInBounds_toArray, List.set_cons_zero, List.set_cons_succ]
                        refine wpAnyH_take (i := 6) (v := .tuple #[.string s, .agg #[.int .i64 d.width, .int .i64 d.room, .slice A10 n11 cp12, .int .i64 d.hits, .int .i64 d.misses, .int .i64 d.clashes, .int .i64 d.evicted], .int .i64 e0]) rfl (by kernel_rfl) (by kernel_rfl) (by kernel_rfl) (fun _ _ _ h => h) (Or.inl ⟨by rfl, fun w' hS' => by exact op_move rfl rfl⟩) hS8 ?_
                        change wpAnyH _ _ _ _ _ _ _ (Act.put _ (some 94) (.tuple #[.string s, .agg #[.int .i64 d.width, .int .i64 d.room, .slice A10 n11 cp12, .int .i64 d.hits, .int .i64 d.misses, .int .i64 d.clashes, .int .i64 d.evicted], .int .i64 e0])) _
                        simp only [Act.put, List.setIfInBounds_toArray, List.set_cons_zero, List.set_cons_succ]
                        refine wpAnyH_take (i := 7) (v := .string s) rfl (by kernel_rfl) (by kernel_rfl) (by kernel_rfl) (fun _ _ _ h => h) (Or.inl ⟨by rfl, fun w' hS' => by go_simp⟩) hS8 ?_
                        change wpAnyH _ _ _ _ _ _ _ (Act.put _ (some 101) (.string s)) _
                        simp only [Act.put, List.setIfInBounds_toArray, List.set_cons_zero, List.set_cons_succ]
                        refine wpAnyH_take (i := 8) (v := .agg #[.int .i64 d.width, .int .i64 d.room, .slice A10 n11 cp12, .int .i64 d.hits, .int .i64 d.misses, .int .i64 d.clashes, .int .i64 d.evicted]) rfl (by kernel_rfl) (by kernel_rfl) (by kernel_rfl) (fun _ _ _ h => h) (Or.inl ⟨by rfl, fun w' hS' => by go_simp⟩) hS8 ?_
                        change wpAnyH _ _ _ _ _ _ _ (Act.put _ (some 102) (.agg #[.int .i64 d.width, .int .i64 d.room, .slice A10 n11 cp12, .int .i64 d.hits, .int .i64 d.misses, .int .i64 d.clashes, .int .i64 d.evicted])) _
                        simp only [Act.put, List.setIfInBounds_toArray, List.set_cons_zero, List.set_cons_succ]
                        refine wpAnyH_take (i := 9) (v := .int .i64 e0) rfl (by kernel_rfl) (by kernel_rfl) (by kernel_rfl) (fun _ _ _ h => h) (Or.inl ⟨by rfl, fun w' hS' => by go_simp⟩) hS8 ?_
                        change wpAnyH _ _ _ _ _ _ _ (Act.put _ (some 103) (.int .i64 e0)) _
                        simp only [Act.put, List.setIfInBounds_toArray, List.set_cons_zero, List.set_cons_succ]
                        refine wpAnyH_ready (rs := [10]) (by kernel_rfl) (by simp) (AllReadyH.cons rfl (fun K hK => ?_) (AllReadyH.nil))
                        · skip
                          obtain ⟨gs17, W16, hr20, hk21, hb19, hg22⟩ := op_allocC W7
                          refine step_op_run (hr20 _ _ rfl) rfl ?_
                          refine hK.out _ _ (hS8.trans (hb19.mono hS8.size)) (fun hS18 => ?_)
                          clear hK K
                          change wpAnyH _ _ _ _ _ _ _ (Act.put _ (some 18) (.pointer (some ⟨gs17, 0, none⟩))) _
                          simp only [Act.put, List.setIfInBounds_toArray, List.set_cons_zero, List.set_cons_succ]
                          refine wpAnyH_take (i := 11) (v := .string s) rfl (by kernel_rfl) (by kernel_rfl) (by kernel_rfl) (fun _ _ _ h => h) (Or.inl ⟨by rfl, fun w' hS' => by exact op_assign rfl rfl⟩) hS18 ?_
                          change wpAnyH _ _ _ _ _ _ _ (Act.put _ (some 17) (.string s)) _
                          simp only [Act.put, List.setIfInBounds_toArray, List.set_cons_zero, List.set_cons_succ]
                          refine wpAnyH_ready (rs := [12]) (by kernel_rfl) (by simp) (AllReadyH.cons rfl (fun K hK => ?_) (AllReadyH.nil))
                          · skip
                            obtain ⟨W23, hr25, hk26, hgr27⟩ := op_store7 hk21 (d.width) (d.room) A10 n11 cp12 (d.hits) (d.misses) (d.clashes) (d.evicted)
                            refine step_op_skip (hr25 _ _ _ _ rfl rfl rfl) rfl ?_
                            refine hK.out _ _ (hS18.grown hgr27 hS18.size (fun b e => by injection e with e; rw [← e]; exact Nat.le_trans (hS8).size hg22)) (fun hS24 => ?_)
                            clear hK K
                            change wpAnyH _ _ _ _ _ _ _ (Act.put _ none (undef)) _
                            simp only [Act.put]
                            refine wpAnyH_take (i := 13) (v := .int .i64 e0) rfl (by kernel_rfl) (by kernel_rfl) (by kernel_rfl) (fun _ _ _ h => h) (Or.inl ⟨by rfl, fun w' hS' => by exact op_assign rfl rfl⟩) hS24 ?_
                            change wpAnyH _ _ _ _ _ _ _ (Act.put _ (some 19) (.int .i64 e0)) _
                            simp only [Act.put, List.setIfInBounds_toArray, List.set_cons_zero, List.set_cons_succ]
                            refine wpAnyH_done (by kernel_rfl) ?_ _
                            refine NoPanic.normal ?_
                            go_wp2_with fail
                            go_meet
                            exact ⟨gs17, A10, n11, cp12, rfl, rfl, rfl, hk26, (((hp14.add hg22).up hb19).kept hgr27 (Or.inr rfl)).less (fun _ hb => .inl (Nat.lt_of_lt_of_le hb (hS5).size)), hn13, hc15, hS24, Nat.le_trans (hS8).size hg22⟩
                      · skip
                        obtain ⟨gs29, W28, hr32, hk33, hb31, hg34⟩ := op_allocC W4
                        refine step_op_run (hr32 _ _ rfl) rfl ?_
                        refine hK.out _ _ (hS5.trans (hb31.mono hS5.size)) (fun hS30 => ?_)
                        clear hK K
                        change wpAnyH _ _ _ _ _ _ _ (Act.put _ (some 18) (.pointer (some ⟨gs29, 0, none⟩))) _
                        simp only [Act.put, List.setIfInBounds_toArray, List.set_cons_zero, List.set_cons_succ]
                        refine wpAnyH_ready (rs := [5]) (by kernel_rfl) (by simp) (AllReadyH.cons rfl (fun K hK => ?_) (AllReadyH.nil))
                        · skip
                          go_simp
                          refine (get_new c A0 n0 cap0 (textOf (a : Int)) (textOf (b : Int)) _ s d e0 HGM.out ((HP0.out.up HB6.out).up hS30) HN0.out HF0.out (text_le _) (text_le _)).mono ?_
                          rintro e W35 ⟨A38, n39, cp40, rfl, hn41, hp42, hb37, hc43⟩
                          refine hK.out _ _ (hS30.trans (hb37.mono hS30.size)) (fun hS36 => ?_)
                          clear hK K
                          simp only [List.setIfInBounds_toArray, List.set_cons_zero, List.set_cons_succ]
                          refine wpAnyH_take (i := 6) (v := .tuple #[.string s, .agg #[.int .i64 d.width, .int .i64 d.room, .slice A38 n39 cp40, .int .i64 d.hits, .int .i64 d.misses, .int .i64 d.clashes, .int .i64 d.evicted], .int .i64 e0]) rfl (by kernel_rfl) (by kernel_rfl) (by kernel_rfl) (fun _ _ _ h => h) (Or.inl ⟨by rfl, fun w' hS' => by exact op_move rfl rfl⟩) hS36 ?_
                          change wpAnyH _ _ _ _ _ _ _ (Act.put _ (some 94) (.tuple #[.string s, .agg #[.int .i64 d.width, .int .i64 d.room, .slice A38 n39 cp40, .int .i64 d.hits, .int .i64 d.misses, .int .i64 d.clashes, .int .i64 d.evicted], .int .i64 e0])) _
                          simp only [Act.put, List.setIfInBounds_toArray, List.set_cons_zero, List.set_cons_succ]
                          refine wpAnyH_take (i := 7) (v := .string s) rfl (by kernel_rfl) (by kernel_rfl) (by kernel_rfl) (fun _ _ _ h => h) (Or.inl ⟨by rfl, fun w' hS' => by go_simp⟩) hS36 ?_
                          change wpAnyH _ _ _ _ _ _ _ (Act.put _ (some 101) (.string s)) _
                          simp only [Act.put, List.setIfInBounds_toArray, List.set_cons_zero, List.set_cons_succ]
                          refine wpAnyH_take (i := 8) (v := .agg #[.int .i64 d.width, .int .i64 d.room, .slice A38 n39 cp40, .int .i64 d.hits, .int .i64 d.misses, .int .i64 d.clashes, .int .i64 d.evicted]) rfl (by kernel_rfl) (by kernel_rfl) (by kernel_rfl) (fun _ _ _ h => h) (Or.inl ⟨by rfl, fun w' hS' => by go_simp⟩) hS36 ?_
                          change wpAnyH _ _ _ _ _ _ _ (Act.put _ (some 102) (.agg #[.int .i64 d.width, .int .i64 d.room, .slice A38 n39 cp40, .int .i64 d.hits, .int .i64 d.misses, .int .i64 d.clashes, .int .i64 d.evicted])) _
                          simp only [Act.put, List.setIfInBounds_toArray, List.set_cons_zero, List.set_cons_succ]
                          refine wpAnyH_take (i := 9) (v := .int .i64 e0) rfl (by kernel_rfl) (by kernel_rfl) (by kernel_rfl) (fun _ _ _ h => h) (Or.inl ⟨by rfl, fun w' hS' => by go_simp⟩) hS36 ?_
                          change wpAnyH _ _ _ _ _ _ _ (Act.put _ (some 103) (.int .i64 e0)) _
                          simp only [Act.put, List.setIfInBounds_toArray, List.set_cons_zero, List.set_cons_succ]
                          refine wpAnyH_take (i := 11) (v := .string s) rfl (by kernel_rfl) (by kernel_rfl) (by kernel_rfl) (fun _ _ _ h => h) (Or.inl ⟨by rfl, fun w' hS' => by exact op_assign rfl rfl⟩) hS36 ?_
                          change wpAnyH _ _ _ _ _ _ _ (Act.put _ (some 17) (.string s)) _
                          simp only [Act.put, List.setIfInBounds_toArray, List.set_cons_zero, List.set_cons_succ]
                          refine wpAnyH_ready (rs := [12]) (by kernel_rfl) (by simp) (AllReadyH.cons rfl (fun K hK => ?_) (AllReadyH.nil))
                          · skip
                            obtain ⟨W44, hr46, hk47, hgr48⟩ := op_store7 (Blk.below hk33 hb37 hk33.lt) (d.width) (d.room) A38 n39 cp40 (d.hits) (d.misses) (d.clashes) (d.evicted)
                            refine step_op_skip (hr46 _ _ _ _ rfl rfl rfl) rfl ?_
                            refine hK.out _ _ (hS36.grown hgr48 hS36.size (fun b e => by injection e with e; rw [← e]; exact Nat.le_trans (hS5).size hg34)) (fun hS45 => ?_)
                            clear hK K
                            change wpAnyH _ _ _ _ _ _ _ (Act.put _ none (undef)) _
                            simp only [Act.put]
                            refine wpAnyH_take (i := 13) (v := .int .i64 e0) rfl (by kernel_rfl) (by kernel_rfl) (by kernel_rfl) (fun _ _ _ h => h) (Or.inl ⟨by rfl, fun w' hS' => by exact op_assign rfl rfl⟩) hS45 ?_
                            change wpAnyH _ _ _ _ _ _ _ (Act.put _ (some 19) (.int .i64 e0)) _
                            simp only [Act.put, List.setIfInBounds_toArray, List.set_cons_zero, List.set_cons_succ]
                            refine wpAnyH_done (by kernel_rfl) ?_ _
                            refine NoPanic.normal ?_
                            go_wp2_with fail
                            go_meet
                            exact ⟨gs29, A38, n39, cp40, rfl, rfl, rfl, hk47, (hp42.kept hgr48 ((hk33).lt)).less (fun _ hb => Nat.lt_of_lt_of_le hb (hS30).size), hn41, hc43, hS45, Nat.le_trans (hS5).size hg34⟩
                    · skip
                      obtain ⟨gs50, W49, hr53, hk54, hb52, hg55⟩ := op_allocC W1
                      refine step_op_run (hr53 _ _ rfl) rfl ?_
                      refine hK.out _ _ (hS2.trans (hb52.mono hS2.size)) (fun hS51 => ?_)
                      clear hK K
                      change wpAnyH _ _ _ _ _ _ _ (Act.put _ (some 18) (.pointer (some ⟨gs50, 0, none⟩))) _
                      simp only [Act.put, List.setIfInBounds_toArray, List.set_cons_zero, List.set_cons_succ]
                      refine wpAnyH_ready (rs := [4]) (by kernel_rfl) (by simp) (AllReadyH.cons rfl (fun K hK => ?_) (AllReadyH.nil))
                      · skip
                        go_simp
                        refine (text_any (b : Int) _ HIB.out).mono ?_
                        rintro e W56 ⟨rfl, hb58⟩
                        refine hK.out _ _ (hS51.trans (hb58.mono hS51.size)) (fun hS57 => ?_)
                        clear hK K
                        simp only [List.setIfInBounds_toArray, List.set_cons_zero, List.set_cons_succ]
                        refine wpAnyH_ready (rs := [5]) (by kernel_rfl) (by simp) (AllReadyH.cons rfl (fun K hK => ?_) (AllReadyH.nil))
                        · skip
                          go_simp
                          refine (get_new c A0 n0 cap0 (textOf (a : Int)) (textOf (b : Int)) _ s d e0 HGM.out ((HP0.out.up HB6.out).up hS57) HN0.out HF0.out (text_le _) (text_le _)).mono ?_
                          rintro e W59 ⟨A62, n63, cp64, rfl, hn65, hp66, hb61, hc67⟩
                          refine hK.out _ _ (hS57.trans (hb61.mono hS57.size)) (fun hS60 => ?_)
                          clear hK K
                          simp only [List.setIfInBounds_toArray, List.set_cons_zero, List.set_cons_succ]
                          refine wpAnyH_take (i := 6) (v := .tuple #[.string s, .agg #[.int .i64 d.width, .int .i64 d.room, .slice A62 n63 cp64, .int .i64 d.hits, .int .i64 d.misses, .int .i64 d.clashes, .int .i64 d.evicted], .int .i64 e0]) rfl (by kernel_rfl) (by kernel_rfl) (by kernel_rfl) (fun _ _ _ h => h) (Or.inl ⟨by rfl, fun w' hS' => by exact op_move rfl rfl⟩) hS60 ?_
                          change wpAnyH _ _ _ _ _ _ _ (Act.put _ (some 94) (.tuple #[.string s, .agg #[.int .i64 d.width, .int .i64 d.room, .slice A62 n63 cp64, .int .i64 d.hits, .int .i64 d.misses, .int .i64 d.clashes, .int .i64 d.evicted], .int .i64 e0])) _
                          simp only [Act.put, List.setIfInBounds_toArray, List.set_cons_zero, List.set_cons_succ]
                          refine wpAnyH_take (i := 7) (v := .string s) rfl (by kernel_rfl) (by kernel_rfl) (by kernel_rfl) (fun _ _ _ h => h) (Or.inl ⟨by rfl, fun w' hS' => by go_simp⟩) hS60 ?_
                          change wpAnyH _ _ _ _ _ _ _ (Act.put _ (some 101) (.string s)) _
                          simp only [Act.put, List.setIfInBounds_toArray, List.set_cons_zero, List.set_cons_succ]
                          refine wpAnyH_take (i := 8) (v := .agg #[.int .i64 d.width, .int .i64 d.room, .slice A62 n63 cp64, .int .i64 d.hits, .int .i64 d.misses, .int .i64 d.clashes, .int .i64 d.evicted]) rfl (by kernel_rfl) (by kernel_rfl) (by kernel_rfl) (fun _ _ _ h => h) (Or.inl ⟨by rfl, fun w' hS' => by go_simp⟩) hS60 ?_
                          change wpAnyH _ _ _ _ _ _ _ (Act.put _ (some 102) (.agg #[.int .i64 d.width, .int .i64 d.room, .slice A62 n63 cp64, .int .i64 d.hits, .int .i64 d.misses, .int .i64 d.clashes, .int .i64 d.evicted])) _
                          simp only [Act.put, List.setIfInBounds_toArray, List.set_cons_zero, List.set_cons_succ]
                          refine wpAnyH_take (i := 9) (v := .int .i64 e0) rfl (by kernel_rfl) (by kernel_rfl) (by kernel_rfl) (fun _ _ _ h => h) (Or.inl ⟨by rfl, fun w' hS' => by go_simp⟩) hS60 ?_
                          change wpAnyH _ _ _ _ _ _ _ (Act.put _ (some 103) (.int .i64 e0)) _
                          simp only [Act.put, List.setIfInBounds_toArray, List.set_cons_zero, List.set_cons_succ]
                          refine wpAnyH_take (i := 11) (v := .string s) rfl (by kernel_rfl) (by kernel_rfl) (by kernel_rfl) (fun _ _ _ h => h) (Or.inl ⟨by rfl, fun w' hS' => by exact op_assign rfl rfl⟩) hS60 ?_
                          change wpAnyH _ _ _ _ _ _ _ (Act.put _ (some 17) (.string s)) _
                          simp only [Act.put, List.setIfInBounds_toArray, List.set_cons_zero, List.set_cons_succ]
                          refine wpAnyH_ready (rs := [12]) (by kernel_rfl) (by simp) (AllReadyH.cons rfl (fun K hK => ?_) (AllReadyH.nil))
                          · skip
                            obtain ⟨W68, hr70, hk71, hgr72⟩ := op_store7 (Blk.below (Blk.below hk54 hb58 hk54.lt) hb61 (Blk.below hk54 hb58 hk54.lt).lt) (d.width) (d.room) A62 n63 cp64 (d.hits) (d.misses) (d.clashes) (d.evicted)
                            refine step_op_skip (hr70 _ _ _ _ rfl rfl rfl) rfl ?_
                            refine hK.out _ _ (hS60.grown hgr72 hS60.size (fun b e => by injection e with e; rw [← e]; exact Nat.le_trans (hS2).size hg55)) (fun hS69 => ?_)
                            clear hK K
                            change wpAnyH _ _ _ _ _ _ _ (Act.put _ none (undef)) _
                            simp only [Act.put]
                            refine wpAnyH_take (i := 13) (v := .int .i64 e0) rfl (by kernel_rfl) (by kernel_rfl) (by kernel_rfl) (fun _ _ _ h => h) (Or.inl ⟨by rfl, fun w' hS' => by exact op_assign rfl rfl⟩) hS69 ?_
                            change wpAnyH _ _ _ _ _ _ _ (Act.put _ (some 19) (.int .i64 e0)) _
                            simp only [Act.put, List.setIfInBounds_toArray, List.set_cons_zero, List.set_cons_succ]
                            refine wpAnyH_done (by kernel_rfl) ?_ _
                            refine NoPanic.normal ?_
                            go_wp2_with fail
                            go_meet
                            exact ⟨gs50, A62, n63, cp64, rfl, rfl, rfl, hk71, (hp66.kept hgr72 (((Blk.below hk54 hb58 hk54.lt)).lt)).less (fun _ hb => Nat.lt_of_lt_of_le hb (hS57).size), hn65, hc67, hS69, Nat.le_trans (hS2).size hg55⟩
                  · skip
                    obtain ⟨gs74, W73, hr77, hk78, hb76, hg79⟩ := op_allocC w6.drew
                    refine step_op_run (hr77 _ _ rfl) rfl ?_
                    refine hK.out _ _ (hS0.trans (hb76.mono hS0.size)) (fun hS75 => ?_)
                    clear hK K
                    change wpAnyH _ _ _ _ _ _ _ (Act.put _ (some 18) (.pointer (some ⟨gs74, 0, none⟩))) _
                    simp only [Act.put, List.setIfInBounds_toArray, List.set_cons_zero, List.set_cons_succ]
                    refine wpAnyH_ready (rs := [2]) (by kernel_rfl) (by simp) (AllReadyH.cons rfl (fun K hK => ?_) (AllReadyH.nil))
                    · skip
                      go_simp
                      refine (text_any (a : Int) _ HIA.out).mono ?_
                      rintro e W80 ⟨rfl, hb82⟩
                      refine hK.out _ _ (hS75.trans (hb82.mono hS75.size)) (fun hS81 => ?_)
                      clear hK K
                      simp only [List.setIfInBounds_toArray, List.set_cons_zero, List.set_cons_succ]
                      refine wpAnyH_ready (rs := [4]) (by kernel_rfl) (by simp) (AllReadyH.cons rfl (fun K hK => ?_) (AllReadyH.nil))
                      · skip
                        go_simp
                        refine (text_any (b : Int) _ HIB.out).mono ?_
                        rintro e W83 ⟨rfl, hb85⟩
                        refine hK.out _ _ (hS81.trans (hb85.mono hS81.size)) (fun hS84 => ?_)
                        clear hK K
                        simp only [List.setIfInBounds_toArray, List.set_cons_zero, List.set_cons_succ]
                        refine wpAnyH_ready (rs := [5]) (by kernel_rfl) (by simp) (AllReadyH.cons rfl (fun K hK => ?_) (AllReadyH.nil))
                        · skip
                          go_simp
                          refine (get_new c A0 n0 cap0 (textOf (a : Int)) (textOf (b : Int)) _ s d e0 HGM.out ((HP0.out.up HB6.out).up hS84) HN0.out HF0.out (text_le _) (text_le _)).mono ?_
                          rintro e W86 ⟨A89, n90, cp91, rfl, hn92, hp93, hb88, hc94⟩
                          refine hK.out _ _ (hS84.trans (hb88.mono hS84.size)) (fun hS87 => ?_)
                          clear hK K
                          simp only [List.setIfInBounds_toArray, List.set_cons_zero, List.set_cons_succ]
                          refine wpAnyH_take (i := 6) (v := .tuple #[.string s, .agg #[.int .i64 d.width, .int .i64 d.room, .slice A89 n90 cp91, .int .i64 d.hits, .int .i64 d.misses, .int .i64 d.clashes, .int .i64 d.evicted], .int .i64 e0]) rfl (by kernel_rfl) (by kernel_rfl) (by kernel_rfl) (fun _ _ _ h => h) (Or.inl ⟨by rfl, fun w' hS' => by exact op_move rfl rfl⟩) hS87 ?_
                          change wpAnyH _ _ _ _ _ _ _ (Act.put _ (some 94) (.tuple #[.string s, .agg #[.int .i64 d.width, .int .i64 d.room, .slice A89 n90 cp91, .int .i64 d.hits, .int .i64 d.misses, .int .i64 d.clashes, .int .i64 d.evicted], .int .i64 e0])) _
                          simp only [Act.put, List.setIfInBounds_toArray, List.set_cons_zero, List.set_cons_succ]
                          refine wpAnyH_take (i := 7) (v := .string s) rfl (by kernel_rfl) (by kernel_rfl) (by kernel_rfl) (fun _ _ _ h => h) (Or.inl ⟨by rfl, fun w' hS' => by go_simp⟩) hS87 ?_
                          change wpAnyH _ _ _ _ _ _ _ (Act.put _ (some 101) (.string s)) _
                          simp only [Act.put, List.setIfInBounds_toArray, List.set_cons_zero, List.set_cons_succ]
                          refine wpAnyH_take (i := 8) (v := .agg #[.int .i64 d.width, .int .i64 d.room, .slice A89 n90 cp91, .int .i64 d.hits, .int .i64 d.misses, .int .i64 d.clashes, .int .i64 d.evicted]) rfl (by kernel_rfl) (by kernel_rfl) (by kernel_rfl) (fun _ _ _ h => h) (Or.inl ⟨by rfl, fun w' hS' => by go_simp⟩) hS87 ?_
                          change wpAnyH _ _ _ _ _ _ _ (Act.put _ (some 102) (.agg #[.int .i64 d.width, .int .i64 d.room, .slice A89 n90 cp91, .int .i64 d.hits, .int .i64 d.misses, .int .i64 d.clashes, .int .i64 d.evicted])) _
                          simp only [Act.put, List.setIfInBounds_toArray, List.set_cons_zero, List.set_cons_succ]
                          refine wpAnyH_take (i := 9) (v := .int .i64 e0) rfl (by kernel_rfl) (by kernel_rfl) (by kernel_rfl) (fun _ _ _ h => h) (Or.inl ⟨by rfl, fun w' hS' => by go_simp⟩) hS87 ?_
                          change wpAnyH _ _ _ _ _ _ _ (Act.put _ (some 103) (.int .i64 e0)) _
                          simp only [Act.put, List.setIfInBounds_toArray, List.set_cons_zero, List.set_cons_succ]
                          refine wpAnyH_take (i := 11) (v := .string s) rfl (by kernel_rfl) (by kernel_rfl) (by kernel_rfl) (fun _ _ _ h => h) (Or.inl ⟨by rfl, fun w' hS' => by exact op_assign rfl rfl⟩) hS87 ?_
                          change wpAnyH _ _ _ _ _ _ _ (Act.put _ (some 17) (.string s)) _
                          simp only [Act.put, List.setIfInBounds_toArray, List.set_cons_zero, List.set_cons_succ]
                          refine wpAnyH_ready (rs := [12]) (by kernel_rfl) (by simp) (AllReadyH.cons rfl (fun K hK => ?_) (AllReadyH.nil))
                          · skip
                            obtain ⟨W95, hr97, hk98, hgr99⟩ := op_store7 (Blk.below (Blk.below (Blk.below hk78 hb82 hk78.lt) hb85 (Blk.below hk78 hb82 hk78.lt).lt) hb88 (Blk.below (Blk.below hk78 hb82 hk78.lt) hb85 (Blk.below hk78 hb82 hk78.lt).lt).lt) (d.width) (d.room) A89 n90 cp91 (d.hits) (d.misses) (d.clashes) (d.evicted)
                            refine step_op_skip (hr97 _ _ _ _ rfl rfl rfl) rfl ?_
                            refine hK.out _ _ (hS87.grown hgr99 hS87.size (fun b e => by injection e with e; rw [← e]; exact Nat.le_trans (hS0).size hg79)) (fun hS96 => ?_)
                            clear hK K
                            change wpAnyH _ _ _ _ _ _ _ (Act.put _ none (undef)) _
                            simp only [Act.put]
                            refine wpAnyH_take (i := 13) (v := .int .i64 e0) rfl (by kernel_rfl) (by kernel_rfl) (by kernel_rfl) (fun _ _ _ h => h) (Or.inl ⟨by rfl, fun w' hS' => by exact op_assign rfl rfl⟩) hS96 ?_
                            change wpAnyH _ _ _ _ _ _ _ (Act.put _ (some 19) (.int .i64 e0)) _
                            simp only [Act.put, List.setIfInBounds_toArray, List.set_cons_zero, List.set_cons_succ]
                            refine wpAnyH_done (by kernel_rfl) ?_ _
                            refine NoPanic.normal ?_
                            go_wp2_with fail
                            go_meet
                            exact ⟨gs74, A89, n90, cp91, rfl, rfl, rfl, hk98, (hp93.kept hgr99 (((Blk.below (Blk.below hk78 hb82 hk78.lt) hb85 (Blk.below hk78 hb82 hk78.lt).lt)).lt)).less (fun _ hb => Nat.lt_of_lt_of_le hb (hS84).size), hn92, hc94, hS96, Nat.le_trans (hS0).size hg79⟩
                case rest =>
                  obtain ⟨g6, A6, n6, c6, rfl, rfl, rfl, hbs, hp6, hn6, hc6, hbw, hge⟩ := hcut
                  obtain ⟨w7, rfl⟩ : ∃ w7, w7 = wc := ⟨_, rfl⟩
                  have HB7 := Lib.hid (below_step HB6.out hbw)
                  have HB6s := Lib.hid hbs
                  have HP6 := Lib.hid hp6
                  have HN6 := Lib.hid hn6
                  have HC66 := Lib.hid hc6
                  have HB0c := Lib.hid (Blk.below HB0.out HB7.out HB0.out.lt)
                  have HLc := Lib.hid (Blk.below HL0.out HB7.out HL0.out.lt)
                  have HW7 : Hid (Below w2.heap.size w2 w7) := Lib.hid (below_step HI.out.1 HB7.out)
                  have HG6 : Hid (g0 < w6.heap.size) := Lib.hid (Nat.lt_of_lt_of_le HB0.out.lt HB6.out.size)
                  have HGL6 : Hid (gl < w6.heap.size) := Lib.hid (Nat.lt_of_lt_of_le HL0.out.lt HB6.out.size)
                  have HGN : Hid (g6 ≠ g0) := Lib.hid (by have := HG6.out; omega)
                  clear hbs hp6 hn6 hc6 hbw hge
                  have HC6 : Hid (∀ W, Below w7.heap.size w7 W → W.cell? ⟨g6, 0, none⟩ = some (.int .i64 d.width) ∧ W.cell? ⟨g6, 1, none⟩ = some (.int .i64 d.room) ∧ W.cell? ⟨g6, 2, none⟩ = some (.slice A6 n6 c6) ∧ W.cell? ⟨g6, 3, none⟩ = some (.int .i64 d.hits) ∧ W.cell? ⟨g6, 4, none⟩ = some (.int .i64 d.misses) ∧ W.cell? ⟨g6, 5, none⟩ = some (.int .i64 d.clashes) ∧ W.cell? ⟨g6, 6, none⟩ = some (.int .i64 d.evicted)) := Lib.hid fun W hW => box7 HB6s.out hW
                  have HC7 : Hid (∀ W, Below w7.heap.size w7 W → W.cell? ⟨g0, 0, none⟩ = some (.int .i64 c.width) ∧ W.cell? ⟨g0, 1, none⟩ = some (.int .i64 c.room) ∧ W.cell? ⟨g0, 2, none⟩ = some (.slice A0 n0 cap0) ∧ W.cell? ⟨g0, 3, none⟩ = some (.int .i64 c.hits) ∧ W.cell? ⟨g0, 4, none⟩ = some (.int .i64 c.misses) ∧ W.cell? ⟨g0, 5, none⟩ = some (.int .i64 c.clashes) ∧ W.cell? ⟨g0, 6, none⟩ = some (.int .i64 c.evicted)) := Lib.hid fun W hW => box7 HB0c.out hW
                  rcases HCASE.out with ⟨rfl, hs, hs0⟩ | ⟨rfl, rfl⟩
                  · have HLC : Hid (∀ W, Below w7.heap.size w7 W → W.cell? ⟨gl, a * 6 + b, none⟩ = some (.string s)) := Lib.hid fun W hW => ((Blk.below HLc.out hW HLc.out.lt).cell _).trans (by rw [HLL.out.2 a b HAB.out.1 HAB.out.2, hs])
                    have hE1 : (s.toList == (⟨#[]⟩ : ByteArray).toList) = false := by rw [Bool.eq_false_iff]; intro h; exact hs0 (text_eq h)
                    have hE0 : (⟨#[]⟩ : ByteArray).toList = [] := by rw [Lib.toList_data]
                    have hE2 : (s.toList == []) = false := by rw [← hE0]; exact hE1
                    clear hs hs0 hE0
                    go_wp2_with fail
                    refine wp_region_noPanic ?_
                    refine wp_region_held_drew (S := fun W => Below w7.heap.size w7 W) (by kernel_rfl) ((Below.refl w7.heap.size w7).drew) (fun hS0 => ?_)
                    change wpAnyH _ _ _ _ _ 38 #[false, false, false, false, false, false, false, false, false, false, false, false, false, false, false, false, false, false, false, false, false, false, false, false, false, false, false, false, false, false, false, false, false, false, false, false, false, false] _ (World.drew _)
                    refine wpAnyH_take (i := 0) (v := .int .i64 0) rfl (by kernel_rfl) (by kernel_rfl) (by kernel_rfl) (fun _ _ _ h => h) (Or.inl ⟨by rfl, fun w' hS' => by exact op_move rfl rfl⟩) hS0 ?_
                    change wpAnyH _ _ _ _ _ _ _ (Act.put _ (some 104) (.int .i64 0)) _
                    simp only [Act.put, List.setIfInBounds_toArray, List.set_cons_zero, List.set_cons_succ]
                    refine wpAnyH_take (i := 1) (v := .bool false) rfl (by kernel_rfl) (by kernel_rfl) (by kernel_rfl) (fun _ _ _ h => h) (Or.inl ⟨by rfl, fun w' hS' => by go_simp⟩) hS0 ?_
                    change wpAnyH _ _ _ _ _ _ _ (Act.put _ (some 105) (.bool false)) _
                    simp only [Act.put, List.setIfInBounds_toArray, List.set_cons_zero, List.set_cons_succ]
                    refine wpAnyH_take (i := 2) (v := .bool false) rfl (by kernel_rfl) (by kernel_rfl) (by kernel_rfl) (fun _ _ _ h => h) (Or.inl ⟨by rfl, fun w' hS' => by exact op_move rfl rfl⟩) hS0 ?_
                    change wpAnyH _ _ _ _ _ _ _ (Act.put _ (some 106) (.bool false)) _
                    simp only [Act.put, List.setIfInBounds_toArray, List.set_cons_zero, List.set_cons_succ]
                    refine wpAnyH_take (i := 3) (v := undef) rfl (by kernel_rfl) (by kernel_rfl) (by kernel_rfl) (fun _ _ _ h => h) (Or.inr ⟨by rfl, rfl⟩) hS0 ?_
                    change wpAnyH _ _ _ _ _ _ _ (Act.put _ (some 107) (undef)) _
                    simp only [Act.put, List.setIfInBounds_toArray, List.set_cons_zero, List.set_cons_succ]
                    refine wpAnyH_take (i := 4) (v := undef) rfl (by kernel_rfl) (by kernel_rfl) (by kernel_rfl) (fun _ _ _ h => h) (Or.inr ⟨by rfl, rfl⟩) hS0 ?_
                    change wpAnyH _ _ _ _ _ _ _ (Act.put _ (some 108) (undef)) _
                    simp only [Act.put, List.setIfInBounds_toArray, List.set_cons_zero, List.set_cons_succ]
                    refine wpAnyH_take (i := 5) (v := .bool false) rfl (by kernel_rfl) (by kernel_rfl) (by kernel_rfl) (fun _ _ _ h => h) (Or.inl ⟨by rfl, fun w' hS' => by go_simp⟩) hS0 ?_
                    change wpAnyH _ _ _ _ _ _ _ (Act.put _ (some 109) (.bool false)) _
                    simp only [Act.put, List.setIfInBounds_toArray, List.set_cons_zero, List.set_cons_succ]
                    refine wpAnyH_take (i := 6) (v := .bool false) rfl (by kernel_rfl) (by kernel_rfl) (by kernel_rfl) (fun _ _ _ h => h) (Or.inl ⟨by rfl, fun w' hS' => by exact op_move rfl rfl⟩) hS0 ?_
                    change wpAnyH _ _ _ _ _ _ _ (Act.put _ (some 110) (.bool false)) _
                    simp only [Act.put, List.setIfInBounds_toArray, List.set_cons_zero, List.set_cons_succ]
                    refine wpAnyH_take (i := 7) (v := .int .i64 0) rfl (by kernel_rfl) (by kernel_rfl) (by kernel_rfl) (fun _ _ _ h => h) (Or.inl ⟨by rfl, fun w' hS' => by exact op_move rfl rfl⟩) hS0 ?_
                    change wpAnyH _ _ _ _ _ _ _ (Act.put _ (some 111) (.int .i64 0)) _
                    simp only [Act.put, List.setIfInBounds_toArray, List.set_cons_zero, List.set_cons_succ]
                    refine wpAnyH_take (i := 8) (v := .bool true) rfl (by kernel_rfl) (by kernel_rfl) (by kernel_rfl) (fun _ _ _ h => h) (Or.inl ⟨by rfl, fun w' hS' => by go_simp⟩) hS0 ?_
                    change wpAnyH _ _ _ _ _ _ _ (Act.put _ (some 112) (.bool true)) _
                    simp only [Act.put, List.setIfInBounds_toArray, List.set_cons_zero, List.set_cons_succ]
                    refine wpAnyH_take (i := 9) (v := .bool true) rfl (by kernel_rfl) (by kernel_rfl) (by kernel_rfl) (fun _ _ _ h => h) (Or.inl ⟨by rfl, fun w' hS' => by exact op_move rfl rfl⟩) hS0 ?_
                    change wpAnyH _ _ _ _ _ _ _ (Act.put _ (some 113) (.bool true)) _
                    simp only [Act.put, List.setIfInBounds_toArray, List.set_cons_zero, List.set_cons_succ]
                    refine wpAnyH_take (i := 10) (v := .string s) rfl (by kernel_rfl) (by kernel_rfl) (by kernel_rfl) (fun _ _ _ h => h) (Or.inl ⟨by rfl, fun w' hS' => by exact op_move rfl rfl⟩) hS0 ?_
                    change wpAnyH _ _ _ _ _ _ _ (Act.put _ (some 114) (.string s)) _
                    simp only [Act.put, List.setIfInBounds_toArray, List.set_cons_zero, List.set_cons_succ]
                    refine wpAnyH_take (i := 11) (v := .int .i64 (a : Int)) rfl (by kernel_rfl) (by kernel_rfl) (by kernel_rfl) (fun _ _ _ h => h) (Or.inl ⟨by rfl, fun w' hS' => by exact op_move rfl rfl⟩) hS0 ?_
                    change wpAnyH _ _ _ _ _ _ _ (Act.put _ (some 115) (.int .i64 (a : Int))) _
                    simp only [Act.put, List.setIfInBounds_toArray, List.set_cons_zero, List.set_cons_succ]
                    refine wpAnyH_take (i := 12) (v := .int .i64 (b : Int)) rfl (by kernel_rfl) (by kernel_rfl) (by kernel_rfl) (fun _ _ _ h => h) (Or.inl ⟨by rfl, fun w' hS' => by exact op_move rfl rfl⟩) hS0 ?_
                    change wpAnyH _ _ _ _ _ _ _ (Act.put _ (some 116) (.int .i64 (b : Int))) _
                    simp only [Act.put, List.setIfInBounds_toArray, List.set_cons_zero, List.set_cons_succ]
                    refine wpAnyH_take (i := 13) (v := .pointer (some ⟨gl, a * 6, none⟩)) rfl (by kernel_rfl) (by kernel_rfl) (by kernel_rfl) (fun _ _ _ h => h) (Or.inl ⟨by rfl, fun w' hS' => by have na : ¬ ((6 : Int) ≤ (a : Int)) := by { have := HAB.out.1; omega }; go_simp⟩) hS0 ?_
                    change wpAnyH _ _ _ _ _ _ _ (Act.put _ (some 117) (.pointer (some ⟨gl, a * 6, none⟩))) _
                    simp only [Act.put, List.setIfInBounds_toArray, List.set_cons_zero, List.set_cons_succ]
                    refine wpAnyH_take (i := 14) (v := .pointer (some ⟨gl, a * 6 + b, none⟩)) rfl (by kernel_rfl) (by kernel_rfl) (by kernel_rfl) (fun _ _ _ h => h) (Or.inl ⟨by rfl, fun w' hS' => by have nb : ¬ ((6 : Int) ≤ (b : Int)) := by { have := HAB.out.2; omega }; go_simp⟩) hS0 ?_
                    change wpAnyH _ _ _ _ _ _ _ (Act.put _ (some 118) (.pointer (some ⟨gl, a * 6 + b, none⟩))) _
                    simp only [Act.put, List.setIfInBounds_toArray, List.set_cons_zero, List.set_cons_succ]
                    refine wpAnyH_take (i := 15) (v := .string s) rfl (by kernel_rfl) (by kernel_rfl) (by kernel_rfl) (fun _ _ _ h => h) (Or.inl ⟨by rfl, fun w' hS' => by have hl1 := HLC.out _ hS'; go_simp⟩) hS0 ?_
                    change wpAnyH _ _ _ _ _ _ _ (Act.put _ (some 119) (.string s)) _
                    simp only [Act.put, List.setIfInBounds_toArray, List.set_cons_zero, List.set_cons_succ]
                    refine wpAnyH_take (i := 16) (v := .bool false) rfl (by kernel_rfl) (by kernel_rfl) (by kernel_rfl) (fun _ _ _ h => h) (Or.inl ⟨by rfl, fun w' hS' => by go_simp⟩) hS0 ?_
                    change wpAnyH _ _ _ _ _ _ _ (Act.put _ (some 120) (.bool false)) _
                    simp only [Act.put, List.setIfInBounds_toArray, List.set_cons_zero, List.set_cons_succ]
                    refine wpAnyH_take (i := 17) (v := .bool false) rfl (by kernel_rfl) (by kernel_rfl) (by kernel_rfl) (fun _ _ _ h => h) (Or.inl ⟨by rfl, fun w' hS' => by exact op_move rfl rfl⟩) hS0 ?_
                    change wpAnyH _ _ _ _ _ _ _ (Act.put _ (some 121) (.bool false)) _
                    simp only [Act.put, List.setIfInBounds_toArray, List.set_cons_zero, List.set_cons_succ]
                    refine wpAnyH_take (i := 18) (v := .string s) rfl (by kernel_rfl) (by kernel_rfl) (by kernel_rfl) (fun _ _ _ h => h) (Or.inl ⟨by rfl, fun w' hS' => by exact op_move rfl rfl⟩) hS0 ?_
                    change wpAnyH _ _ _ _ _ _ _ (Act.put _ (some 122) (.string s)) _
                    simp only [Act.put, List.setIfInBounds_toArray, List.set_cons_zero, List.set_cons_succ]
                    refine wpAnyH_take (i := 19) (v := .bool false) rfl (by kernel_rfl) (by kernel_rfl) (by kernel_rfl) (fun _ _ _ h => h) (Or.inl ⟨by rfl, fun w' hS' => by go_simp⟩) hS0 ?_
                    change wpAnyH _ _ _ _ _ _ _ (Act.put _ (some 123) (.bool false)) _
                    simp only [Act.put, List.setIfInBounds_toArray, List.set_cons_zero, List.set_cons_succ]
                    refine wpAnyH_take (i := 20) (v := .bool false) rfl (by kernel_rfl) (by kernel_rfl) (by kernel_rfl) (fun _ _ _ h => h) (Or.inl ⟨by rfl, fun w' hS' => by go_simp⟩) hS0 ?_
                    change wpAnyH _ _ _ _ _ _ _ (Act.put _ (some 124) (.bool false)) _
                    simp only [Act.put, List.setIfInBounds_toArray, List.set_cons_zero, List.set_cons_succ]
                    refine wpAnyH_take (i := 21) (v := .bool false) rfl (by kernel_rfl) (by kernel_rfl) (by kernel_rfl) (fun _ _ _ h => h) (Or.inl ⟨by rfl, fun w' hS' => by go_simp⟩) hS0 ?_
                    change wpAnyH _ _ _ _ _ _ _ (Act.put _ (some 125) (.bool false)) _
                    simp only [Act.put, List.setIfInBounds_toArray, List.set_cons_zero, List.set_cons_succ]
                    refine wpAnyH_take (i := 22) (v := .bool false) rfl (by kernel_rfl) (by kernel_rfl) (by kernel_rfl) (fun _ _ _ h => h) (Or.inl ⟨by rfl, fun w' hS' => by go_simp⟩) hS0 ?_
                    change wpAnyH _ _ _ _ _ _ _ (Act.put _ (some 126) (.bool false)) _
                    simp only [Act.put, List.setIfInBounds_toArray, List.set_cons_zero, List.set_cons_succ]
                    refine wpAnyH_take (i := 23) (v := .bool false) rfl (by kernel_rfl) (by kernel_rfl) (by kernel_rfl) (fun _ _ _ h => h) (Or.inl ⟨by rfl, fun w' hS' => by exact op_move rfl rfl⟩) hS0 ?_
                    change wpAnyH _ _ _ _ _ _ _ (Act.put _ (some 127) (.bool false)) _
                    simp only [Act.put, List.setIfInBounds_toArray, List.set_cons_zero, List.set_cons_succ]
                    refine wpAnyH_take (i := 24) (v := .int .i64 0) rfl (by kernel_rfl) (by kernel_rfl) (by kernel_rfl) (fun _ _ _ h => h) (Or.inl ⟨by rfl, fun w' hS' => by exact op_move rfl rfl⟩) hS0 ?_
                    change wpAnyH _ _ _ _ _ _ _ (Act.put _ (some 128) (.int .i64 0)) _
                    simp only [Act.put, List.setIfInBounds_toArray, List.set_cons_zero, List.set_cons_succ]
                    refine wpAnyH_take (i := 25) (v := .bool false) rfl (by kernel_rfl) (by kernel_rfl) (by kernel_rfl) (fun _ _ _ h => h) (Or.inl ⟨by rfl, fun w' hS' => by go_simp⟩) hS0 ?_
                    change wpAnyH _ _ _ _ _ _ _ (Act.put _ (some 129) (.bool false)) _
                    simp only [Act.put, List.setIfInBounds_toArray, List.set_cons_zero, List.set_cons_succ]
                    refine wpAnyH_take (i := 26) (v := .bool false) rfl (by kernel_rfl) (by kernel_rfl) (by kernel_rfl) (fun _ _ _ h => h) (Or.inl ⟨by rfl, fun w' hS' => by exact op_move rfl rfl⟩) hS0 ?_
                    change wpAnyH _ _ _ _ _ _ _ (Act.put _ (some 130) (.bool false)) _
                    simp only [Act.put, List.setIfInBounds_toArray, List.set_cons_zero, List.set_cons_succ]
                    refine wpAnyH_take (i := 27) (v := undef) rfl (by kernel_rfl) (by kernel_rfl) (by kernel_rfl) (fun _ _ _ h => h) (Or.inr ⟨by rfl, rfl⟩) hS0 ?_
                    change wpAnyH _ _ _ _ _ _ _ (Act.put _ (some 131) (undef)) _
                    simp only [Act.put, List.setIfInBounds_toArray, List.set_cons_zero, List.set_cons_succ]
                    refine wpAnyH_take (i := 28) (v := undef) rfl (by kernel_rfl) (by kernel_rfl) (by kernel_rfl) (fun _ _ _ h => h) (Or.inr ⟨by rfl, rfl⟩) hS0 ?_
                    change wpAnyH _ _ _ _ _ _ _ (Act.put _ (some 132) (undef)) _
                    simp only [Act.put, List.setIfInBounds_toArray, List.set_cons_zero, List.set_cons_succ]
                    refine wpAnyH_take (i := 29) (v := .bool false) rfl (by kernel_rfl) (by kernel_rfl) (by kernel_rfl) (fun _ _ _ h => h) (Or.inl ⟨by rfl, fun w' hS' => by go_simp⟩) hS0 ?_
                    change wpAnyH _ _ _ _ _ _ _ (Act.put _ (some 133) (.bool false)) _
                    simp only [Act.put, List.setIfInBounds_toArray, List.set_cons_zero, List.set_cons_succ]
                    refine wpAnyH_take (i := 30) (v := .bool false) rfl (by kernel_rfl) (by kernel_rfl) (by kernel_rfl) (fun _ _ _ h => h) (Or.inl ⟨by rfl, fun w' hS' => by go_simp⟩) hS0 ?_
                    change wpAnyH _ _ _ _ _ _ _ (Act.put _ (some 134) (.bool false)) _
                    simp only [Act.put, List.setIfInBounds_toArray, List.set_cons_zero, List.set_cons_succ]
                    refine wpAnyH_take (i := 31) (v := .bool false) rfl (by kernel_rfl) (by kernel_rfl) (by kernel_rfl) (fun _ _ _ h => h) (Or.inl ⟨by rfl, fun w' hS' => by exact op_move rfl rfl⟩) hS0 ?_
                    change wpAnyH _ _ _ _ _ _ _ (Act.put _ (some 135) (.bool false)) _
                    simp only [Act.put, List.setIfInBounds_toArray, List.set_cons_zero, List.set_cons_succ]
                    refine wpAnyH_take (i := 32) (v := .agg #[.int .i64 d.width, .int .i64 d.room, .slice A6 n6 c6, .int .i64 d.hits, .int .i64 d.misses, .int .i64 d.clashes, .int .i64 d.evicted]) rfl (by kernel_rfl) (by kernel_rfl) (by kernel_rfl) (fun _ _ _ h => h) (Or.inl ⟨by rfl, fun w' hS' => by obtain ⟨y0, y1, y2, y3, y4, y5, y6⟩ := HC6.out _ hS'; go_simp⟩) hS0 ?_
                    change wpAnyH _ _ _ _ _ _ _ (Act.put _ (some 136) (.agg #[.int .i64 d.width, .int .i64 d.room, .slice A6 n6 c6, .int .i64 d.hits, .int .i64 d.misses, .int .i64 d.clashes, .int .i64 d.evicted])) _
                    simp only [Act.put, List.setIfInBounds_toArray, List.set_cons_zero, List.set_cons_succ]
                    refine wpAnyH_take (i := 34) (v := .agg #[.int .i64 c.width, .int .i64 c.room, .slice A0 n0 cap0, .int .i64 c.hits, .int .i64 c.misses, .int .i64 c.clashes, .int .i64 c.evicted]) rfl (by kernel_rfl) (by kernel_rfl) (by kernel_rfl) (fun _ _ _ h => h) (Or.inl ⟨by rfl, fun w' hS' => by obtain ⟨y0, y1, y2, y3, y4, y5, y6⟩ := HC7.out _ hS'; go_simp⟩) hS0 ?_
                    change wpAnyH _ _ _ _ _ _ _ (Act.put _ (some 138) (.agg #[.int .i64 c.width, .int .i64 c.room, .slice A0 n0 cap0, .int .i64 c.hits, .int .i64 c.misses, .int .i64 c.clashes, .int .i64 c.evicted])) _
                    simp only [Act.put, List.setIfInBounds_toArray, List.set_cons_zero, List.set_cons_succ]
                    refine wpAnyH_ready (rs := [33]) (by kernel_rfl) (by simp) (AllReadyH.cons rfl (fun K hK => ?_) (AllReadyH.nil))
                    · skip
                      go_simp
                      refine (sizeC_any d A6 n6 c6 _ (HP6.out.up hS0) HN6.out HF6.out).mono ?_
                      rintro e W1 ⟨rfl, hb3⟩
                      rw [HSD.out]
                      refine hK.out _ _ (hS0.trans (hb3.mono hS0.size)) (fun hS2 => ?_)
                      clear hK K
                      simp only [List.setIfInBounds_toArray, List.set_cons_zero, List.set_cons_succ]
                      refine wpAnyH_ready (rs := [35]) (by kernel_rfl) (by simp) (AllReadyH.cons rfl (fun K hK => ?_) (AllReadyH.nil))
                      · skip
                        go_simp
                        refine (sizeC_any c A0 n0 cap0 _ ((HP0.out.up HB7.out).up hS2) HN0.out HF0.out).mono ?_
                        rintro e W4 ⟨rfl, hb6⟩
                        rw [HSC.out]
                        refine hK.out _ _ (hS2.trans (hb6.mono hS2.size)) (fun hS5 => ?_)
                        clear hK K
                        simp only [List.setIfInBounds_toArray, List.set_cons_zero, List.set_cons_succ]
                        refine wpAnyH_take (i := 36) (v := .bool false) rfl (by kernel_rfl) (by kernel_rfl) (by kernel_rfl) (fun _ _ _ h => h) (Or.inl ⟨by rfl, fun w' hS' => by go_simp⟩) hS5 ?_
                        change wpAnyH _ _ _ _ _ _ _ (Act.put _ (some 140) (.bool false)) _
                        simp only [Act.put, List.setIfInBounds_toArray, List.set_cons_zero, List.set_cons_succ]
                        refine wpAnyH_take (i := 37) (v := .bool false) rfl (by kernel_rfl) (by kernel_rfl) (by kernel_rfl) (fun _ _ _ h => h) (Or.inl ⟨by rfl, fun w' hS' => by go_simp⟩) hS5 ?_
                        change wpAnyH _ _ _ _ _ _ _ (Act.put _ (some 141) (.bool false)) _
                        simp only [Act.put, List.setIfInBounds_toArray, List.set_cons_zero, List.set_cons_succ]
                        refine wpAnyH_done (by kernel_rfl) ?_ _
                        refine NoPanic.normal ?_
                        have HS := Lib.hid hS5
                        obtain ⟨w8, hw8, HB8⟩ : ∃ w8, w8 = _ ∧ Hid (Below w7.heap.size w7 w8) := ⟨_, rfl, HS⟩
                        rw [← hw8]
                        clear hw8
                        have HBS := Lib.hid (Blk.below HB6s.out HB8.out HB6s.out.lt)
                        have HBC := Lib.hid (Blk.below HB0c.out HB8.out HB0c.out.lt)
                        have HLX := Lib.hid (Blk.below HLc.out HB8.out HLc.out.lt)
                        have HWX : Hid (Below w2.heap.size w2 w8) := Lib.hid (below_step HW7.out HB8.out)
                        have HPX := Lib.hid (HP6.out.up HB8.out)
                        have hne : g6 ≠ g0 := HGN.out
                        obtain ⟨x0, x1, x2, x3, x4, x5, x6⟩ := box7 HBS.out (Below.refl _ _)
                        obtain ⟨y0, y1, y2, y3, y4, y5, y6⟩ := box7 HBC.out (Below.refl _ _)
                        have q0 := Blk.frozen HBC.out 0
                        have q1 := Blk.frozen HBC.out 1
                        have q2 := Blk.frozen HBC.out 2
                        have q3 := Blk.frozen HBC.out 3
                        have q4 := Blk.frozen HBC.out 4
                        have q5 := Blk.frozen HBC.out 5
                        have q6 := Blk.frozen HBC.out 6
                        have hl0 := HBC.out.lt
                        have HS7 := Lib.hid (set7 HBC.out d.width d.room A6 n6 c6 d.hits d.misses d.clashes d.evicted)
                        have HB9 := Lib.hid HS7.out.1
                        have HW9 := Lib.hid (HWX.out.grown HS7.out.2 HWX.out.size (fun b e => by injection e with e; rw [← e]; exact HG.out.1))
                        have HP9 := Lib.hid ((HPX.out.kept HS7.out.2 (show g0 < w6.heap.size from HG6.out)).less (fun b hb => hb.elim (fun e => by rw [e]; exact HG6.out) (fun e => by rw [e]; exact HGL6.out)) : PartsAt (fun b => b = g0 ∨ b = gl) _ A6 d.parts)
                        have HL9 := Lib.hid (Blk.grown HLX.out HS7.out.2 (fun e => HG.out.2.2 (Option.some.inj e)))
                        clear HS7
                        go_upto_region 22 with (fail)
                        obtain ⟨w9, hw9⟩ : ∃ w9, w9 = ((((((w8.setCell ⟨g0, 0, none⟩ (.int .i64 d.width)).setCell ⟨g0, 1, none⟩ (.int .i64 d.room)).setCell ⟨g0, 2, none⟩ (.slice A6 n6 c6)).setCell ⟨g0, 3, none⟩ (.int .i64 d.hits)).setCell ⟨g0, 4, none⟩ (.int .i64 d.misses)).setCell ⟨g0, 5, none⟩ (.int .i64 d.clashes)).setCell ⟨g0, 6, none⟩ (.int .i64 d.evicted) := ⟨_, rfl⟩
                        rw [← hw9] at HB9 HW9 HP9 HL9 ⊢
                        clear hw9 x0 x1 x2 x3 x4 x5 x6 y0 y1 y2 y3 y4 y5 y6 q0 q1 q2 q3 q4 q5 q6
                        go_wp2_with fail
                        go_meet
                        exact ⟨d, T, ls, HLS2.out, HGD.out, HROOM.out, HLL.out, HW9.out, ⟨A6, n6, c6, HB9.out, HP9.out, HN6.out, HC66.out⟩, HL9.out⟩
                  · go_wp2_with fail
                    refine wp_region_noPanic ?_
                    refine wp_region_held_drew (S := fun W => Below w7.heap.size w7 W) (by kernel_rfl) ((Below.refl w7.heap.size w7).drew) (fun hS0 => ?_)
                    change wpAnyH _ _ _ _ _ 38 #[false, false, false, false, false, false, false, false, false, false, false, false, false, false, false, false, false, false, false, false, false, false, false, false, false, false, false, false, false, false, false, false, false, false, false, false, false, false] _ (World.drew _)
                    refine wpAnyH_take (i := 0) (v := .int .i64 10) rfl (by kernel_rfl) (by kernel_rfl) (by kernel_rfl) (fun _ _ _ h => h) (Or.inl ⟨by rfl, fun w' hS' => by exact op_move rfl rfl⟩) hS0 ?_
                    change wpAnyH _ _ _ _ _ _ _ (Act.put _ (some 104) (.int .i64 10)) _
                    simp only [Act.put, List.setIfInBounds_toArray, List.set_cons_zero, List.set_cons_succ]
                    refine wpAnyH_take (i := 1) (v := .bool true) rfl (by kernel_rfl) (by kernel_rfl) (by kernel_rfl) (fun _ _ _ h => h) (Or.inl ⟨by rfl, fun w' hS' => by go_simp⟩) hS0 ?_
                    change wpAnyH _ _ _ _ _ _ _ (Act.put _ (some 105) (.bool true)) _
                    simp only [Act.put, List.setIfInBounds_toArray, List.set_cons_zero, List.set_cons_succ]
                    refine wpAnyH_take (i := 2) (v := .bool true) rfl (by kernel_rfl) (by kernel_rfl) (by kernel_rfl) (fun _ _ _ h => h) (Or.inl ⟨by rfl, fun w' hS' => by exact op_move rfl rfl⟩) hS0 ?_
                    change wpAnyH _ _ _ _ _ _ _ (Act.put _ (some 106) (.bool true)) _
                    simp only [Act.put, List.setIfInBounds_toArray, List.set_cons_zero, List.set_cons_succ]
                    refine wpAnyH_take (i := 3) (v := .int .i64 10) rfl (by kernel_rfl) (by kernel_rfl) (by kernel_rfl) (fun _ _ _ h => h) (Or.inl ⟨by rfl, fun w' hS' => by exact op_move rfl rfl⟩) hS0 ?_
                    change wpAnyH _ _ _ _ _ _ _ (Act.put _ (some 107) (.int .i64 10)) _
                    simp only [Act.put, List.setIfInBounds_toArray, List.set_cons_zero, List.set_cons_succ]
                    refine wpAnyH_take (i := 4) (v := .bool false) rfl (by kernel_rfl) (by kernel_rfl) (by kernel_rfl) (fun _ _ _ h => h) (Or.inl ⟨by rfl, fun w' hS' => by go_simp⟩) hS0 ?_
                    change wpAnyH _ _ _ _ _ _ _ (Act.put _ (some 108) (.bool false)) _
                    simp only [Act.put, List.setIfInBounds_toArray, List.set_cons_zero, List.set_cons_succ]
                    refine wpAnyH_take (i := 5) (v := .bool false) rfl (by kernel_rfl) (by kernel_rfl) (by kernel_rfl) (fun _ _ _ h => h) (Or.inl ⟨by rfl, fun w' hS' => by go_simp⟩) hS0 ?_
                    change wpAnyH _ _ _ _ _ _ _ (Act.put _ (some 109) (.bool false)) _
                    simp only [Act.put, List.setIfInBounds_toArray, List.set_cons_zero, List.set_cons_succ]
                    refine wpAnyH_take (i := 6) (v := .bool false) rfl (by kernel_rfl) (by kernel_rfl) (by kernel_rfl) (fun _ _ _ h => h) (Or.inl ⟨by rfl, fun w' hS' => by exact op_move rfl rfl⟩) hS0 ?_
                    change wpAnyH _ _ _ _ _ _ _ (Act.put _ (some 110) (.bool false)) _
                    simp only [Act.put, List.setIfInBounds_toArray, List.set_cons_zero, List.set_cons_succ]
                    refine wpAnyH_take (i := 7) (v := .int .i64 10) rfl (by kernel_rfl) (by kernel_rfl) (by kernel_rfl) (fun _ _ _ h => h) (Or.inl ⟨by rfl, fun w' hS' => by exact op_move rfl rfl⟩) hS0 ?_
                    change wpAnyH _ _ _ _ _ _ _ (Act.put _ (some 111) (.int .i64 10)) _
                    simp only [Act.put, List.setIfInBounds_toArray, List.set_cons_zero, List.set_cons_succ]
                    refine wpAnyH_take (i := 8) (v := .bool false) rfl (by kernel_rfl) (by kernel_rfl) (by kernel_rfl) (fun _ _ _ h => h) (Or.inl ⟨by rfl, fun w' hS' => by go_simp⟩) hS0 ?_
                    change wpAnyH _ _ _ _ _ _ _ (Act.put _ (some 112) (.bool false)) _
                    simp only [Act.put, List.setIfInBounds_toArray, List.set_cons_zero, List.set_cons_succ]
                    refine wpAnyH_take (i := 9) (v := .bool false) rfl (by kernel_rfl) (by kernel_rfl) (by kernel_rfl) (fun _ _ _ h => h) (Or.inl ⟨by rfl, fun w' hS' => by exact op_move rfl rfl⟩) hS0 ?_
                    change wpAnyH _ _ _ _ _ _ _ (Act.put _ (some 113) (.bool false)) _
                    simp only [Act.put, List.setIfInBounds_toArray, List.set_cons_zero, List.set_cons_succ]
                    refine wpAnyH_take (i := 10) (v := undef) rfl (by kernel_rfl) (by kernel_rfl) (by kernel_rfl) (fun _ _ _ h => h) (Or.inr ⟨by rfl, rfl⟩) hS0 ?_
                    change wpAnyH _ _ _ _ _ _ _ (Act.put _ (some 114) (undef)) _
                    simp only [Act.put, List.setIfInBounds_toArray, List.set_cons_zero, List.set_cons_succ]
                    refine wpAnyH_take (i := 11) (v := undef) rfl (by kernel_rfl) (by kernel_rfl) (by kernel_rfl) (fun _ _ _ h => h) (Or.inr ⟨by rfl, rfl⟩) hS0 ?_
                    change wpAnyH _ _ _ _ _ _ _ (Act.put _ (some 115) (undef)) _
                    simp only [Act.put, List.setIfInBounds_toArray, List.set_cons_zero, List.set_cons_succ]
                    refine wpAnyH_take (i := 12) (v := undef) rfl (by kernel_rfl) (by kernel_rfl) (by kernel_rfl) (fun _ _ _ h => h) (Or.inr ⟨by rfl, rfl⟩) hS0 ?_
                    change wpAnyH _ _ _ _ _ _ _ (Act.put _ (some 116) (undef)) _
                    simp only [Act.put, List.setIfInBounds_toArray, List.set_cons_zero, List.set_cons_succ]
                    refine wpAnyH_take (i := 13) (v := undef) rfl (by kernel_rfl) (by kernel_rfl) (by kernel_rfl) (fun _ _ _ h => h) (Or.inr ⟨by rfl, rfl⟩) hS0 ?_
                    change wpAnyH _ _ _ _ _ _ _ (Act.put _ (some 117) (undef)) _
                    simp only [Act.put, List.setIfInBounds_toArray, List.set_cons_zero, List.set_cons_succ]
                    refine wpAnyH_take (i := 14) (v := undef) rfl (by kernel_rfl) (by kernel_rfl) (by kernel_rfl) (fun _ _ _ h => h) (Or.inr ⟨by rfl, rfl⟩) hS0 ?_
                    change wpAnyH _ _ _ _ _ _ _ (Act.put _ (some 118) (undef)) _
                    simp only [Act.put, List.setIfInBounds_toArray, List.set_cons_zero, List.set_cons_succ]
                    refine wpAnyH_take (i := 15) (v := undef) rfl (by kernel_rfl) (by kernel_rfl) (by kernel_rfl) (fun _ _ _ h => h) (Or.inr ⟨by rfl, rfl⟩) hS0 ?_
                    change wpAnyH _ _ _ _ _ _ _ (Act.put _ (some 119) (undef)) _
                    simp only [Act.put, List.setIfInBounds_toArray, List.set_cons_zero, List.set_cons_succ]
                    refine wpAnyH_take (i := 16) (v := undef) rfl (by kernel_rfl) (by kernel_rfl) (by kernel_rfl) (fun _ _ _ h => h) (Or.inr ⟨by rfl, rfl⟩) hS0 ?_
                    change wpAnyH _ _ _ _ _ _ _ (Act.put _ (some 120) (undef)) _
                    simp only [Act.put, List.setIfInBounds_toArray, List.set_cons_zero, List.set_cons_succ]
                    refine wpAnyH_take (i := 17) (v := undef) rfl (by kernel_rfl) (by kernel_rfl) (by kernel_rfl) (fun _ _ _ h => h) (Or.inr ⟨by rfl, rfl⟩) hS0 ?_
                    change wpAnyH _ _ _ _ _ _ _ (Act.put _ (some 121) (undef)) _
                    simp only [Act.put, List.setIfInBounds_toArray, List.set_cons_zero, List.set_cons_succ]
                    refine wpAnyH_take (i := 18) (v := undef) rfl (by kernel_rfl) (by kernel_rfl) (by kernel_rfl) (fun _ _ _ h => h) (Or.inr ⟨by rfl, rfl⟩) hS0 ?_
                    change wpAnyH _ _ _ _ _ _ _ (Act.put _ (some 122) (undef)) _
                    simp only [Act.put, List.setIfInBounds_toArray, List.set_cons_zero, List.set_cons_succ]
                    refine wpAnyH_take (i := 19) (v := undef) rfl (by kernel_rfl) (by kernel_rfl) (by kernel_rfl) (fun _ _ _ h => h) (Or.inr ⟨by rfl, rfl⟩) hS0 ?_
                    change wpAnyH _ _ _ _ _ _ _ (Act.put _ (some 123) (undef)) _
                    simp only [Act.put, List.setIfInBounds_toArray, List.set_cons_zero, List.set_cons_succ]
                    refine wpAnyH_take (i := 20) (v := undef) rfl (by kernel_rfl) (by kernel_rfl) (by kernel_rfl) (fun _ _ _ h => h) (Or.inr ⟨by rfl, rfl⟩) hS0 ?_
                    change wpAnyH _ _ _ _ _ _ _ (Act.put _ (some 124) (undef)) _
                    simp only [Act.put, List.setIfInBounds_toArray, List.set_cons_zero, List.set_cons_succ]
                    refine wpAnyH_take (i := 21) (v := .bool false) rfl (by kernel_rfl) (by kernel_rfl) (by kernel_rfl) (fun _ _ _ h => h) (Or.inl ⟨by rfl, fun w' hS' => by go_simp⟩) hS0 ?_
                    change wpAnyH _ _ _ _ _ _ _ (Act.put _ (some 125) (.bool false)) _
                    simp only [Act.put, List.setIfInBounds_toArray, List.set_cons_zero, List.set_cons_succ]
                    refine wpAnyH_take (i := 22) (v := .bool false) rfl (by kernel_rfl) (by kernel_rfl) (by kernel_rfl) (fun _ _ _ h => h) (Or.inl ⟨by rfl, fun w' hS' => by go_simp⟩) hS0 ?_
                    change wpAnyH _ _ _ _ _ _ _ (Act.put _ (some 126) (.bool false)) _
                    simp only [Act.put, List.setIfInBounds_toArray, List.set_cons_zero, List.set_cons_succ]
                    refine wpAnyH_take (i := 23) (v := .bool false) rfl (by kernel_rfl) (by kernel_rfl) (by kernel_rfl) (fun _ _ _ h => h) (Or.inl ⟨by rfl, fun w' hS' => by exact op_move rfl rfl⟩) hS0 ?_
                    change wpAnyH _ _ _ _ _ _ _ (Act.put _ (some 127) (.bool false)) _
                    simp only [Act.put, List.setIfInBounds_toArray, List.set_cons_zero, List.set_cons_succ]
                    refine wpAnyH_take (i := 24) (v := .int .i64 10) rfl (by kernel_rfl) (by kernel_rfl) (by kernel_rfl) (fun _ _ _ h => h) (Or.inl ⟨by rfl, fun w' hS' => by exact op_move rfl rfl⟩) hS0 ?_
                    change wpAnyH _ _ _ _ _ _ _ (Act.put _ (some 128) (.int .i64 10)) _
                    simp only [Act.put, List.setIfInBounds_toArray, List.set_cons_zero, List.set_cons_succ]
                    refine wpAnyH_take (i := 25) (v := .bool true) rfl (by kernel_rfl) (by kernel_rfl) (by kernel_rfl) (fun _ _ _ h => h) (Or.inl ⟨by rfl, fun w' hS' => by go_simp⟩) hS0 ?_
                    change wpAnyH _ _ _ _ _ _ _ (Act.put _ (some 129) (.bool true)) _
                    simp only [Act.put, List.setIfInBounds_toArray, List.set_cons_zero, List.set_cons_succ]
                    refine wpAnyH_take (i := 26) (v := .bool true) rfl (by kernel_rfl) (by kernel_rfl) (by kernel_rfl) (fun _ _ _ h => h) (Or.inl ⟨by rfl, fun w' hS' => by exact op_move rfl rfl⟩) hS0 ?_
                    change wpAnyH _ _ _ _ _ _ _ (Act.put _ (some 130) (.bool true)) _
                    simp only [Act.put, List.setIfInBounds_toArray, List.set_cons_zero, List.set_cons_succ]
                    refine wpAnyH_take (i := 27) (v := .string ⟨#[]⟩) rfl (by kernel_rfl) (by kernel_rfl) (by kernel_rfl) (fun _ _ _ h => h) (Or.inl ⟨by rfl, fun w' hS' => by exact op_move rfl rfl⟩) hS0 ?_
                    change wpAnyH _ _ _ _ _ _ _ (Act.put _ (some 131) (.string ⟨#[]⟩)) _
                    simp only [Act.put, List.setIfInBounds_toArray, List.set_cons_zero, List.set_cons_succ]
                    refine wpAnyH_take (i := 28) (v := .bool false) rfl (by kernel_rfl) (by kernel_rfl) (by kernel_rfl) (fun _ _ _ h => h) (Or.inl ⟨by rfl, fun w' hS' => by go_simp⟩) hS0 ?_
                    change wpAnyH _ _ _ _ _ _ _ (Act.put _ (some 132) (.bool false)) _
                    simp only [Act.put, List.setIfInBounds_toArray, List.set_cons_zero, List.set_cons_succ]
                    refine wpAnyH_take (i := 29) (v := .bool false) rfl (by kernel_rfl) (by kernel_rfl) (by kernel_rfl) (fun _ _ _ h => h) (Or.inl ⟨by rfl, fun w' hS' => by go_simp⟩) hS0 ?_
                    change wpAnyH _ _ _ _ _ _ _ (Act.put _ (some 133) (.bool false)) _
                    simp only [Act.put, List.setIfInBounds_toArray, List.set_cons_zero, List.set_cons_succ]
                    refine wpAnyH_take (i := 30) (v := .bool false) rfl (by kernel_rfl) (by kernel_rfl) (by kernel_rfl) (fun _ _ _ h => h) (Or.inl ⟨by rfl, fun w' hS' => by go_simp⟩) hS0 ?_
                    change wpAnyH _ _ _ _ _ _ _ (Act.put _ (some 134) (.bool false)) _
                    simp only [Act.put, List.setIfInBounds_toArray, List.set_cons_zero, List.set_cons_succ]
                    refine wpAnyH_take (i := 31) (v := .bool false) rfl (by kernel_rfl) (by kernel_rfl) (by kernel_rfl) (fun _ _ _ h => h) (Or.inl ⟨by rfl, fun w' hS' => by exact op_move rfl rfl⟩) hS0 ?_
                    change wpAnyH _ _ _ _ _ _ _ (Act.put _ (some 135) (.bool false)) _
                    simp only [Act.put, List.setIfInBounds_toArray, List.set_cons_zero, List.set_cons_succ]
                    refine wpAnyH_take (i := 32) (v := .agg #[.int .i64 d.width, .int .i64 d.room, .slice A6 n6 c6, .int .i64 d.hits, .int .i64 d.misses, .int .i64 d.clashes, .int .i64 d.evicted]) rfl (by kernel_rfl) (by kernel_rfl) (by kernel_rfl) (fun _ _ _ h => h) (Or.inl ⟨by rfl, fun w' hS' => by obtain ⟨y0, y1, y2, y3, y4, y5, y6⟩ := HC6.out _ hS'; go_simp⟩) hS0 ?_
                    change wpAnyH _ _ _ _ _ _ _ (Act.put _ (some 136) (.agg #[.int .i64 d.width, .int .i64 d.room, .slice A6 n6 c6, .int .i64 d.hits, .int .i64 d.misses, .int .i64 d.clashes, .int .i64 d.evicted])) _
                    simp only [Act.put, List.setIfInBounds_toArray, List.set_cons_zero, List.set_cons_succ]
                    refine wpAnyH_take (i := 34) (v := .agg #[.int .i64 c.width, .int .i64 c.room, .slice A0 n0 cap0, .int .i64 c.hits, .int .i64 c.misses, .int .i64 c.clashes, .int .i64 c.evicted]) rfl (by kernel_rfl) (by kernel_rfl) (by kernel_rfl) (fun _ _ _ h => h) (Or.inl ⟨by rfl, fun w' hS' => by obtain ⟨y0, y1, y2, y3, y4, y5, y6⟩ := HC7.out _ hS'; go_simp⟩) hS0 ?_
                    change wpAnyH _ _ _ _ _ _ _ (Act.put _ (some 138) (.agg #[.int .i64 c.width, .int .i64 c.room, .slice A0 n0 cap0, .int .i64 c.hits, .int .i64 c.misses, .int .i64 c.clashes, .int .i64 c.evicted])) _
                    simp only [Act.put, List.setIfInBounds_toArray, List.set_cons_zero, List.set_cons_succ]
                    refine wpAnyH_ready (rs := [33]) (by kernel_rfl) (by simp) (AllReadyH.cons rfl (fun K hK => ?_) (AllReadyH.nil))
                    · skip
                      go_simp
                      refine (sizeC_any d A6 n6 c6 _ (HP6.out.up hS0) HN6.out HF6.out).mono ?_
                      rintro e W1 ⟨rfl, hb3⟩
                      rw [HSD.out]
                      refine hK.out _ _ (hS0.trans (hb3.mono hS0.size)) (fun hS2 => ?_)
                      clear hK K
                      simp only [List.setIfInBounds_toArray, List.set_cons_zero, List.set_cons_succ]
                      refine wpAnyH_ready (rs := [35]) (by kernel_rfl) (by simp) (AllReadyH.cons rfl (fun K hK => ?_) (AllReadyH.nil))
                      · skip
                        go_simp
                        refine (sizeC_any c A0 n0 cap0 _ ((HP0.out.up HB7.out).up hS2) HN0.out HF0.out).mono ?_
                        rintro e W4 ⟨rfl, hb6⟩
                        rw [HSC.out]
                        refine hK.out _ _ (hS2.trans (hb6.mono hS2.size)) (fun hS5 => ?_)
                        clear hK K
                        simp only [List.setIfInBounds_toArray, List.set_cons_zero, List.set_cons_succ]
                        refine wpAnyH_take (i := 36) (v := .bool false) rfl (by kernel_rfl) (by kernel_rfl) (by kernel_rfl) (fun _ _ _ h => h) (Or.inl ⟨by rfl, fun w' hS' => by go_simp⟩) hS5 ?_
                        change wpAnyH _ _ _ _ _ _ _ (Act.put _ (some 140) (.bool false)) _
                        simp only [Act.put, List.setIfInBounds_toArray, List.set_cons_zero, List.set_cons_succ]
                        refine wpAnyH_take (i := 37) (v := .bool false) rfl (by kernel_rfl) (by kernel_rfl) (by kernel_rfl) (fun _ _ _ h => h) (Or.inl ⟨by rfl, fun w' hS' => by go_simp⟩) hS5 ?_
                        change wpAnyH _ _ _ _ _ _ _ (Act.put _ (some 141) (.bool false)) _
                        simp only [Act.put, List.setIfInBounds_toArray, List.set_cons_zero, List.set_cons_succ]
                        refine wpAnyH_done (by kernel_rfl) ?_ _
                        refine NoPanic.normal ?_
                        have HS := Lib.hid hS5
                        obtain ⟨w8, hw8, HB8⟩ : ∃ w8, w8 = _ ∧ Hid (Below w7.heap.size w7 w8) := ⟨_, rfl, HS⟩
                        rw [← hw8]
                        clear hw8
                        have HBS := Lib.hid (Blk.below HB6s.out HB8.out HB6s.out.lt)
                        have HBC := Lib.hid (Blk.below HB0c.out HB8.out HB0c.out.lt)
                        have HLX := Lib.hid (Blk.below HLc.out HB8.out HLc.out.lt)
                        have HWX : Hid (Below w2.heap.size w2 w8) := Lib.hid (below_step HW7.out HB8.out)
                        have HPX := Lib.hid (HP6.out.up HB8.out)
                        have hne : g6 ≠ g0 := HGN.out
                        obtain ⟨x0, x1, x2, x3, x4, x5, x6⟩ := box7 HBS.out (Below.refl _ _)
                        obtain ⟨y0, y1, y2, y3, y4, y5, y6⟩ := box7 HBC.out (Below.refl _ _)
                        have q0 := Blk.frozen HBC.out 0
                        have q1 := Blk.frozen HBC.out 1
                        have q2 := Blk.frozen HBC.out 2
                        have q3 := Blk.frozen HBC.out 3
                        have q4 := Blk.frozen HBC.out 4
                        have q5 := Blk.frozen HBC.out 5
                        have q6 := Blk.frozen HBC.out 6
                        have hl0 := HBC.out.lt
                        have HS7 := Lib.hid (set7 HBC.out d.width d.room A6 n6 c6 d.hits d.misses d.clashes d.evicted)
                        have HB9 := Lib.hid HS7.out.1
                        have HW9 := Lib.hid (HWX.out.grown HS7.out.2 HWX.out.size (fun b e => by injection e with e; rw [← e]; exact HG.out.1))
                        have HP9 := Lib.hid ((HPX.out.kept HS7.out.2 (show g0 < w6.heap.size from HG6.out)).less (fun b hb => hb.elim (fun e => by rw [e]; exact HG6.out) (fun e => by rw [e]; exact HGL6.out)) : PartsAt (fun b => b = g0 ∨ b = gl) _ A6 d.parts)
                        have HL9 := Lib.hid (Blk.grown HLX.out HS7.out.2 (fun e => HG.out.2.2 (Option.some.inj e)))
                        clear HS7
                        go_upto_region 22 with (fail)
                        obtain ⟨w9, hw9⟩ : ∃ w9, w9 = ((((((w8.setCell ⟨g0, 0, none⟩ (.int .i64 d.width)).setCell ⟨g0, 1, none⟩ (.int .i64 d.room)).setCell ⟨g0, 2, none⟩ (.slice A6 n6 c6)).setCell ⟨g0, 3, none⟩ (.int .i64 d.hits)).setCell ⟨g0, 4, none⟩ (.int .i64 d.misses)).setCell ⟨g0, 5, none⟩ (.int .i64 d.clashes)).setCell ⟨g0, 6, none⟩ (.int .i64 d.evicted) := ⟨_, rfl⟩
                        rw [← hw9] at HB9 HW9 HP9 HL9 ⊢
                        clear hw9 x0 x1 x2 x3 x4 x5 x6 y0 y1 y2 y3 y4 y5 y6 q0 q1 q2 q3 q4 q5 q6
                        go_wp2_with fail
                        go_meet
                        exact ⟨d, T, ls, HLS2.out, HGD.out, HROOM.out, HLL.out, HW9.out, ⟨A6, n6, c6, HB9.out, HP9.out, HN6.out, HC66.out⟩, HL9.out⟩
            case rest =>
              obtain ⟨d, T2, ls2, hls2, hgd, hroom, hll2, hw9, ⟨A6, n6, c6, hb9, hp9, hn6, hc6⟩, hl9⟩ := hcut
              obtain ⟨w9, rfl⟩ : ∃ w9, w9 = wc := ⟨_, rfl⟩
              have HLS2 := Lib.hid hls2
              have HGD := Lib.hid hgd
              have HROOM := Lib.hid hroom
              have HLL2 := Lib.hid hll2
              have HW9 := Lib.hid hw9
              have HB9 := Lib.hid hb9
              have HP9 := Lib.hid hp9
              have HN6 := Lib.hid hn6
              have HC66 := Lib.hid hc6
              have HL9 := Lib.hid hl9
              clear hls2 hgd hroom hll2 hw9 hb9 hp9 hn6 hc6 hl9
              go_wp2_with fail
              have HF9 := Lib.hid (HGD.out.fit (by omega))
              have HRT : Hid (rightC d = true) := Lib.hid (rightC_iff.2 HGD.out.right)
              obtain ⟨sz, hsz⟩ : ∃ n, sizeC d = n := ⟨_, rfl⟩
              have HSZ := Lib.hid hsz
              have hgt : decide ((q1 : Int) < (sz : Int)) = false := decide_eq_false (by have h1 := size_room HGD.out.right; rw [HROOM.out, hsz] at h1; omega)
              have HC9 : Hid (∀ W, Below w9.heap.size w9 W → W.cell? ⟨g0, 0, none⟩ = some (.int .i64 d.width) ∧ W.cell? ⟨g0, 1, none⟩ = some (.int .i64 d.room) ∧ W.cell? ⟨g0, 2, none⟩ = some (.slice A6 n6 c6) ∧ W.cell? ⟨g0, 3, none⟩ = some (.int .i64 d.hits) ∧ W.cell? ⟨g0, 4, none⟩ = some (.int .i64 d.misses) ∧ W.cell? ⟨g0, 5, none⟩ = some (.int .i64 d.clashes) ∧ W.cell? ⟨g0, 6, none⟩ = some (.int .i64 d.evicted)) := Lib.hid fun W hW => box7 HB9.out hW
              clear hsz
              refine wp_region_noPanic ?_
              refine wp_region_held_drew (S := fun W => Below w9.heap.size w9 W) (by kernel_rfl) ((Below.refl w9.heap.size w9).drew) (fun hS0 => ?_)
              change wpAnyH _ _ _ _ _ 11 #[false, false, false, false, false, false, false, false, false, false, false] _ (World.drew _)
              refine wpAnyH_take (i := 0) (v := .agg #[.int .i64 d.width, .int .i64 d.room, .slice A6 n6 c6, .int .i64 d.hits, .int .i64 d.misses, .int .i64 d.clashes, .int .i64 d.evicted]) rfl (by kernel_rfl) (by kernel_rfl) (by kernel_rfl) (fun _ _ _ h => h) (Or.inl ⟨by rfl, fun w' hS' => by obtain ⟨y0, y1, y2, y3, y4, y5, y6⟩ := HC9.out _ hS'; go_simp⟩) hS0 ?_
              change wpAnyH _ _ _ _ _ _ _ (Act.put _ (some 143) (.agg #[.int .i64 d.width, .int .i64 d.room, .slice A6 n6 c6, .int .i64 d.hits, .int .i64 d.misses, .int .i64 d.clashes, .int .i64 d.evicted])) _
              simp only [Act.put, List.setIfInBounds_toArray, List.set_cons_zero, List.set_cons_succ]
              refine wpAnyH_take (i := 2) (v := .pointer (some ⟨gn, 1, none⟩)) rfl (by kernel_rfl) (by kernel_rfl) (by kernel_rfl) (fun _ _ _ h => h) (Or.inl ⟨by rfl, fun w' hS' => by go_simp⟩) hS0 ?_
              change wpAnyH _ _ _ _ _ _ _ (Act.put _ (some 145) (.pointer (some ⟨gn, 1, none⟩))) _
              simp only [Act.put, List.setIfInBounds_toArray, List.set_cons_zero, List.set_cons_succ]
              refine wpAnyH_take (i := 3) (v := .int .i64 z1) rfl (by kernel_rfl) (by kernel_rfl) (by kernel_rfl) (fun _ _ _ h => h) (Or.inl ⟨by rfl, fun w' hS' => by obtain ⟨k0, k1, k2⟩ := HCN.out _ (below_step HW9.out hS'); go_simp⟩) hS0 ?_
              change wpAnyH _ _ _ _ _ _ _ (Act.put _ (some 146) (.int .i64 z1)) _
              simp only [Act.put, List.setIfInBounds_toArray, List.set_cons_zero, List.set_cons_succ]
              refine wpAnyH_ready (rs := [1]) (by kernel_rfl) (by simp) (AllReadyH.cons rfl (fun K hK => ?_) (AllReadyH.nil))
              · skip
                go_simp
                refine (sizeC_any d A6 n6 c6 _ (HP9.out.up hS0) HN6.out HF9.out).mono ?_
                rintro e W1 ⟨rfl, hb3⟩
                rw [HSZ.out]
                refine hK.out _ _ (hS0.trans (hb3.mono hS0.size)) (fun hS2 => ?_)
                clear hK K
                simp only [List.setIfInBounds_toArray, List.set_cons_zero, List.set_cons_succ]
                refine wpAnyH_ready (rs := [4]) (by kernel_rfl) (by simp) (AllReadyH.cons rfl (fun K hK => ?_) (AllReadyH.nil))
                · skip
                  go_simp
                  refine (pick_v z1 9 q1 HQ1.out _ HZ.out.2.1 (by omega) (by omega)).mono ?_
                  rintro e w5 ⟨rfl, rfl⟩
                  refine hK.out _ _ hS2 (fun hS4 => ?_)
                  clear hK K
                  simp only [List.setIfInBounds_toArray, List.set_cons_zero, List.set_cons_succ]
                  refine wpAnyH_take (i := 5) (v := .bool false) rfl (by kernel_rfl) (by kernel_rfl) (by kernel_rfl) (fun _ _ _ h => h) (Or.inl ⟨by rfl, fun w' hS' => by go_simp⟩) hS4 ?_
                  change wpAnyH _ _ _ _ _ _ _ (Act.put _ (some 148) (.bool false)) _
                  simp only [Act.put, List.setIfInBounds_toArray, List.set_cons_zero, List.set_cons_succ]
                  refine wpAnyH_take (i := 6) (v := .bool false) rfl (by kernel_rfl) (by kernel_rfl) (by kernel_rfl) (fun _ _ _ h => h) (Or.inl ⟨by rfl, fun w' hS' => by exact op_move rfl rfl⟩) hS4 ?_
                  change wpAnyH _ _ _ _ _ _ _ (Act.put _ (some 149) (.bool false)) _
                  simp only [Act.put, List.setIfInBounds_toArray, List.set_cons_zero, List.set_cons_succ]
                  refine wpAnyH_take (i := 7) (v := .agg #[.int .i64 d.width, .int .i64 d.room, .slice A6 n6 c6, .int .i64 d.hits, .int .i64 d.misses, .int .i64 d.clashes, .int .i64 d.evicted]) rfl (by kernel_rfl) (by kernel_rfl) (by kernel_rfl) (fun _ _ _ h => h) (Or.inl ⟨by rfl, fun w' hS' => by obtain ⟨y0, y1, y2, y3, y4, y5, y6⟩ := HC9.out _ hS'; go_simp⟩) hS4 ?_
                  change wpAnyH _ _ _ _ _ _ _ (Act.put _ (some 150) (.agg #[.int .i64 d.width, .int .i64 d.room, .slice A6 n6 c6, .int .i64 d.hits, .int .i64 d.misses, .int .i64 d.clashes, .int .i64 d.evicted])) _
                  simp only [Act.put, List.setIfInBounds_toArray, List.set_cons_zero, List.set_cons_succ]
                  refine wpAnyH_ready (rs := [8]) (by kernel_rfl) (by simp) (AllReadyH.cons rfl (fun K hK => ?_) (AllReadyH.nil))
                  · skip
                    go_simp
                    refine (rightC_any d A6 n6 c6 _ true HRT.out (HP9.out.up hS4) HN6.out HF9.out).mono ?_
                    rintro e W6 ⟨rfl, hb8⟩
                    refine hK.out _ _ (hS4.trans (hb8.mono hS4.size)) (fun hS7 => ?_)
                    clear hK K
                    simp only [List.setIfInBounds_toArray, List.set_cons_zero, List.set_cons_succ]
                    refine wpAnyH_take (i := 9) (v := .bool false) rfl (by kernel_rfl) (by kernel_rfl) (by kernel_rfl) (fun _ _ _ h => h) (Or.inl ⟨by rfl, fun w' hS' => by go_simp⟩) hS7 ?_
                    change wpAnyH _ _ _ _ _ _ _ (Act.put _ (some 152) (.bool false)) _
                    simp only [Act.put, List.setIfInBounds_toArray, List.set_cons_zero, List.set_cons_succ]
                    refine wpAnyH_take (i := 10) (v := .bool false) rfl (by kernel_rfl) (by kernel_rfl) (by kernel_rfl) (fun _ _ _ h => h) (Or.inl ⟨by rfl, fun w' hS' => by go_simp⟩) hS7 ?_
                    change wpAnyH _ _ _ _ _ _ _ (Act.put _ (some 153) (.bool false)) _
                    simp only [Act.put, List.setIfInBounds_toArray, List.set_cons_zero, List.set_cons_succ]
                    refine wpAnyH_done (by kernel_rfl) ?_ _
                    refine NoPanic.normal ?_
                    have HI3 : Hid (Below w2.heap.size w2 _ ∧ Boxed (fun b => b = g0 ∨ b = gl) _ g0 d ∧ Blk _ gl 47 _) := Lib.hid ⟨below_step HW9.out hS7, ⟨A6, n6, c6, Blk.below HB9.out hS7 HB9.out.lt, HP9.out.up hS7, HN6.out, HC66.out⟩, Blk.below HL9.out hS7 HL9.out.lt⟩
                    go_wp2_with fail
                    go_roundw
                    case rel => exact ⟨k + 1, d, T2, _, by omega, by omega, by go_num, HLS2, HGD, HROOM, HLL2, HI3⟩
                    case measure => simp [intOf]; omega
        · go_wp2_with fail
          go_ret
          exact ⟨rfl, below_step HW2.out HI.out.1⟩
      · go_wp2_with fail
        go_ret
        exact ⟨rfl, below_step HW2.out HI.out.1⟩

end Go.Proofs.Ytjifmfgfmciaeaa
