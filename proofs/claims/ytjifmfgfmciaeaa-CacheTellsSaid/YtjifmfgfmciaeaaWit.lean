/-
  collatorref14.with: lists of slots, of which one is another one, in new memory; nothing that was there is changed.
-/
import Derived.Test.YtjifmfgfmciaeaaRls
import Derived.Test.YtjifmfgfmciaeaaFill
namespace Go.Proofs.Ytjifmfgfmciaeaa
open Go.RowKit

theorem PartsAt.of_rows {X : Nat → Prop} {w : World} {A : Option Addr} {R : List RS} {P : List (List Sl)} (hR : RowAt rsv 1 w A R) (hok : RowsOk X w R P) (hx : ∀ a, A = some a → ¬ X a.block) : PartsAt X w A P := fun hn => by
  have hr : R ≠ [] := by intro e; subst e; exact hn (List.length_eq_zero_iff.1 hok.1.symm)
  obtain ⟨a, e, hl, hc⟩ := hR hr
  refine ⟨a, e, hl, hx a e, fun i L hi => ?_⟩
  obtain ⟨B, c, h1, h2, h3, h4⟩ := hok.2 i L hi
  have := hc i _ h1 0 _ rfl
  rw [Nat.mul_one, Nat.add_zero] at this
  exact ⟨B, c, this, h2, h3, h4⟩
theorem RowsOk.set {X : Nat → Prop} {w : World} {R : List RS} {P : List (List Sl)} (h : RowsOk X w R P) (i : Nat) {B : Option Addr} {M : List Sl} {c : Nat} (hM : SlotsAt w B M) (hc : M.length ≤ c) (hx : ∀ b, B = some b → ¬ X b.block) : RowsOk X w (R.set i (B, M.length, c)) (P.set i M) := by
  refine ⟨by simp [h.1], fun j L hj => ?_⟩
  rw [List.getElem?_set] at hj
  rw [List.getElem?_set]
  by_cases e : i = j
  · subst e
    rw [if_pos rfl] at hj ⊢
    split at hj
    · rename_i hlt
      injection hj with hj
      subst hj
      rw [if_pos (by rw [h.1]; exact hlt)]
      exact ⟨B, c, rfl, hM, hc, fun b _ => hx b⟩
    · cases hj
  · rw [if_neg e] at hj ⊢
    exact h.2 j L hj

def WithTold (R : List RS) (i : Nat) (r : RS) (w : World) (e : Ending) (w' : World) : Prop :=
  ∃ (g cap : Nat), e = .returned (.slice (some ⟨g, 0, none⟩) R.length cap) ∧ RowAt rsv 1 w' (some ⟨g, 0, none⟩) (R.set i r) ∧ Below w.heap.size w w' ∧ w.heap.size ≤ g ∧ R.length ≤ cap
theorem append_rows {w0 w : World} {v : Value} {L M : List RS} (h : OwnR rsv 1 58 w0 w v L) {A : Option Addr} (m c : Nat) (hA : RowAt rsv 1 w A M) (hm : M.length = m) (Y : List RS) (hY : Y = L ++ M) (hb : Y.length ≤ 1048576) :
    ∃ A' c' w', (Builtin.append_ #[26, 26] 26 #[v, .slice A m c]).run Try.prog w = .ok (.slice A' Y.length c') w' ∧ OwnR rsv 1 58 w0 w' (.slice A' Y.length c') Y ∧ w.grownBy w' v.ownBlock :=
  OwnR.append rs_len rs_one (by decide) infoL rfl Try.underlying26 (by decide) h m c hA hm Y hY hb

set_option maxHeartbeats 2000000 in
theorem rwith_any (A : Option Addr) (R : List RS) (n cap i : Nat) (B : Option Addr) (m c : Nat) (w : World) (hR : RowAt rsv 1 w A R) (hn : R.length = n) (hi : i < R.length) (h1 : R.length ≤ 1000) :
    Calls Try.prog 38 #[.slice A n cap, .int .i64 (i : Nat), .slice B m c] w (WithTold R i (B, m, c) w) := by
  subst hn
  obtain ⟨A', c', w2, hrun, hown, hgr⟩ := append_rows (OwnR.nil w) R.length cap hR rfl R rfl (by omega)
  obtain ⟨g, cs, rfl, hbk, hsz, hfl, hg, -, hcp, -⟩ := hown.filled rs_len (by omega)
  have HR := Lib.hid hrun
  have HB2 := Lib.hid hown.2
  have HBK := Lib.hid hbk
  have HFL := Lib.hid hfl
  have HG : Hid (w.heap.size ≤ g) := Lib.hid hg
  have hil : i < cs.size := by omega
  have z0 := (Blk.cell HBK.out i).trans (Array.getElem?_eq_getElem hil)
  have q0 := Blk.frozen HBK.out i
  have hadd := add_zero_block g i
  clear hrun hown hgr hbk hfl hR hg hsz
  go_enter Try.func38, Try.ntmps38
  go_wp2_with (at_builtin; refine wpList_append_run rfl rfl (by simp [Region.wanted]) rfl rfl HR.out ?_)
  go_ret
  have hb3 : Below w.heap.size w (w2.setCell ⟨g, i, none⟩ (.slice B m c)) := HB2.out.setCell HG.out _
  have hk3 := Blk.set_ HBK.out i (.slice B m c)
  refine ⟨g, c', rfl, fun _ => ⟨_, rfl, hk3.lt, fun k r hk j u hu => ?_⟩, hb3, HG.out, hcp⟩
  rw [add_zero_block, hk3.cell]
  cases j with
  | succ j => simp [rsv] at hu
  | zero =>
    rw [Nat.mul_one, Nat.add_zero]
    rw [List.getElem?_set] at hk
    by_cases e : i = k
    · subst e
      rw [if_pos rfl, if_pos hi] at hk
      injection hk with hk
      subst hk
      rw [Array.getElem?_setIfInBounds_self_of_lt hil]
      exact hu
    · rw [if_neg e] at hk
      have h4 := HFL.out k _ (List.getElem?_eq_some_iff.1 hk).1 hk 0 u hu
      rw [Nat.mul_one, Nat.add_zero] at h4
      rw [Array.getElem?_setIfInBounds_ne e]
      exact h4

theorem get_cases {c : Ca} (h : RightC c) {l r s : ByteArray} {d : Ca} {b : Int} (hm : getC c l r = (s, d, b)) :
    (c.at_ l r = none ∧ s = ⟨#[]⟩ ∧ d = { c with misses := more c.misses 1 } ∧ b = 10) ∨
    (∃ x, c.at_ l r = some x ∧ ¬ (x.left = l ∧ x.right = r) ∧ s = ⟨#[]⟩ ∧ d = { c with clashes := more c.clashes 1 } ∧ b = 10) ∨
    (∃ x, c.at_ l r = some x ∧ x.left = l ∧ x.right = r ∧ s = x.val ∧ d = { c with parts := c.parts.set (c.num l r) (x :: withoutS (c.part (c.num l r)) (c.key l r)), hits := more c.hits 1 } ∧ b = 0) := by
  have hw := get_way h l r
  rw [hm] at hw
  cases hw with
  | none h1 => exact .inl ⟨h1, rfl, rfl, rfl⟩
  | clash x h1 h2 => exact .inr (.inl ⟨x, h1, h2, rfl, rfl, rfl⟩)
  | hit x h1 h2 h3 => exact .inr (.inr ⟨x, h1, h2, h3, rfl, rfl, rfl⟩)
/-- what is found there, as chapter 13 tells it -/
theorem at_get {c : Ca} {l r : ByteArray} {p q : Int} {i : Nat} {L : List Sl} (hpq : c.key l r = (p, q)) (hi : partN c.parts.length (p, q) = i) (hL : c.parts[i]? = some L) :
    c.at_ l r = findS L (p, q) ∧ c.part (c.num l r) = L ∧ c.num l r = i := by
  have hn : c.num l r = i := by unfold Ca.num; rw [hpq]; exact hi
  have hp : c.part (c.num l r) = L := by rw [hn]; exact part_is hL
  exact ⟨by unfold Ca.at_; rw [hp, hpq], hp, hn⟩
theorem getM_none {L : List Sl} {k : Int × Int} (hr : rightB L = true) (h : findS L k = none) : getM L k = (zeroS, [], 10) := by unfold getM; rw [if_pos hr, h]
theorem getM_some {L : List Sl} {k : Int × Int} {x : Sl} (hr : rightB L = true) (h : findS L k = some x) : getM L k = (x, x :: withoutS L k, 0) := by unfold getM; rw [if_pos hr, h]

end Go.Proofs.Ytjifmfgfmciaeaa
