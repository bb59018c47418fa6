/-
  Plain mathematics of CacheParts and CacheAgain: with all bits the keys of the texts here are unlike; with room for all in each part nothing goes out.
-/
import Derived.Test.YtjifmfgfmciaeaaLw
namespace Go.Proofs.Ytjifmfgfmciaeaa

def keyT (i : Nat) : Int × Int := bothK (textOf ((i / 6 : Nat) : Int)) (textOf ((i % 6 : Nat) : Int)) 64
theorem keys_nodup : ((List.range 36).map keyT).Nodup := by decide +kernel
theorem key_inj {a b a' b' : Nat} (ha : a < 6) (hb : b < 6) (ha' : a' < 6) (hb' : b' < 6) (h : bothK (textOf (a : Int)) (textOf (b : Int)) 64 = bothK (textOf (a' : Int)) (textOf (b' : Int)) 64) : a = a' ∧ b = b' := by
  have e : ∀ a b : Nat, b < 6 → keyT (a * 6 + b) = bothK (textOf (a : Int)) (textOf (b : Int)) 64 := fun a b hb => by
    unfold keyT
    rw [show (a * 6 + b) / 6 = a by omega, show (a * 6 + b) % 6 = b by omega]
  rw [← e a b hb, ← e a' b' hb'] at h
  have hn := List.pairwise_iff_getElem.1 keys_nodup
  have hne : ∀ i j : Nat, i < j → j < 36 → keyT i ≠ keyT j := fun i j hij hj => by
    have := hn i j (by simp; omega) (by simp; omega) hij
    simpa using this
  rcases Nat.lt_trichotomy (a * 6 + b) (a' * 6 + b') with g | g | g
  · exact absurd h (hne _ _ g (by omega))
  · omega
  · exact absurd h.symm (hne _ _ g (by omega))
theorem text_at (i : Nat) (h : i < 6) : textOf (i : Int) = textN i := by
  unfold textOf pickI pos
  rw [if_neg (by omega)]
  congr 1
  omega

/-- the slot of two texts, with all bits -/
def slotT (l r v : ByteArray) : Sl := ⟨(bothK l r 64).1, (bothK l r 64).2, l, r, v⟩
theorem without_len {c : Ca} (h : RightC c) (l r v : ByteArray) : (c.allP l r v).length = (c.part (c.num l r)).length + (if (c.at_ l r).isSome then 0 else 1) := by
  have e : (c.allP l r v).length = (withoutS (c.part (c.num l r)) (c.key l r)).length + 1 := rfl
  cases ha : c.at_ l r with
  | some x =>
    have := (got_part h ha).2.1
    rw [List.length_cons] at this
    rw [e, this]
    rfl
  | none =>
    have hf : withoutS (c.part (c.num l r)) (c.key l r) = c.part (c.num l r) := by
      unfold withoutS P13.without
      rw [List.filter_eq_self]
      intro s hs
      have h1 : findS (c.part (c.num l r)) (c.key l r) = none := ha
      unfold findS at h1
      have := List.find?_eq_none.1 h1 s hs
      simpa using this
    rw [e, hf]
    rfl
/-- what has been put in a cache with room for all, and all bits -/
structure Prt (c : Ca) (V : Nat → Nat → Option ByteArray) (k : Nat) : Prop where
  good : Good c k
  width : c.width = 64
  room : c.room = 1600
  at_ : ∀ a b : Nat, a < 6 → b < 6 → c.at_ (textOf (a : Int)) (textOf (b : Int)) = (V a b).map (slotT (textOf (a : Int)) (textOf (b : Int)))
  evicted : c.evicted = 0
  clashes : c.clashes = 0
def setV (V : Nat → Nat → Option ByteArray) (a b : Nat) (v : ByteArray) : Nat → Nat → Option ByteArray := fun i j => if i = a ∧ j = b then some v else V i j
theorem Prt.fits {c : Ca} {V : Nat → Nat → Option ByteArray} {k : Nat} (h : Prt c V k) (hk : k ≤ 90) (l r v : ByteArray) : (c.allP l r v).length ≤ c.roomP l r := by
  have h1 := (all_len h.good.right l r v).2
  have h2 : (c.part (c.num l r)).length ≤ sizeC c := len_le_size (part_mem (Ca.num_lt h.good.right l r))
  have h3 := h.good.size
  have h4 := h.good.right.n1
  have h5 := h.good.right.n2
  have h6 : 100 ≤ c.roomP l r := by
    unfold Ca.roomP roomN
    rw [h.room]
    have : 100 ≤ 1600 / c.parts.length := (Nat.le_div_iff_mul_le h4).2 (by omega)
    have e : (1600 : Int).toNat = 1600 := rfl
    rw [e]
    omega
  omega
theorem Prt.put {c : Ca} {V : Nat → Nat → Option ByteArray} {k : Nat} (h : Prt c V k) (hk : k ≤ 90) {a b : Nat} (ha : a < 6) (hb : b < 6) {v : ByteArray} (hv : v.size ≤ 4096) :
    Prt (putC c (textOf (a : Int)) (textOf (b : Int)) v).1 (setV V a b v) (k + 1) ∧ (putC c (textOf (a : Int)) (textOf (b : Int)) v).2 = 0 ∧ (putC c (textOf (a : Int)) (textOf (b : Int)) v).1.hits = c.hits ∧ (putC c (textOf (a : Int)) (textOf (b : Int)) v).1.misses = c.misses ∧
      sizeC (putC c (textOf (a : Int)) (textOf (b : Int)) v).1 = sizeC c + (if (V a b).isSome then 0 else 1) := by
  have hr := h.good.right
  have hfit := h.fits hk (textOf (a : Int)) (textOf (b : Int)) v
  have hq := put_eq hr (textOf (a : Int)) (textOf (b : Int)) v
  have hd : ((c.allP (textOf (a : Int)) (textOf (b : Int)) v).drop (c.roomP (textOf (a : Int)) (textOf (b : Int)))).length = 0 := by rw [List.length_drop]; omega
  have hw : (putC c (textOf (a : Int)) (textOf (b : Int)) v).1.width = c.width := by rw [hq]
  have hs := size_put hr (textOf (a : Int)) (textOf (b : Int)) v
  have hl := without_len hr (textOf (a : Int)) (textOf (b : Int)) v
  have hat := h.at_ a b ha hb
  have hroom : 0 < c.roomP (textOf (a : Int)) (textOf (b : Int)) := by
    have : 0 < (c.allP (textOf (a : Int)) (textOf (b : Int)) v).length := Nat.succ_pos _
    omega
  refine ⟨⟨h.good.put _ _ _ (Nat.le_trans (textOf_size _) (by omega)) (Nat.le_trans (textOf_size _) (by omega)) hv, by rw [hw]; exact h.width, by rw [hq]; exact h.room, fun i j hi hj => ?_, ?_, by rw [hq]; exact h.clashes⟩, by rw [hq], by rw [hq], by rw [hq], ?_⟩
  · unfold setV
    by_cases e : i = a ∧ j = b
    · obtain ⟨rfl, rfl⟩ := e
      rw [if_pos ⟨rfl, rfl⟩, at_put_same hr _ _ _ _ _ rfl, if_pos hroom]
      unfold Ca.slot Ca.key slotT
      rw [h.width]
      rfl
    · rw [if_neg e, at_put_room hr _ _ _ _ _ (fun hk => e ?_) hfit]
      · exact h.at_ i j hi hj
      · unfold Ca.key at hk
        rw [h.width] at hk
        exact key_inj hi hj ha hb hk
  · rw [hq]
    show more c.evicted _ = 0
    rw [hd, h.evicted]
    rfl
  · rw [hat] at hl
    have : ((V a b).map (slotT (textOf (a : Int)) (textOf (b : Int)))).isSome = (V a b).isSome := by cases V a b <;> rfl
    rw [this] at hl
    omega
theorem Prt.get {c : Ca} {V : Nat → Nat → Option ByteArray} {k : Nat} (h : Prt c V k) {a b : Nat} (ha : a < 6) (hb : b < 6) :
    Prt (getC c (textOf (a : Int)) (textOf (b : Int))).2.1 V k ∧ (getC c (textOf (a : Int)) (textOf (b : Int))).1 = (V a b).getD ⟨#[]⟩ ∧ (getC c (textOf (a : Int)) (textOf (b : Int))).2.2 = (if (V a b).isSome then 0 else 10) ∧
      (getC c (textOf (a : Int)) (textOf (b : Int))).2.1.hits = (if (V a b).isSome then more c.hits 1 else c.hits) ∧ (getC c (textOf (a : Int)) (textOf (b : Int))).2.1.misses = (if (V a b).isSome then c.misses else more c.misses 1) ∧ sizeC (getC c (textOf (a : Int)) (textOf (b : Int))).2.1 = sizeC c := by
  have hr := h.good.right
  have hat := h.at_ a b ha hb
  have hg := h.good.get (textOf (a : Int)) (textOf (b : Int))
  have hs := size_get hr (textOf (a : Int)) (textOf (b : Int))
  have hk : ∀ i j : Nat, i < 6 → j < 6 → (getC c (textOf (a : Int)) (textOf (b : Int))).2.1.at_ (textOf (i : Int)) (textOf (j : Int)) = (V i j).map (slotT (textOf (i : Int)) (textOf (j : Int))) := fun i j hi hj => by rw [at_got hr, h.at_ i j hi hj]
  have hw := get_way hr (textOf (a : Int)) (textOf (b : Int))
  generalize getC c (textOf (a : Int)) (textOf (b : Int)) = g at hw hg hs hk
  cases hw with
  | none h1 =>
    rw [h1] at hat
    have hv : V a b = none := by cases hv : V a b with | none => rfl | some v => rw [hv] at hat; cases hat
    rw [hv]
    exact ⟨⟨hg, h.width, h.room, hk, h.evicted, h.clashes⟩, rfl, rfl, rfl, rfl, hs⟩
  | clash x h1 h2 =>
    exfalso
    rw [h1] at hat
    cases hv : V a b with
    | none => rw [hv] at hat; cases hat
    | some v =>
      rw [hv] at hat
      injection hat with hat
      exact h2 (by rw [hat]; exact ⟨rfl, rfl⟩)
  | hit x h1 h2 h3 =>
    rw [h1] at hat
    cases hv : V a b with
    | none => rw [hv] at hat; cases hat
    | some v =>
      rw [hv] at hat
      injection hat with hat
      refine ⟨⟨hg, h.width, h.room, hk, h.evicted, h.clashes⟩, by rw [hat]; rfl, rfl, rfl, rfl, hs⟩
theorem Prt.new {p : Int} (h : fitsB p 1600 64 = true) : Prt (newC p 1600 64).1 (fun _ _ => none) 0 := by
  have hp : (newC p 1600 64).1 = ⟨64, 1600, List.replicate p.toNat [], 0, 0, 0, 0⟩ := by unfold newC; rw [if_pos h]
  refine ⟨Good.new h, by rw [hp], by rw [hp], fun a b _ _ => ?_, by rw [hp], by rw [hp]⟩
  rw [hp]
  unfold Ca.at_ Ca.part
  simp only [List.getElem?_replicate]
  split <;> rfl
/-- two caches in which the same has been put -/
structure Prt2 (c d : Ca) (V : Nat → Nat → Option ByteArray) (k : Nat) : Prop where
  one : Prt c V k
  two : Prt d V k
  hits : c.hits = d.hits
  misses : c.misses = d.misses
  size : sizeC c = sizeC d
theorem Prt2.put {c d : Ca} {V : Nat → Nat → Option ByteArray} {k : Nat} (h : Prt2 c d V k) (hk : k ≤ 90) {a b : Nat} (ha : a < 6) (hb : b < 6) {v : ByteArray} (hv : v.size ≤ 4096) :
    Prt2 (putC c (textOf (a : Int)) (textOf (b : Int)) v).1 (putC d (textOf (a : Int)) (textOf (b : Int)) v).1 (setV V a b v) (k + 1) := by
  obtain ⟨a1, a2, a3, a4, a5⟩ := h.one.put hk ha hb hv
  obtain ⟨b1, b2, b3, b4, b5⟩ := h.two.put hk ha hb hv
  exact ⟨a1, b1, by rw [a3, b3, h.hits], by rw [a4, b4, h.misses], by rw [a5, b5, h.size]⟩
theorem Prt2.get {c d : Ca} {V : Nat → Nat → Option ByteArray} {k : Nat} (h : Prt2 c d V k) {a b : Nat} (ha : a < 6) (hb : b < 6) :
    Prt2 (getC c (textOf (a : Int)) (textOf (b : Int))).2.1 (getC d (textOf (a : Int)) (textOf (b : Int))).2.1 V (k + 1) := by
  obtain ⟨a1, a2, a3, a4, a5, a6⟩ := h.one.get ha hb
  obtain ⟨b1, b2, b3, b4, b5, b6⟩ := h.two.get ha hb
  exact ⟨⟨a1.good.mono (by omega), a1.width, a1.room, a1.at_, a1.evicted, a1.clashes⟩, ⟨b1.good.mono (by omega), b1.width, b1.room, b1.at_, b1.evicted, b1.clashes⟩, by rw [a4, b4, h.hits], by rw [a5, b5, h.misses], by rw [a6, b6, h.size]⟩

end Go.Proofs.Ytjifmfgfmciaeaa
