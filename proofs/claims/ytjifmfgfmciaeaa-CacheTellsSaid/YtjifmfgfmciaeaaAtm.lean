/-
  Plain mathematics of chapter 14: what a Get, or a Put, changes of what is told of other texts; there are never more slots than room.
-/
import Derived.Test.YtjifmfgfmciaeaaOk
namespace Go.Proofs.Ytjifmfgfmciaeaa

theorem find_without {L : List Sl} {k k' : Int × Int} (h : k' ≠ k) : findS (withoutS L k) k' = findS L k' := by
  unfold findS withoutS P13.without
  rw [List.find?_filter]
  congr 1
  funext s
  by_cases e : s.key = k'
  · have : s.key ≠ k := fun e2 => h (e.symm.trans e2)
    simp [e, h]
  · simp [e]
theorem find_got {L : List Sl} (hr : rightB L = true) {x : Sl} (hx : x ∈ L) (k' : Int × Int) : findS (x :: withoutS L x.key) k' = findS L k' := by
  by_cases e : x.key = k'
  · subst e
    have h1 : findS L x.key = some x := P13.find_of (rightB_iff.1 hr) hx
    rw [h1]
    unfold findS
    rw [List.find?_cons_of_pos (by simp)]
  · have h1 : findS (x :: withoutS L x.key) k' = findS (withoutS L x.key) k' := by
      unfold findS
      rw [List.find?_cons_of_neg (by simpa using e)]
    rw [h1, find_without (fun h => e h.symm)]
theorem at_set {c : Ca} {i : Nat} (hi : i < c.parts.length) (L : List Sl) (a b d e : Int) (l r : ByteArray) :
    (⟨c.width, c.room, c.parts.set i L, a, b, d, e⟩ : Ca).at_ l r = if c.num l r = i then findS L (c.key l r) else c.at_ l r := by
  have hn : (⟨c.width, c.room, c.parts.set i L, a, b, d, e⟩ : Ca).num l r = c.num l r := by unfold Ca.num Ca.key; simp only [List.length_set]
  have hp : (⟨c.width, c.room, c.parts.set i L, a, b, d, e⟩ : Ca).part (c.num l r) = if c.num l r = i then L else c.part (c.num l r) := part_set hi
  unfold Ca.at_
  rw [hn, hp]
  show findS (if c.num l r = i then L else c.part (c.num l r)) (c.key l r) = _
  split <;> rfl
/-- who asks changes nothing of what is told -/
theorem at_got {c : Ca} (h : RightC c) (l r l' r' : ByteArray) : (getC c l r).2.1.at_ l' r' = c.at_ l' r' := by
  have hn := Ca.num_lt h l r
  have hw := get_way h l r
  generalize getC c l r = g at hw
  cases hw with
  | none => rfl
  | clash => rfl
  | hit x ha =>
    obtain ⟨hm, hk⟩ := at_mem ha
    show (⟨c.width, c.room, c.parts.set (c.num l r) (x :: withoutS (c.part (c.num l r)) (c.key l r)), _, _, _, _⟩ : Ca).at_ l' r' = _
    rw [at_set hn, ← hk, find_got (h.part _ hn).1 hm]
    split
    · rename_i e
      unfold Ca.at_
      rw [e]
    · rfl
/-- what is told of two texts behind a Put: of the same key, what was put, if there is room; of another key, what was told, or nothing -/
theorem at_put_same {c : Ca} (h : RightC c) (l r v l' r' : ByteArray) (hk : c.key l' r' = c.key l r) : (putC c l r v).1.at_ l' r' = if 0 < c.roomP l r then some (c.slot l r v) else none := by
  have hn := Ca.num_lt h l r
  have e : c.num l' r' = c.num l r := by unfold Ca.num; rw [hk]
  rw [put_eq h]
  show (⟨c.width, c.room, c.parts.set (c.num l r) ((c.allP l r v).take (c.roomP l r)), _, _, _, _⟩ : Ca).at_ l' r' = _
  rw [at_set hn, if_pos e, hk]
  split
  · rename_i h0
    exact P13.find_put (key := Sl.key) (l := c.part (c.num l r)) (s := c.slot l r v) h0
  · rename_i h0
    rw [show c.roomP l r = 0 by omega, List.take_zero]
    rfl
theorem at_put_other {c : Ca} (h : RightC c) (l r v l' r' : ByteArray) (hk : c.key l' r' ≠ c.key l r) : (putC c l r v).1.at_ l' r' = c.at_ l' r' ∨ (putC c l r v).1.at_ l' r' = none := by
  have hn := Ca.num_lt h l r
  rw [put_eq h]
  show (⟨c.width, c.room, c.parts.set (c.num l r) ((c.allP l r v).take (c.roomP l r)), _, _, _, _⟩ : Ca).at_ l' r' = _ ∨ (⟨c.width, c.room, c.parts.set (c.num l r) ((c.allP l r v).take (c.roomP l r)), _, _, _, _⟩ : Ca).at_ l' r' = _
  rw [at_set hn]
  split
  · rename_i e
    cases hf : findS ((c.allP l r v).take (c.roomP l r)) (c.key l' r') with
    | none => exact .inr rfl
    | some x =>
      left
      obtain ⟨hm, hkx⟩ := P13.find_some hf
      have hr := (h.part _ hn).1
      rcases P13.mem_all.1 (List.mem_of_mem_take hm) with rfl | ⟨h1, _⟩
      · exact absurd hkx (fun e2 => hk e2.symm)
      · unfold Ca.at_
        rw [e, ← hkx]
        exact (P13.find_of (rightB_iff.1 hr) h1).symm
  · exact .inl rfl
/-- with room for all in a part nothing goes out of it -/
theorem at_put_room {c : Ca} (h : RightC c) (l r v l' r' : ByteArray) (hk : c.key l' r' ≠ c.key l r) (hr : (c.allP l r v).length ≤ c.roomP l r) : (putC c l r v).1.at_ l' r' = c.at_ l' r' := by
  have hn := Ca.num_lt h l r
  rw [put_eq h]
  show (⟨c.width, c.room, c.parts.set (c.num l r) ((c.allP l r v).take (c.roomP l r)), _, _, _, _⟩ : Ca).at_ l' r' = _
  rw [at_set hn, List.take_of_length_le hr]
  split
  · rename_i e
    have h1 : findS (c.allP l r v) (c.key l' r') = findS (withoutS (c.part (c.num l r)) (c.key l r)) (c.key l' r') := by
      unfold Ca.allP findS
      show List.find? _ (c.slot l r v :: withoutS _ _) = _
      rw [List.find?_cons_of_neg (by simp; exact fun e2 => hk e2.symm)]
      rfl
    rw [h1, find_without hk]
    unfold Ca.at_
    rw [e]
  · rfl

/-! ### there are never more slots than room -/
theorem room_sum (n room : Nat) : ∀ m : Nat, ((List.range m).map fun i => room / n + (if i < room % n then 1 else 0)).sum = m * (room / n) + min m (room % n)
  | 0 => by simp
  | m + 1 => by
    rw [List.range_succ, List.map_append, List.sum_append, room_sum n room m, Nat.add_mul]
    simp only [List.map_cons, List.map_nil, List.sum_cons, List.sum_nil]
    split <;> omega
theorem sum_le {α : Type} (f g : α → Nat) : ∀ l : List α, (∀ x ∈ l, f x ≤ g x) → (l.map f).sum ≤ (l.map g).sum
  | [], _ => Nat.le_refl _
  | x :: l, h => by
    simp only [List.map_cons, List.sum_cons]
    have h1 := h x (List.mem_cons_self ..)
    have h2 := sum_le f g l fun y hy => h y (List.mem_cons_of_mem _ hy)
    omega
theorem parts_range (c : Ca) : c.parts = (List.range c.parts.length).map c.part := by
  apply List.ext_getElem
  · simp
  · intro i h1 h2
    simp [Ca.part, h1]
theorem size_room {c : Ca} (h : RightC c) : (sizeC c : Int) ≤ c.room := by
  have hn := h.n1
  have h1 : sizeC c = ((List.range c.parts.length).map fun i => (c.part i).length).sum := by
    unfold sizeC
    conv => lhs; rw [parts_range c]
    rw [List.map_map]
    rfl
  have h2 := sum_le (fun i => (c.part i).length) (fun i => c.room.toNat / c.parts.length + (if i < c.room.toNat % c.parts.length then 1 else 0)) (List.range c.parts.length) fun i hi => (h.part i (List.mem_range.1 hi)).2.1
  rw [room_sum] at h2
  have h3 : c.room.toNat % c.parts.length < c.parts.length := Nat.mod_lt _ hn
  have h4 := Nat.div_add_mod c.room.toNat c.parts.length
  have h5 := h.r1
  rw [h1]
  rw [Nat.min_eq_right (by omega)] at h2
  omega

/-! ### counts -/
/-- a Get is counted once: as a hit, a miss or a clash -/
theorem get_counts {c : Ca} (h : RightC c) (l r : ByteArray) (hb : c.hits < maxC ∧ c.misses < maxC ∧ c.clashes < maxC) :
    (getC c l r).2.1.hits + (getC c l r).2.1.misses + (getC c l r).2.1.clashes = c.hits + c.misses + c.clashes + 1 ∧ (getC c l r).2.1.evicted = c.evicted ∧
      (((getC c l r).2.2 = 0 ∧ (getC c l r).2.1.hits = c.hits + 1) ∨ ((getC c l r).2.2 = 10 ∧ (getC c l r).2.1.hits = c.hits)) := by
  have hw := get_way h l r
  obtain ⟨b1, b2, b3⟩ := hb
  generalize getC c l r = g at hw
  unfold maxC at b1 b2 b3
  cases hw with
  | none =>
    have e : more c.misses 1 = c.misses + 1 := by unfold more maxC; omega
    refine ⟨?_, rfl, .inr ⟨rfl, rfl⟩⟩
    show c.hits + more c.misses 1 + c.clashes = _
    rw [e]; omega
  | clash =>
    have e : more c.clashes 1 = c.clashes + 1 := by unfold more maxC; omega
    refine ⟨?_, rfl, .inr ⟨rfl, rfl⟩⟩
    show c.hits + c.misses + more c.clashes 1 = _
    rw [e]; omega
  | hit =>
    have e : more c.hits 1 = c.hits + 1 := by unfold more maxC; omega
    refine ⟨?_, rfl, .inl ⟨rfl, e⟩⟩
    show more c.hits 1 + c.misses + c.clashes = _
    rw [e]; omega
theorem put_counts {c : Ca} (h : RightC c) (l r v : ByteArray) (hb : c.evicted < 1000000) :
    (putC c l r v).1.hits = c.hits ∧ (putC c l r v).1.misses = c.misses ∧ (putC c l r v).1.clashes = c.clashes ∧ c.evicted ≤ (putC c l r v).1.evicted ∧ (putC c l r v).1.evicted ≤ c.evicted + ((c.allP l r v).drop (c.roomP l r)).length := by
  rw [put_eq h]
  refine ⟨rfl, rfl, rfl, ?_, ?_⟩
  · show c.evicted ≤ more c.evicted _
    unfold more maxC; omega
  · show more c.evicted _ ≤ _
    unfold more; omega

end Go.Proofs.Ytjifmfgfmciaeaa
