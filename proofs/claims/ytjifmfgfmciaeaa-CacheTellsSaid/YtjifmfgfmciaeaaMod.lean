/-
  Plain mathematics of chapter 14: a cache as numbers and lists of slots, what is asked of it, and put, and what follows. No walk of a function of the program.
-/
import Derived.Test.YtjifmfgfmciaeaaGet
import Derived.Test.YtjifmfgfmciaeaaSmPlain
namespace Go.Proofs.Ytjifmfgfmciaeaa
open Sm

/-- a cache -/
structure Ca where
  width : Int
  room : Int
  parts : List (List Sl)
  hits : Int
  misses : Int
  clashes : Int
  evicted : Int
def maxC : Int := 1099511627776
def zeroC : Ca := ⟨0, 0, [], 0, 0, 0, 0⟩
def fitsB (p r w : Int) : Bool := decide (1 ≤ p ∧ p ≤ 16 ∧ 0 ≤ r ∧ r ≤ 4096 ∧ 0 ≤ w ∧ w ≤ 64)
def countB (n : Int) : Bool := decide (0 ≤ n ∧ n ≤ maxC)
/-- the key of two texts -/
def bothK (l r : ByteArray) (w : Int) : Int × Int := (((low (two l.data.toList r.data.toList) w : Nat) : Int), (l.size : Int) + (r.size : Int))
/-- the room of a part, and the part of a key -/
def roomN (n : Nat) (room : Int) (i : Nat) : Nat := room.toNat / n + (if i < room.toNat % n then 1 else 0)
def partN (n : Nat) (k : Int × Int) : Nat := k.1.toNat % n
def slotB (w : Int) (n i : Nat) (s : Sl) : Bool := decide (s.key = bothK s.left s.right w ∧ partN n s.key = i)
def partB (w room : Int) (n i : Nat) (L : List Sl) : Bool := rightB L && decide (L.length ≤ roomN n room i) && L.all (slotB w n i)
def Ca.part (c : Ca) (i : Nat) : List Sl := c.parts[i]?.getD []
def partsB (c : Ca) (m : Nat) : Bool := (List.range m).all fun i => partB c.width c.room c.parts.length i (c.part i)
def rightC (c : Ca) : Bool := fitsB c.parts.length c.room c.width && (countB c.hits && countB c.misses && countB c.clashes && countB c.evicted) && partsB c c.parts.length
def newC (p r w : Int) : Ca × Int := if fitsB p r w then (⟨w, r, List.replicate p.toNat [], 0, 0, 0, 0⟩, 0) else (zeroC, 1)
def sizeC (c : Ca) : Nat := (c.parts.map List.length).sum
/-- what is counted once more, or so many times -/
def more (n : Int) (k : Nat) : Int := min (n + k) maxC
def Ca.key (c : Ca) (l r : ByteArray) : Int × Int := bothK l r c.width
def Ca.num (c : Ca) (l r : ByteArray) : Nat := partN c.parts.length (c.key l r)
/-- the slot of the key of two texts -/
def Ca.at_ (c : Ca) (l r : ByteArray) : Option Sl := findS (c.part (c.num l r)) (c.key l r)
def getC (c : Ca) (l r : ByteArray) : ByteArray × Ca × Int :=
  if rightC c then (match c.at_ l r with
    | none => (⟨#[]⟩, { c with misses := more c.misses 1 }, 10)
    | some x => if x.left = l ∧ x.right = r then (x.val, { c with parts := c.parts.set (c.num l r) (x :: withoutS (c.part (c.num l r)) (c.key l r)), hits := more c.hits 1 }, 0)
      else (⟨#[]⟩, { c with clashes := more c.clashes 1 }, 10)) else (⟨#[]⟩, zeroC, 1)
/-- the slot that is put -/
def Ca.slot (c : Ca) (l r v : ByteArray) : Sl := ⟨(c.key l r).1, (c.key l r).2, l, r, v⟩
def Ca.allP (c : Ca) (l r v : ByteArray) : List Sl := allS (c.part (c.num l r)) (c.slot l r v)
def Ca.roomP (c : Ca) (l r : ByteArray) : Nat := roomN c.parts.length c.room (c.num l r)
def putC (c : Ca) (l r v : ByteArray) : Ca × Int :=
  if rightC c then ({ c with parts := c.parts.set (c.num l r) ((c.allP l r v).take (c.roomP l r)), evicted := more c.evicted ((c.allP l r v).drop (c.roomP l r)).length }, 0) else (zeroC, 1)

/-! ### a cache that is right -/
structure RightC (c : Ca) : Prop where
  n1 : 1 ≤ c.parts.length
  n2 : c.parts.length ≤ 16
  r1 : 0 ≤ c.room
  r2 : c.room ≤ 4096
  w1 : 0 ≤ c.width
  w2 : c.width ≤ 64
  ch : 0 ≤ c.hits ∧ c.hits ≤ maxC
  cm : 0 ≤ c.misses ∧ c.misses ≤ maxC
  cc : 0 ≤ c.clashes ∧ c.clashes ≤ maxC
  ce : 0 ≤ c.evicted ∧ c.evicted ≤ maxC
  part : ∀ i, i < c.parts.length → rightB (c.part i) = true ∧ (c.part i).length ≤ roomN c.parts.length c.room i ∧ ∀ s ∈ c.part i, s.key = bothK s.left s.right c.width ∧ partN c.parts.length s.key = i
theorem partB_iff {w room : Int} {n i : Nat} {L : List Sl} : partB w room n i L = true ↔ rightB L = true ∧ L.length ≤ roomN n room i ∧ ∀ s ∈ L, s.key = bothK s.left s.right w ∧ partN n s.key = i := by
  unfold partB slotB
  simp only [Bool.and_eq_true, List.all_eq_true, decide_eq_true_eq, and_assoc]
theorem partsB_iff {c : Ca} {m : Nat} : partsB c m = true ↔ ∀ i, i < m → partB c.width c.room c.parts.length i (c.part i) = true := by
  unfold partsB
  simp only [List.all_eq_true, List.mem_range]
theorem rightC_iff {c : Ca} : rightC c = true ↔ RightC c := by
  unfold rightC fitsB countB
  simp only [Bool.and_eq_true, decide_eq_true_eq, partsB_iff, partB_iff]
  constructor
  · rintro ⟨⟨⟨a, b, d, e, f, g⟩, ⟨⟨⟨h1, h2⟩, h3⟩, h4⟩⟩, k⟩
    exact ⟨by omega, by omega, d, e, f, g, h1, h2, h3, h4, k⟩
  · intro h
    have a := h.n1
    have b := h.n2
    exact ⟨⟨⟨by omega, by omega, h.r1, h.r2, h.w1, h.w2⟩, ⟨⟨⟨h.ch, h.cm⟩, h.cc⟩, h.ce⟩⟩, h.part⟩
theorem Ca.num_lt {c : Ca} (h : RightC c) (l r : ByteArray) : c.num l r < c.parts.length := Nat.mod_lt _ h.n1
theorem more_range {n : Int} (h : 0 ≤ n ∧ n ≤ maxC) (k : Nat) : 0 ≤ more n k ∧ more n k ≤ maxC := by unfold more maxC at *; omega
theorem part_set {c : Ca} {i j : Nat} {L : List Sl} (hi : i < c.parts.length) : ({ c with parts := c.parts.set i L } : Ca).part j = if j = i then L else c.part j := by
  unfold Ca.part
  simp only [List.getElem?_set]
  by_cases e : i = j
  · subst e; simp [hi]
  · rw [if_neg e, if_neg (fun h => e h.symm)]
/-- a part of a right cache that becomes another one -/
theorem RightC.set_ {c : Ca} (h : RightC c) {i : Nat} (hi : i < c.parts.length) {L : List Sl} (hL : rightB L = true) (hl : L.length ≤ roomN c.parts.length c.room i) (hs : ∀ s ∈ L, s.key = bothK s.left s.right c.width ∧ partN c.parts.length s.key = i)
    {a b d e : Int} (ha : 0 ≤ a ∧ a ≤ maxC) (hb : 0 ≤ b ∧ b ≤ maxC) (hd : 0 ≤ d ∧ d ≤ maxC) (he : 0 ≤ e ∧ e ≤ maxC) : RightC ⟨c.width, c.room, c.parts.set i L, a, b, d, e⟩ := by
  refine ⟨by simp; exact h.n1, by simp; exact h.n2, h.r1, h.r2, h.w1, h.w2, ha, hb, hd, he, fun j hj => ?_⟩
  have hj' : j < c.parts.length := by simpa using hj
  have e1 : (⟨c.width, c.room, c.parts.set i L, a, b, d, e⟩ : Ca).part j = if j = i then L else c.part j := part_set hi
  rw [e1]
  simp only [List.length_set]
  by_cases e2 : j = i
  · subst e2
    rw [if_pos rfl]
    exact ⟨hL, hl, hs⟩
  · rw [if_neg e2]
    exact h.part j hj'
theorem RightC.count {c : Ca} (h : RightC c) {a b d e : Int} (ha : 0 ≤ a ∧ a ≤ maxC) (hb : 0 ≤ b ∧ b ≤ maxC) (hd : 0 ≤ d ∧ d ≤ maxC) (he : 0 ≤ e ∧ e ≤ maxC) : RightC ⟨c.width, c.room, c.parts, a, b, d, e⟩ :=
  ⟨h.n1, h.n2, h.r1, h.r2, h.w1, h.w2, ha, hb, hd, he, h.part⟩
/-- what is asked for -/
inductive GetWay (c : Ca) (l r : ByteArray) : ByteArray × Ca × Int → Prop
  | none (h : c.at_ l r = none) : GetWay c l r (⟨#[]⟩, { c with misses := more c.misses 1 }, 10)
  | clash (x : Sl) (h : c.at_ l r = some x) (hn : ¬ (x.left = l ∧ x.right = r)) : GetWay c l r (⟨#[]⟩, { c with clashes := more c.clashes 1 }, 10)
  | hit (x : Sl) (h : c.at_ l r = some x) (h1 : x.left = l) (h2 : x.right = r) : GetWay c l r (x.val, { c with parts := c.parts.set (c.num l r) (x :: withoutS (c.part (c.num l r)) (c.key l r)), hits := more c.hits 1 }, 0)
theorem get_way {c : Ca} (h : RightC c) (l r : ByteArray) : GetWay c l r (getC c l r) := by
  unfold getC
  rw [if_pos (rightC_iff.2 h)]
  cases ha : c.at_ l r with
  | none => exact .none ha
  | some x =>
    by_cases e : x.left = l ∧ x.right = r
    · simp only [if_pos e]; exact .hit x ha e.1 e.2
    · simp only [if_neg e]; exact .clash x ha e
theorem at_mem {c : Ca} {l r : ByteArray} {x : Sl} (h : c.at_ l r = some x) : x ∈ c.part (c.num l r) ∧ x.key = c.key l r := P13.find_some h
theorem put_eq {c : Ca} (h : RightC c) (l r v : ByteArray) : putC c l r v = ({ c with parts := c.parts.set (c.num l r) ((c.allP l r v).take (c.roomP l r)), evicted := more c.evicted ((c.allP l r v).drop (c.roomP l r)).length }, 0) := by
  unfold putC; rw [if_pos (rightC_iff.2 h)]
theorem slot_key (c : Ca) (l r v : ByteArray) : (c.slot l r v).key = c.key l r := rfl
theorem got_part {c : Ca} (h : RightC c) {l r : ByteArray} {x : Sl} (ha : c.at_ l r = some x) :
    rightB (x :: withoutS (c.part (c.num l r)) (c.key l r)) = true ∧ (x :: withoutS (c.part (c.num l r)) (c.key l r)).length = (c.part (c.num l r)).length ∧ ∀ s, s ∈ x :: withoutS (c.part (c.num l r)) (c.key l r) ↔ s ∈ c.part (c.num l r) := by
  obtain ⟨hm, hk⟩ := at_mem ha
  have hr := rightB_iff.1 (h.part _ (Ca.num_lt h l r)).1
  rw [← hk]
  refine ⟨rightB_iff.2 (hr.got x), P13.length_got hr hm, fun s => ?_⟩
  constructor
  · intro hs
    rcases List.mem_cons.1 hs with rfl | hs
    · exact hm
    · exact (P13.mem_without.1 hs).1
  · intro hs
    by_cases e : s.key = x.key
    · rw [hr.same hs hm e]; exact List.mem_cons_self ..
    · exact List.mem_cons_of_mem _ (P13.mem_without.2 ⟨hs, e⟩)
theorem right_get {c : Ca} (h : RightC c) (l r : ByteArray) : RightC (getC c l r).2.1 := by
  have hn := Ca.num_lt h l r
  have hw := get_way h l r
  generalize getC c l r = g at hw
  cases hw with
  | none => exact h.count h.ch (more_range h.cm 1) h.cc h.ce
  | clash => exact h.count h.ch h.cm (more_range h.cc 1) h.ce
  | hit x ha =>
    obtain ⟨h1, h2, h3⟩ := got_part h ha
    have hp := h.part _ hn
    exact h.set_ hn h1 (by rw [h2]; exact hp.2.1) (fun s hs => hp.2.2 s ((h3 s).1 hs)) (more_range h.ch 1) h.cm h.cc h.ce
theorem right_put {c : Ca} (h : RightC c) (l r v : ByteArray) : RightC (putC c l r v).1 := by
  have hn := Ca.num_lt h l r
  have hp := h.part _ hn
  rw [put_eq h]
  refine h.set_ hn ?_ ?_ ?_ h.ch h.cm h.cc (more_range h.ce _)
  · exact rightB_iff.2 (((rightB_iff.1 hp.1).all _).take _)
  · rw [List.length_take]; exact Nat.min_le_left _ _
  · intro s hs
    rcases P13.mem_all.1 (List.mem_of_mem_take hs) with rfl | ⟨h1, -⟩
    · exact ⟨rfl, rfl⟩
    · exact hp.2.2 s h1
theorem right_new {p r w : Int} (h : fitsB p r w = true) : RightC (newC p r w).1 := by
  unfold newC
  rw [if_pos h]
  unfold fitsB at h
  rw [decide_eq_true_eq] at h
  refine ⟨by simp; omega, by simp; omega, by simp; omega, by simp; omega, by simp; omega, by simp; omega, by simp [maxC], by simp [maxC], by simp [maxC], by simp [maxC], fun i hi => ?_⟩
  have e : (⟨w, r, List.replicate p.toNat [], 0, 0, 0, 0⟩ : Ca).part i = [] := by unfold Ca.part; simp [List.getElem?_replicate]; split <;> rfl
  rw [e]
  exact ⟨by rfl, by simp, fun s hs => by cases hs⟩

/-! ### how many there are -/
theorem sum_set : ∀ (P : List (List Sl)) (i : Nat) (L : List Sl), i < P.length → ((P.set i L).map List.length).sum + (P[i]?.getD []).length = (P.map List.length).sum + L.length
  | [], _, _, h => by simp at h
  | M :: P, 0, L, _ => by simp; omega
  | M :: P, i + 1, L, h => by
    have := sum_set P i L (by simpa using h)
    simp at this ⊢
    omega
theorem size_get {c : Ca} (h : RightC c) (l r : ByteArray) : sizeC (getC c l r).2.1 = sizeC c := by
  have hn := Ca.num_lt h l r
  have hw := get_way h l r
  generalize getC c l r = g at hw
  cases hw with
  | none => rfl
  | clash => rfl
  | hit x ha =>
    obtain ⟨h1, h2, h3⟩ := got_part h ha
    have := sum_set c.parts (c.num l r) (x :: withoutS (c.part (c.num l r)) (c.key l r)) hn
    unfold sizeC
    rw [h2] at this
    unfold Ca.part at this
    show ((c.parts.set _ _).map List.length).sum = _
    unfold Ca.part
    omega
theorem all_len {c : Ca} (h : RightC c) (l r v : ByteArray) : (c.part (c.num l r)).length ≤ (c.allP l r v).length ∧ (c.allP l r v).length ≤ (c.part (c.num l r)).length + 1 :=
  P13.length_all (rightB_iff.1 (h.part _ (Ca.num_lt h l r)).1) _
theorem size_put {c : Ca} (h : RightC c) (l r v : ByteArray) : sizeC (putC c l r v).1 + ((c.allP l r v).drop (c.roomP l r)).length + (c.part (c.num l r)).length = sizeC c + (c.allP l r v).length := by
  have hn := Ca.num_lt h l r
  rw [put_eq h]
  have := sum_set c.parts (c.num l r) ((c.allP l r v).take (c.roomP l r)) hn
  unfold sizeC
  simp only [List.length_drop, List.length_take] at *
  unfold Ca.part at *
  omega

end Go.Proofs.Ytjifmfgfmciaeaa
