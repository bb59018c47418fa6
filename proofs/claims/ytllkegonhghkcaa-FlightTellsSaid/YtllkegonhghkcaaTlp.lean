/-
  Any fills, cut to at most six: plain mathematics.
-/
import Derived.Test.YtllkegonhghkcaaOpf
import Derived.Test.YtllkegonhghkcaaApp
namespace Go.Proofs.Ytllkegonhghkcaa
open Go.RowKit P15

/-- not too many, and numbers and texts such as there are -/
structure Lim (L : List Fl) (m : Nat) : Prop where
  len : L.length ≤ m
  each : ∀ x ∈ L, x.wait.length ≤ m ∧ x.left.size ≤ 140737488351232 ∧ x.right.size ≤ 140737488351232
  nums : ∀ n ∈ P15.nums L, I64 n
theorem Lim.fit {L : List Fl} {m : Nat} (h : Lim L m) (hm : m ≤ 1000) : FitF L := ⟨Nat.le_trans h.len hm, fun x hx => ⟨Nat.le_trans (h.each x hx).1 hm, (h.each x hx).2⟩, h.nums⟩
theorem Lim.nil (m : Nat) : Lim [] m := ⟨Nat.zero_le _, fun x hx => (by cases hx), fun n hn => (by cases hn)⟩
theorem Lim.begin {L N : List Fl} {m : Nat} {l r : ByteArray} {who e : Int} {b : Bool} (h : Lim L m) (hb : beginF L l r who = (b, N, e)) (hw : I64 who) (h1 : Txt l) (h2 : Txt r) : Lim N (m + 1) := by
  have hl := h.len
  cases hr : rightB L with
  | false => rw [beginF_wrong hr] at hb; injection hb with _ hb; injection hb with hb _; rw [← hb]; exact Lim.nil _
  | true =>
    by_cases hn : who ∈ P15.nums L
    · rw [beginF_twice hr hn] at hb; injection hb with _ hb; injection hb with hb _; rw [← hb]; exact Lim.nil _
    · by_cases ht : (l, r) ∈ txts L
      · rw [beginF_join hr hn ht] at hb; injection hb with _ hb; injection hb with hb _
        rw [← hb]
        refine ⟨by unfold joined; rw [List.length_map]; omega, fun y hy => ?_, fun n hnn => ?_⟩
        · obtain ⟨x, hx, rfl⟩ := List.mem_map.1 hy
          have := h.each x hx
          split
          · exact ⟨by show (x.wait ++ [who]).length ≤ m + 1; rw [List.length_append, List.length_singleton]; omega, this.2⟩
          · exact ⟨by omega, this.2⟩
        · rcases mem_joined hnn with hnn | rfl
          · exact h.nums n hnn
          · exact hw
      · rw [beginF_new hr hn ht] at hb; injection hb with _ hb; injection hb with hb _
        rw [← hb]
        refine ⟨by rw [List.length_append, List.length_singleton]; omega, fun y hy => ?_, fun n hnn => ?_⟩
        · rcases List.mem_append.1 hy with hy | hy
          · have := h.each y hy; exact ⟨by omega, this.2⟩
          · rw [List.mem_singleton.1 hy]; exact ⟨Nat.zero_le _, h1, h2⟩
        · rw [nums_append] at hnn
          rcases List.mem_append.1 hnn with hnn | hnn
          · exact h.nums n hnn
          · have : n = who := by simpa [P15.nums, Fl.nums] using hnn
            rw [this]; exact hw
theorem Lim.done {L N : List Fl} {m : Nat} {l : List Int} {who e : Int} (h : Lim L m) (hb : doneF L who = (l, N, e)) : Lim N m ∧ l.length ≤ m := by
  cases hr : rightB L with
  | false => rw [doneF_wrong hr] at hb; injection hb with h1 hb; injection hb with hb _; rw [← hb, ← h1]; exact ⟨Lim.nil _, Nat.zero_le _⟩
  | true =>
    by_cases hw : who ∈ bys L
    · obtain ⟨x, hx, hxb⟩ := mem_bys.1 hw
      rw [doneF_some hr hx hxb] at hb
      injection hb with h1 hb; injection hb with hb _
      rw [← hb, ← h1]
      have hs := sub_ended L who
      exact ⟨⟨Nat.le_trans hs.length_le h.len, fun y hy => h.each y (hs.subset hy), fun n hn => h.nums n ((nums_sub hs).subset hn)⟩, (h.each x hx).1⟩
    · rw [doneF_none hr hw] at hb; injection hb with h1 hb; injection hb with hb _; rw [← hb, ← h1]; exact ⟨Lim.nil _, Nat.zero_le _⟩
theorem Lim.leave {L N : List Fl} {m : Nat} {who e : Int} (h : Lim L m) (hb : leaveF L who = (N, e)) : Lim N m := by
  cases hr : rightB L with
  | false => rw [leaveF_wrong hr] at hb; injection hb with hb _; rw [← hb]; exact Lim.nil _
  | true =>
    by_cases hw : who ∈ waits L
    · rw [leaveF_some hr hw] at hb
      injection hb with hb _
      rw [← hb]
      refine ⟨by unfold gone; rw [List.length_map]; exact h.len, fun y hy => ?_, fun n hn => h.nums n (mem_gone hn)⟩
      obtain ⟨x, hx, rfl⟩ := List.mem_map.1 hy
      have := h.each x hx
      exact ⟨Nat.le_trans (without_len _ _) this.1, this.2⟩
    · rw [leaveF_none hr hw] at hb; injection hb with hb _; rw [← hb]; exact Lim.nil _
theorem GoodF.lim {L : List Fl} (h : GoodF L) : Lim L 8 := by
  have hs := h.small
  exact ⟨hs.1, fun x hx => by have := hs.2 x hx; have := h.size x hx; omega, fun n hn => by have := h.rng n hn; exact ⟨by omega, by omega⟩⟩
/-- the first fills, of each the first who wait -/
def cutF (x : Fw) : Fl := ⟨x.left, x.right, x.by_, x.wait.take 6⟩
def oddF (R : List Fw) : List Fl := (R.take 6).map cutF
theorem odd_lim {W : World} {A : Option Addr} {R : List Fw} (h : RawG W A R) : Lim (oddF R) 8 := by
  refine ⟨by unfold oddF; rw [List.length_map, List.length_take]; omega, fun y hy => ?_, fun n hn => ?_⟩
  · obtain ⟨x, hx, rfl⟩ := List.mem_map.1 hy
    have := h.fit x (List.mem_of_mem_take hx)
    exact ⟨by show (x.wait.take 6).length ≤ 8; rw [List.length_take]; omega, by show x.left.size ≤ _; omega, by show x.right.size ≤ _; omega⟩
  · obtain ⟨y, hy, hn⟩ := mem_nums.1 hn
    obtain ⟨x, hx, rfl⟩ := List.mem_map.1 hy
    have := h.fit x (List.mem_of_mem_take hx)
    rcases hn with rfl | hn
    · exact this.2.2.1
    · exact this.2.2.2.1 n (List.mem_of_mem_take hn)

end Go.Proofs.Ytllkegonhghkcaa
