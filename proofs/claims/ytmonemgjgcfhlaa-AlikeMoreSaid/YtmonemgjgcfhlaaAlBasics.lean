/-
  alike.Best, collatorlaw07.times, pick and awake, collatorref07.count: what they tell. Nothing that was there is changed.
-/
import Derived.Test.YtmonemgjgcfhlaaAlCommon
import Derived.Test.YtmonemgjgcfhlaaLines
namespace Go.Proofs.Ytmonemgjgcfhlaa
open Go.RowKit
open Al

/-- the slice '.slice A L.length _' holds the lists L, below block B -/
def Lsts (w : World) (B : Nat) (A : Option Addr) (L : List (List ByteArray)) : Prop :=
  L ≠ [] → ∃ a, A = some a ∧ a.block < B ∧ ∀ j X, L[j]? = some X → ∃ Ax cx, w.cell? (a.add j) = some (.slice Ax X.length cx) ∧ Strs w B Ax X
section
variable {w w' : World} {B B' : Nat} {A : Option Addr} {L : List (List ByteArray)}
theorem Lsts.nil : Lsts w B A [] := fun h => absurd rfl h
theorem Lsts.at_ (h : Lsts w B A L) {k : Nat} (hk : k < L.length) : ∃ a Ax cx, A = some a ∧ a.block < B ∧ w.cell? (a.add k) = some (.slice Ax L[k].length cx) ∧ Strs w B Ax L[k] := by
  obtain ⟨a, e, hb, hc⟩ := h (by intro e; subst e; simp at hk)
  obtain ⟨Ax, cx, h1, h2⟩ := hc k _ (List.getElem?_eq_getElem hk)
  exact ⟨a, Ax, cx, e, hb, h1, h2⟩
theorem Lsts.keep (h : Lsts w B A L) (hk : ∀ p : Addr, p.block < B → w'.cell? p = w.cell? p) : Lsts w' B A L := fun hn => by
  obtain ⟨a, e, hb, hc⟩ := h hn
  refine ⟨a, e, hb, fun j s hj => ?_⟩
  obtain ⟨Ax, cx, h1, h2⟩ := hc j s hj
  exact ⟨Ax, cx, (hk _ (by rw [add_block]; exact hb)).trans h1, h2.keep hk⟩
theorem Lsts.more (h : Lsts w B A L) (hB : B ≤ B') : Lsts w B' A L := fun hn => by
  obtain ⟨a, e, hb, hc⟩ := h hn
  refine ⟨a, e, by omega, fun j s hj => ?_⟩
  obtain ⟨Ax, cx, h1, h2⟩ := hc j s hj
  exact ⟨Ax, cx, h1, h2.more hB⟩
theorem Lsts.below (h : Lsts w B A L) (hb : Below B w w') : Lsts w' B A L := h.keep fun _ hp => hb.cell hp
theorem Lsts.up (h : Lsts w w.heap.size A L) (hb : Below w.heap.size w w') : Lsts w' w'.heap.size A L := (h.below hb).more hb.size
theorem Lsts.drewN (h : Lsts w B A L) (n : Nat) : Lsts (w.drewN n) B A L := h
theorem Lsts.take (h : Lsts w B A L) (k : Nat) : Lsts w B A (L.take k) := fun hn => by
  obtain ⟨a, e, hb, hcell⟩ := h (by intro e; subst e; simp at hn)
  refine ⟨a, e, hb, fun j s hj => hcell j s ?_⟩
  rw [List.getElem?_take] at hj
  split at hj
  · exact hj
  · cases hj
end
theorem Strs.up {w w' : World} {A : Option Addr} {ss : List ByteArray} (h : Strs w w.heap.size A ss) (hb : Below w.heap.size w w') : Strs w' w'.heap.size A ss := (h.below hb).more hb.size
theorem Ints.up {w w' : World} {A : Option Addr} {ss : List Int} (h : Ints w w.heap.size A ss) (hb : Below w.heap.size w w') : Ints w' w'.heap.size A ss := (h.below hb).more hb.size

/-- some texts, none too long, not too many -/
def Fit (ss : List ByteArray) : Prop := ss.length ≤ 65536 ∧ ∀ s ∈ ss, s.size ≤ maxLen
/-- what Best tells -/
def Bst (ss : List ByteArray) (L : List (List ByteArray)) (w : World) (e : Ending) (w' : World) : Prop :=
  ∃ (p : Int) (m : Nat), IsBest ss L p m ∧ e = .returned (.tuple #[.int .i64 p, .int .i64 (m : Int)]) ∧ Below w.heap.size w w'

theorem ifs {P : Prop} [Decidable P] {α : Type} {x y : α} (h : P) : (if P then x else y) = x := if_pos h
theorem best_step {a : List ByteArray} {L : List (List ByteArray)} {k : Nat} (hk : k < L.length) {p : Int} {m : Nat} (h : IsBest a (L.take k) p m) {X : List ByteArray} (hX : L[k]? = some X) :
    IsBest a (L.take (k + 1)) (if p < 0 ∨ m < score a X then (k : Int) else p) (if p < 0 ∨ m < score a X then score a X else m) := by
  have e : L.take (k + 1) = L.take k ++ [X] := by
    obtain ⟨hl, rfl⟩ := List.getElem?_eq_some_iff.1 hX
    rw [List.take_succ_eq_append_getElem hl]
  have hl : (L.take k).length = k := by rw [List.length_take]; omega
  have := h.snoc X
  rw [hl] at this
  rw [e]
  exact this

set_option maxHeartbeats 2000000 in
set_option maxRecDepth 100000 in
theorem best_any (A B : Option Addr) (ss : List ByteArray) (L : List (List ByteArray)) (c d : Nat) (w : World) (ha : Strs w w.heap.size A ss) (hb : Lsts w w.heap.size B L) (h1 : Fit ss) (h2 : L.length ≤ 65536) (h3 : ∀ X ∈ L, Fit X) :
    Calls Try.prog 37 #[.slice A ss.length c, .slice B L.length d] w fun e w' => Bst ss L w e w' := by
  obtain ⟨h1a, h1b⟩ := h1
  have H1 := Lib.hid h1b
  have H3 := Lib.hid h3
  clear h1b h3
  go_enter Try.func37, Try.ntmps37
  go_wp2_with fail
  go_loopw [6, 7, 13] (fun s6 s7 i wr => ∃ (k m : Nat) (p : Int), k ≤ L.length ∧ i = .int .i64 k ∧ s6 = .int .i64 p ∧ s7 = .int .i64 (m : Int) ∧ IsBest ss (L.take k) p m ∧ -1 ≤ p ∧ p ≤ 65536 ∧ m ≤ 100 ∧ Below w.heap.size w wr) (fun _ _ i _ => L.length - (intOf i).toNat)
  case atStart => exact ⟨0, 0, -1, Nat.zero_le _, rfl, rfl, rfl, by rw [List.take_zero]; exact IsBest.none_ _, by omega, by omega, by omega, Below.refl _ _⟩
  case round =>
    obtain ⟨k, m, p, hk, rfl, rfl, rfl, hbest, hp1, hp2, hm, hB⟩ := hrel
    have HB := Lib.hid hbest
    clear hbest
    by_cases g1 : k < L.length
    · obtain ⟨a, Ax, cx, rfl, hab, hca0, hx0⟩ := (hb.up hB).at_ g1
      obtain ⟨X, hX⟩ : ∃ X, X = L[k] := ⟨_, rfl⟩
      have hca : wr.cell? (a.add k) = some (.slice Ax X.length cx) := by rw [hX]; exact hca0
      have hx : Strs wr wr.heap.size Ax X := by rw [hX]; exact hx0
      obtain ⟨hf1, hf2⟩ := H3.out X (by rw [hX]; exact List.getElem_mem _)
      have HF := Lib.hid hf2
      have HX := Lib.hid (at_getD g1 hX)
      have HN := Lib.hid (best_step g1 HB.out HX.out)
      have hsc := score_le ss X
      clear hca0 hx0 hX hf2
      go_wp2_with fail
      refine (score_any A Ax ss X c cx _ (ha.up hB) hx h1a hf1 H1.out HF.out).mono ?_
      rintro e w2 ⟨rfl, hb2⟩
      by_cases g2 : p < 0
      · go_wp2_with fail
        go_roundw
        case rel => exact ⟨k + 1, score ss X, (k : Int), by omega, by go_num, rfl, rfl, by have := HN.out; rwa [if_pos (.inl g2), if_pos (.inl g2)] at this, by omega, by omega, hsc, hB.trans (hb2.mono hB.size)⟩
        case measure => simp [intOf]; omega
      · by_cases g3 : m < score ss X
        · have g3' : decide (m < score ss X) = true := by simpa using g3
          go_wp2_with fail
          go_roundw
          case rel => exact ⟨k + 1, score ss X, (k : Int), by omega, by go_num, rfl, rfl, by have := HN.out; rwa [if_pos (.inr g3), if_pos (.inr g3)] at this, by omega, by omega, hsc, hB.trans (hb2.mono hB.size)⟩
          case measure => simp [intOf]; omega
        · have g3' : decide (m < score ss X) = false := by simpa using g3
          go_wp2_with fail
          go_roundw
          case rel => exact ⟨k + 1, m, p, by omega, by go_num, rfl, rfl, by have := HN.out; rwa [if_neg (by omega), if_neg (by omega)] at this, by omega, by omega, hm, hB.trans (hb2.mono hB.size)⟩
          case measure => simp [intOf]; omega
    · have HE : IsBest ss L p m := by have := HB.out; rwa [List.take_of_length_le (by omega)] at this
      go_wp2_with fail
      go_ret2
      exact ⟨p, m, HE, rfl, hB⟩

theorem toList_data (s : ByteArray) : s.toList = s.data.toList := Lib.toList_data s
theorem same_of {x y : ByteArray} (h : (x.toList == y.toList) = true) : x = y := by
  have e := eq_of_beq h
  rw [toList_data, toList_data] at e
  exact ByteArray.ext (Array.toList_inj.1 e)
theorem unlike_of {x y : ByteArray} (h : (x.toList == y.toList) = false) : x ≠ y := by
  rintro rfl
  simp at h
theorem cnt_take {s x : ByteArray} {ss : List ByteArray} {k : Nat} (hx : ss[k]? = some x) : cnt s (ss.take (k + 1)) = cnt s (ss.take k) + if x = s then 1 else 0 := by
  obtain ⟨hl, rfl⟩ := List.getElem?_eq_some_iff.1 hx
  rw [List.take_succ_eq_append_getElem hl, cnt_snoc]

set_option maxHeartbeats 2000000 in
set_option maxRecDepth 100000 in
theorem times_any (A : Option Addr) (ss : List ByteArray) (c H : Nat) (s : ByteArray) (w : World) (ha : Strs w H A ss) (h1 : ss.length ≤ 65536) :
    Calls Try.prog 25 #[.slice A ss.length c, .string s] w fun e w' => e = .returned (.int .i64 (cnt s ss : Int)) ∧ w = w' := by
  go_enter Try.func25, Try.ntmps25
  go_wp2_with fail
  go_loop [5, 6] (fun n i => ∃ k : Nat, k ≤ ss.length ∧ i = .int .i64 k ∧ n = .int .i64 (cnt s (ss.take k) : Int)) (fun _ i => ss.length - (intOf i).toNat)
  case atStart => exact ⟨0, Nat.zero_le _, rfl, rfl⟩
  case round =>
    obtain ⟨k, hk, rfl, rfl⟩ := hrel
    have hcl := cnt_le s (ss.take k)
    have hkl : (ss.take k).length ≤ k := List.length_take_le _ _
    by_cases g1 : k < ss.length
    · obtain ⟨a, rfl, hab, hca0⟩ := ha.at_ g1
      obtain ⟨x, hx⟩ : ∃ x, x = ss[k] := ⟨_, rfl⟩
      have hca : w.cell? (a.add k) = some (.string x) := by rw [hx]; exact hca0
      have HC := Lib.hid (cnt_take (s := s) (at_getD g1 hx))
      clear hca0 hx
      go_wp2_with fail
      · have he : (x.toList == s.toList) = true := by assumption
        have e := same_of he
        go_round
        case rel => exact ⟨k + 1, by omega, by go_num, by rw [HC.out, if_pos e]; go_num⟩
        case measure => simp [intOf]; omega
      · have he : (x.toList == s.toList) = false := by assumption
        have e := unlike_of he
        go_round
        case rel => exact ⟨k + 1, by omega, by go_num, by rw [HC.out, if_neg e]; go_num⟩
        case measure => simp [intOf]; omega
    · have hkt : ss.take k = ss := List.take_of_length_le (by omega)
      rw [hkt]
      clear hkt
      go_wp2_with fail
      go_ret
      exact ⟨rfl, rfl⟩

end Go.Proofs.Ytmonemgjgcfhlaa
