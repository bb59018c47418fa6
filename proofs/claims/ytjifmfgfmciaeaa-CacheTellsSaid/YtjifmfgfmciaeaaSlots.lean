/-
  Slots: what they are in memory, and that collatorref13.Right tells whether no two have one key. Nothing that was there is changed.
-/
import Derived.Test.YtjifmfgfmciaeaaMem
import Derived.Test.YtjifmfgfmciaeaaPlain
import Derived.Test.YtjifmfgfmciaeaaProg
namespace Go.Proofs.Ytjifmfgfmciaeaa
open Go.RowKit

/-- a slot -/
structure Sl where
  sum : Int
  len : Int
  left : ByteArray
  right : ByteArray
  val : ByteArray
deriving DecidableEq
def Sl.key (x : Sl) : Int × Int := (x.sum, x.len)
def Sl.cells (x : Sl) : List Value := [.int .u64 x.sum, .int .i64 x.len, .string x.left, .string x.right, .string x.val]
def kcells (k : Int × Int) : List Value := [.int .u64 k.1, .int .i64 k.2]
def Sl.v (x : Sl) : Value := .agg #[.int .u64 x.sum, .int .i64 x.len, .string x.left, .string x.right, .string x.val]
theorem sl_len : ∀ x : Sl, x.cells.length = 5 := fun _ => rfl
theorem k_len : ∀ x : Int × Int, (kcells x).length = 2 := fun _ => rfl
theorem sl_one : ∀ x : Sl, ∀ v ∈ x.cells, v.oneCell' = true := fun x v hv => by
  simp [Sl.cells] at hv; rcases hv with rfl | rfl | rfl | rfl | rfl <;> rfl
theorem k_one : ∀ x : Int × Int, ∀ v ∈ kcells x, v.oneCell' = true := fun x v hv => by
  simp [kcells] at hv; rcases hv with rfl | rfl <;> rfl
abbrev SlotsAt (w : World) (A : Option Addr) (L : List Sl) : Prop := RowAt Sl.cells 5 w A L
abbrev KeysAt (w : World) (A : Option Addr) (K : List (Int × Int)) : Prop := RowAt kcells 2 w A K
abbrev keysL (L : List Sl) : List (Int × Int) := P13.keys Sl.key L
theorem infoS : (Try.prog.info? 63).map (fun i => (i.zero, i.size, i.bytes)) = some (some (.agg #[.int .u64 0, .int .i64 0, .string ⟨#[]⟩, .string ⟨#[]⟩, .string ⟨#[]⟩]), 5, 64) := by kernel_rfl
theorem infoK : (Try.prog.info? 61).map (fun i => (i.zero, i.size, i.bytes)) = some (some (.agg #[.int .u64 0, .int .i64 0]), 2, 16) := by kernel_rfl
theorem slots_fields {w : World} {A : Option Addr} {L : List Sl} (h : SlotsAt w A L) {k : Nat} {x : Sl} (hk : L[k]? = some x) :
    ∃ a, A = some a ∧ a.block < w.heap.size ∧ w.cell? (a.add (k * 5)) = some (.int .u64 x.sum) ∧ w.cell? ⟨(a.add (k * 5)).block, (a.add (k * 5)).off + 1, none⟩ = some (.int .i64 x.len) ∧
      w.cell? ⟨(a.add (k * 5)).block, (a.add (k * 5)).off + 2, none⟩ = some (.string x.left) ∧ w.cell? ⟨(a.add (k * 5)).block, (a.add (k * 5)).off + 3, none⟩ = some (.string x.right) ∧ w.cell? ⟨(a.add (k * 5)).block, (a.add (k * 5)).off + 4, none⟩ = some (.string x.val) := by
  obtain ⟨a, e, hb, hc⟩ := h.at_ hk
  refine ⟨a, e, hb, hc 0 _ rfl, ?_, ?_, ?_, ?_⟩
  · rw [field_at _ _ 1 (by decide)]; exact hc 1 _ rfl
  · rw [field_at _ _ 2 (by decide)]; exact hc 2 _ rfl
  · rw [field_at _ _ 3 (by decide)]; exact hc 3 _ rfl
  · rw [field_at _ _ 4 (by decide)]; exact hc 4 _ rfl
theorem keys_fields {w : World} {A : Option Addr} {L : List (Int × Int)} (h : KeysAt w A L) {k : Nat} {x : Int × Int} (hk : L[k]? = some x) :
    ∃ a, A = some a ∧ a.block < w.heap.size ∧ w.cell? (a.add (k * 2)) = some (.int .u64 x.1) ∧ w.cell? ⟨(a.add (k * 2)).block, (a.add (k * 2)).off + 1, none⟩ = some (.int .i64 x.2) := by
  obtain ⟨a, e, hb, hc⟩ := h.at_ hk
  refine ⟨a, e, hb, hc 0 _ rfl, ?_⟩
  rw [field_at _ _ 1 (by decide)]; exact hc 1 _ rfl

/-- no two slots have one key -/
def rightB (L : List Sl) : Bool := decide ((keysL L).Nodup)
theorem rightB_iff {L : List Sl} : rightB L = true ↔ P13.Right Sl.key L := by unfold rightB P13.Right; simp
theorem nodup_take_succ {L : List Sl} {k : Nat} {x : Sl} (h : L[k]? = some x) (h1 : (keysL (L.take k)).Nodup) (h2 : x.key ∉ keysL (L.take k)) : (keysL (L.take (k + 1))).Nodup := by
  obtain ⟨hk, rfl⟩ := List.getElem?_eq_some_iff.1 h
  rw [List.take_succ_eq_append_getElem hk]
  unfold keysL at *
  rw [P13.keys_append, List.nodup_append]
  refine ⟨h1, by simp [P13.keys], fun a ha b hb => ?_⟩
  simp [P13.keys] at hb
  subst hb
  rintro rfl
  exact h2 ha
theorem not_nodup {L : List Sl} {i k : Nat} {x y : Sl} (hx : L[i]? = some x) (hy : L[k]? = some y) (hik : k < i) (e : x.key = y.key) : rightB L = false := by
  unfold rightB
  rw [decide_eq_false_iff_not]
  intro h
  obtain ⟨hi, rfl⟩ := List.getElem?_eq_some_iff.1 hx
  obtain ⟨hk, rfl⟩ := List.getElem?_eq_some_iff.1 hy
  have := List.pairwise_iff_getElem.1 h k i (by simpa [keysL, P13.keys] using hk) (by simpa [keysL, P13.keys] using hi) hik
  apply this
  simp [keysL, P13.keys, e]
theorem keys_take_succ {L : List Sl} {k : Nat} {y : Sl} (h : L[k]? = some y) (key : Int × Int) (h1 : key ∉ keysL (L.take k)) (h2 : key ≠ y.key) : key ∉ keysL (L.take (k + 1)) := by
  obtain ⟨hk, rfl⟩ := List.getElem?_eq_some_iff.1 h
  rw [List.take_succ_eq_append_getElem hk]
  unfold keysL at *
  rw [P13.keys_append]
  simp [P13.keys] at h1 ⊢
  exact ⟨h1, h2⟩

set_option maxHeartbeats 2000000 in
set_option maxRecDepth 100000 in
theorem rright_any (A : Option Addr) (L : List Sl) (n c : Nat) (w : World) (ha : SlotsAt w A L) (hn : L.length = n) (h1 : L.length ≤ 140737488355328) :
    Calls Try.prog 31 #[.slice A n c] w fun e w' => e = .returned (.bool (rightB L)) ∧ ∃ q, w' = w.drewN q := by
  subst hn
  have HA := Lib.hid ha
  clear ha
  go_enter Try.func31, Try.ntmps31
  go_wp2_with fail
  go_loopw [3] (fun i wr => ∃ k : Nat, k ≤ L.length ∧ i = .int .i64 k ∧ Hid ((keysL (L.take k)).Nodup) ∧ ∃ q, wr = w.drewN q) (fun i _ => L.length - (intOf i).toNat)
  case atStart => exact ⟨0, Nat.zero_le _, rfl, Lib.hid (by simp [keysL, P13.keys]), 0, rfl⟩
  case round =>
    obtain ⟨i, hi, rfl, HN, q, rfl⟩ := hrel
    by_cases g1 : i < L.length
    · obtain ⟨x, hx⟩ : ∃ x, L[i]? = some x := ⟨_, List.getElem?_eq_getElem g1⟩
      have HX := Lib.hid hx
      clear hx
      go_wp2_with fail
      go_loopw [4] (fun j wr => ∃ k : Nat, k ≤ i ∧ j = .int .i64 k ∧ Hid (x.key ∉ keysL (L.take k)) ∧ ∃ q, wr = w.drewN q) (fun j _ => i - (intOf j).toNat)
      case atStart => exact ⟨0, Nat.zero_le _, rfl, Lib.hid (by simp [keysL, P13.keys]), q, rfl⟩
      case round =>
        obtain ⟨k, hk, rfl, HK, q', rfl⟩ := hrel
        by_cases g2 : k < i
        · obtain ⟨y, hy⟩ : ∃ y, L[k]? = some y := ⟨_, List.getElem?_eq_getElem (by omega)⟩
          obtain ⟨a, rfl, hal, c0, c1, _, _, _⟩ := slots_fields HA.out HX.out
          obtain ⟨a', e', _, d0, d1, _, _, _⟩ := slots_fields HA.out hy
          injection e' with e'
          subst e'
          have HY := Lib.hid hy
          clear hy
          have gk : k < L.length := by omega
          cases t1 : (x.sum == y.sum) with
          | false =>
            go_wp2_with fail
            go_quiet (fail)
            go_wp2_with fail
            go_roundw
            case rel => exact ⟨k + 1, by omega, by go_num, Lib.hid (keys_take_succ HY.out _ HK.out (by intro e; have := congrArg Prod.fst e; simp [Sl.key] at this; simp [this] at t1)), q' + nq, rfl⟩
            case measure => simp [intOf]; omega
          | true =>
            cases t2 : (x.len == y.len) with
            | false =>
              go_wp2_with fail
              go_quiet (fail)
              go_wp2_with fail
              go_roundw
              case rel => exact ⟨k + 1, by omega, by go_num, Lib.hid (keys_take_succ HY.out _ HK.out (by intro e; have := congrArg Prod.snd e; simp [Sl.key] at this; simp [this] at t2)), q' + nq, rfl⟩
              case measure => simp [intOf]; omega
            | true =>
              have HR : Hid (rightB L = false) := Lib.hid (not_nodup HX.out HY.out g2 (Prod.ext (by show x.sum = y.sum; simpa using t1) (by show x.len = y.len; simpa using t2)))
              go_wp2_with fail
              go_quiet (fail)
              go_wp2_with fail
              go_ret
              exact ⟨ret_bool HR.out.symm, q' + nq, by rw [World.drewN_drewN]⟩
        · obtain rfl : k = i := by omega
          go_wp2_with fail
          go_roundw
          case rel => exact ⟨k + 1, by omega, by go_num, Lib.hid (nodup_take_succ HX.out HN.out HK.out), q', rfl⟩
          case measure => simp [intOf]; omega
    · have HR : Hid (rightB L = true) := Lib.hid (by unfold rightB; have := HN.out; rw [List.take_of_length_le (by omega)] at this; simpa using this)
      go_wp2_with fail
      go_ret
      exact ⟨ret_bool HR.out.symm, q, rfl⟩

end Go.Proofs.Ytjifmfgfmciaeaa
