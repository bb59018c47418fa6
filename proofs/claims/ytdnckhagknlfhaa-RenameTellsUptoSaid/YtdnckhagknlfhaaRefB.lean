/-
  collatorref01.may, collatorref02.some. Nothing that was there is changed.
-/
import Derived.Test.YtdnckhagknlfhaaRefA
namespace Go.Proofs.Ytdnckhagknlfhaa
open Go.RowKit

set_option maxHeartbeats 1000000 in
set_option maxRecDepth 100000 in
theorem may_any (s : ByteArray) (w : World) (hs : s.size ≤ 65536) :
    Calls Try.prog 64 #[.string s] w fun e w' => IsBool e ∧ w = w' := by
  go_enter Try.func64, Try.ntmps64
  cases g0 : s.toList.isEmpty <;> cases g1 : (s.toList == [46]) <;> cases g2 : (s.toList == [46, 46])
  all_goals
    go_wp2_with fail
  all_goals
    first
    | (go_ret; exact ⟨⟨_, rfl⟩, rfl⟩)
    | (go_loop [3] (fun i => ∃ k : Nat, k ≤ s.size ∧ i = .int .i64 k) (fun i => s.size - (intOf i).toNat)
       case atStart => exact ⟨0, Nat.zero_le _, rfl⟩
       case round =>
         obtain ⟨k, hk, rfl⟩ := hrel
         by_cases h1 : k < s.size
         · cases hz : (((s[k].toNat : Int) == 0) : Bool) with
           | true =>
             go_wp2_with fail
             go_ret
             exact ⟨⟨_, rfl⟩, rfl⟩
           | false =>
             go_wp2_with fail
             go_round
             case rel => exact ⟨k + 1, by omega, by go_num⟩
             case measure => simp [intOf]; omega
         · go_wp2_with fail
           go_ret
           exact ⟨⟨_, rfl⟩, rfl⟩)

set_option maxHeartbeats 4000000 in
set_option maxRecDepth 100000 in
theorem some9_any (A : Option Addr) (its : List It) (n c : Nat) (p : ByteArray) (z : Int) (w : World) (ha : ItemsAt w A its) (hn : its.length = n) (h1 : n ≤ 65536) :
    Calls Try.prog 66 #[.slice A n c, .string p, .int .i64 z, .int .i64 9] w fun e w' => IsBool e ∧ Below w.heap.size w w' := by
  subst hn
  go_enter Try.func66, Try.ntmps66
  go_wp2_with fail
  go_loopw [9] (fun i wr => ∃ k : Nat, k ≤ its.length ∧ i = .int .i64 k ∧ Below w.heap.size w wr) (fun i _ => its.length - (intOf i).toNat)
  case atStart => exact ⟨0, Nat.zero_le _, rfl, Below.refl _ _⟩
  case round =>
    obtain ⟨k, hk, rfl, hB⟩ := hrel
    by_cases g1 : k < its.length
    · obtain ⟨it, hit⟩ : ∃ it, its[k]? = some it := ⟨_, List.getElem?_eq_getElem g1⟩
      obtain ⟨a, rfl, hal, c0, c1, c2, c3⟩ := (ha.up hB).at_ hit
      have hB2 : Hid (Below w.heap.size w (wr.alloc (.cells #[.string it.path, .int .i64 it.kind, .string it.data, .bool it.bad] 33))) := Lib.hid (hB.trans ((Below.refl _ _).alloc hB.size _))
      clear hB hit
      cases gp : (it.path.toList == p.toList) with
      | false =>
        go_wp2_with fail
        go_roundw
        case rel => exact ⟨k + 1, by omega, by go_num, hB2.out⟩
        case measure => simp [intOf]; omega
      | true =>
        generalize it.bad = bd at *
        cases bd with
        | true =>
          go_wp2_with fail
          go_ret
          exact ⟨⟨_, rfl⟩, hB2.out⟩
        | false =>
          go_wp2_with fail
          go_roundw
          case rel => exact ⟨k + 1, by omega, by go_num, hB2.out⟩
          case measure => simp [intOf]; omega
    · go_wp2_with fail
      go_ret
      exact ⟨⟨_, rfl⟩, hB⟩

set_option maxHeartbeats 4000000 in
set_option maxRecDepth 100000 in
theorem some7_any (A : Option Addr) (its : List It) (n c : Nat) (p : ByteArray) (z : Int) (w : World) (ha : ItemsAt w A its) (hn : its.length = n) (h1 : n ≤ 65536) :
    Calls Try.prog 66 #[.slice A n c, .string p, .int .i64 z, .int .i64 7] w fun e w' => IsBool e ∧ Below w.heap.size w w' := by
  subst hn
  go_enter Try.func66, Try.ntmps66
  go_wp2_with fail
  go_loopw [9] (fun i wr => ∃ k : Nat, k ≤ its.length ∧ i = .int .i64 k ∧ Below w.heap.size w wr) (fun i _ => its.length - (intOf i).toNat)
  case atStart => exact ⟨0, Nat.zero_le _, rfl, Below.refl _ _⟩
  case round =>
    obtain ⟨k, hk, rfl, hB⟩ := hrel
    by_cases g1 : k < its.length
    · obtain ⟨it, hit⟩ : ∃ it, its[k]? = some it := ⟨_, List.getElem?_eq_getElem g1⟩
      obtain ⟨a, rfl, hal, c0, c1, c2, c3⟩ := (ha.up hB).at_ hit
      have hB2 : Hid (Below w.heap.size w (wr.alloc (.cells #[.string it.path, .int .i64 it.kind, .string it.data, .bool it.bad] 33))) := Lib.hid (hB.trans ((Below.refl _ _).alloc hB.size _))
      clear hB hit
      cases gp : (it.path.toList == p.toList) with
      | false =>
        go_wp2_with fail
        go_roundw
        case rel => exact ⟨k + 1, by omega, by go_num, hB2.out⟩
        case measure => simp [intOf]; omega
      | true =>
        by_cases gl : z < (it.data.size : Int)
        · go_wp2_with fail
          go_ret
          exact ⟨⟨_, rfl⟩, hB2.out⟩
        · go_wp2_with fail
          go_roundw
          case rel => exact ⟨k + 1, by omega, by go_num, hB2.out⟩
          case measure => simp [intOf]; omega
    · go_wp2_with fail
      go_ret
      exact ⟨⟨_, rfl⟩, hB⟩

set_option maxHeartbeats 4000000 in
set_option maxRecDepth 100000 in
theorem some5_any (A : Option Addr) (its : List It) (n c : Nat) (p : ByteArray) (z : Int) (w : World) (ha : ItemsAt w A its) (hn : its.length = n) (h1 : n ≤ 65536) :
    Calls Try.prog 66 #[.slice A n c, .string p, .int .i64 z, .int .i64 5] w fun e w' => IsBool e ∧ Below w.heap.size w w' := by
  subst hn
  go_enter Try.func66, Try.ntmps66
  go_wp2_with fail
  go_loopw [9] (fun i wr => ∃ k : Nat, k ≤ its.length ∧ i = .int .i64 k ∧ Below w.heap.size w wr) (fun i _ => its.length - (intOf i).toNat)
  case atStart => exact ⟨0, Nat.zero_le _, rfl, Below.refl _ _⟩
  case round =>
    obtain ⟨k, hk, rfl, hB⟩ := hrel
    by_cases g1 : k < its.length
    · obtain ⟨it, hit⟩ : ∃ it, its[k]? = some it := ⟨_, List.getElem?_eq_getElem g1⟩
      obtain ⟨a, rfl, hal, c0, c1, c2, c3⟩ := (ha.up hB).at_ hit
      have hB2 : Hid (Below w.heap.size w (wr.alloc (.cells #[.string it.path, .int .i64 it.kind, .string it.data, .bool it.bad] 33))) := Lib.hid (hB.trans ((Below.refl _ _).alloc hB.size _))
      clear hB hit
      cases gp : (it.path.toList == p.toList) with
      | false =>
        go_wp2_with fail
        go_roundw
        case rel => exact ⟨k + 1, by omega, by go_num, hB2.out⟩
        case measure => simp [intOf]; omega
      | true =>
        by_cases k1 : it.kind < 1
        · go_wp2_with fail
          go_ret
          exact ⟨⟨_, rfl⟩, hB2.out⟩
        · by_cases k3 : 3 < it.kind
          · go_wp2_with fail
            go_ret
            exact ⟨⟨_, rfl⟩, hB2.out⟩
          · cases kk : ((it.kind == 1) : Bool) with
            | false =>
              go_wp2_with fail
              go_roundw
              case rel => exact ⟨k + 1, by omega, by go_num, hB2.out⟩
              case measure => simp [intOf]; omega
            | true =>
              cases gd : it.data.toList.isEmpty with
              | true =>
                go_wp2_with fail
                go_roundw
                case rel => exact ⟨k + 1, by omega, by go_num, hB2.out⟩
                case measure => simp [intOf]; omega
              | false =>
                go_wp2_with fail
                go_ret
                exact ⟨⟨_, rfl⟩, hB2.out⟩
    · go_wp2_with fail
      go_ret
      exact ⟨⟨_, rfl⟩, hB⟩

end Go.Proofs.Ytdnckhagknlfhaa
