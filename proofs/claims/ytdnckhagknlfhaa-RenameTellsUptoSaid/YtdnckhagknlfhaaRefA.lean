/-
  The leaves of the laws' side: pick (three times), collatorref01.Join and may, collatorref02.count and dir. Nothing that was there is changed.
-/
import Derived.Test.YtdnckhagknlfhaaGreedy
namespace Go.Proofs.Ytdnckhagknlfhaa
open Go.RowKit

/-- what a raw number speaks of -/
def pos (c : Int) : Int := if c < 0 then -(c + 1) else c
def pickI (c n : Int) : Int := pos c % n
theorem pickI_range (c n : Int) (h : 0 < n) : 0 ≤ pickI c n ∧ pickI c n < n := ⟨Int.emod_nonneg _ (by omega), Int.emod_lt_of_pos _ h⟩

set_option maxHeartbeats 400000 in
theorem pick11_any (c n : Int) (w : World) (hc1 : -9223372036854775808 ≤ c) (hc2 : c ≤ 9223372036854775807) (hn : 0 < n) (hn2 : n ≤ 140737488355328) :
    Calls Try.prog 11 #[.int .i64 c, .int .i64 n] w fun e w' => e = .returned (.int .i64 (pickI c n)) ∧ w = w' := by
  have h0 : ((n == 0) : Bool) = false := by rw [beq_eq_false_iff_ne]; omega
  by_cases hc : c < 0
  · have hp : 0 ≤ -(c + 1) := by omega
    go_enter Try.func11, Try.ntmps11
    go_wp2
    go_ret
    refine ⟨ret_int ?_, rfl⟩
    unfold pickI pos
    rw [if_pos hc, ← Int.tmod_eq_emod_of_nonneg (by omega), Int.neg_tmod]
  · go_enter Try.func11, Try.ntmps11
    go_wp2
    go_ret
    refine ⟨ret_int ?_, rfl⟩
    unfold pickI pos
    rw [if_neg (by omega)]
set_option maxHeartbeats 400000 in
theorem pick40_any (c n : Int) (w : World) (hc1 : -9223372036854775808 ≤ c) (hc2 : c ≤ 9223372036854775807) (hn : 0 < n) (hn2 : n ≤ 140737488355328) :
    Calls Try.prog 40 #[.int .i64 c, .int .i64 n] w fun e w' => e = .returned (.int .i64 (pickI c n)) ∧ w = w' := by
  have h0 : ((n == 0) : Bool) = false := by rw [beq_eq_false_iff_ne]; omega
  by_cases hc : c < 0
  · have hp : 0 ≤ -(c + 1) := by omega
    go_enter Try.func40, Try.ntmps40
    go_wp2
    go_ret
    refine ⟨ret_int ?_, rfl⟩
    unfold pickI pos
    rw [if_pos hc, ← Int.tmod_eq_emod_of_nonneg (by omega), Int.neg_tmod]
  · go_enter Try.func40, Try.ntmps40
    go_wp2
    go_ret
    refine ⟨ret_int ?_, rfl⟩
    unfold pickI pos
    rw [if_neg (by omega)]
set_option maxHeartbeats 400000 in
theorem pick57_any (c n : Int) (w : World) (hc1 : -9223372036854775808 ≤ c) (hc2 : c ≤ 9223372036854775807) (hn : 0 < n) (hn2 : n ≤ 140737488355328) :
    Calls Try.prog 57 #[.int .i64 c, .int .i64 n] w fun e w' => e = .returned (.int .i64 (pickI c n)) ∧ w = w' := by
  have h0 : ((n == 0) : Bool) = false := by rw [beq_eq_false_iff_ne]; omega
  by_cases hc : c < 0
  · have hp : 0 ≤ -(c + 1) := by omega
    go_enter Try.func57, Try.ntmps57
    go_wp2
    go_ret
    refine ⟨ret_int ?_, rfl⟩
    unfold pickI pos
    rw [if_pos hc, ← Int.tmod_eq_emod_of_nonneg (by omega), Int.neg_tmod]
  · go_enter Try.func57, Try.ntmps57
    go_wp2
    go_ret
    refine ⟨ret_int ?_, rfl⟩
    unfold pickI pos
    rw [if_neg (by omega)]

set_option maxHeartbeats 400000 in
theorem join_any (d s : ByteArray) (w : World) (hd : d.size ≤ 65536) (hs : s.size ≤ 65536) :
    Calls Try.prog 32 #[.string d, .string s] w fun e w' => (∃ r, e = .returned (.string r) ∧ r.size ≤ d.size + 1 + s.size) ∧ w = w' := by
  go_enter Try.func32, Try.ntmps32
  go_wp2_with fail
  all_goals
    go_ret
    refine ⟨⟨_, rfl, ?_⟩, rfl⟩
    first | omega | (simp [ByteArray.size_append]; exact Nat.le_refl 1) | (simp [ByteArray.size_append]; try omega)

theorem toList_data (s : ByteArray) : s.toList = s.data.toList := Lib.toList_data s
theorem same_of {x y : ByteArray} (h : (x.toList == y.toList) = true) : x = y := by
  have e := eq_of_beq h
  rw [toList_data, toList_data] at e
  exact ByteArray.ext (Array.toList_inj.1 e)
theorem unlike_of {x y : ByteArray} (h : (x.toList == y.toList) = false) : x ≠ y := by
  rintro rfl
  simp at h
/-- how many items have a path -/
def cntP (its : List It) (p : ByteArray) : Nat := its.countP fun it => decide (it.path = p)
theorem cntP_take {its : List It} {k : Nat} {it : It} {p : ByteArray} (h : its[k]? = some it) : cntP (its.take (k + 1)) p = cntP (its.take k) p + if it.path = p then 1 else 0 := by
  obtain ⟨hk, rfl⟩ := List.getElem?_eq_some_iff.1 h
  unfold cntP
  rw [List.take_succ_eq_append_getElem hk, List.countP_append, List.countP_singleton]
  simp
theorem cntP_le (its : List It) (p : ByteArray) : cntP its p ≤ its.length := List.countP_le_length

set_option maxHeartbeats 1000000 in
theorem count_any (A : Option Addr) (its : List It) (n c : Nat) (p : ByteArray) (w : World) (ha : ItemsAt w A its) (hn : its.length = n) (h1 : n ≤ 65536) :
    Calls Try.prog 65 #[.slice A n c, .string p] w fun e w' => e = .returned (.int .i64 (cntP its p : Int)) ∧ w = w' := by
  subst hn
  go_enter Try.func65, Try.ntmps65
  go_wp2_with fail
  go_loop [5, 6] (fun m i => ∃ k : Nat, k ≤ its.length ∧ i = .int .i64 k ∧ m = .int .i64 (cntP (its.take k) p : Int)) (fun _ i => its.length - (intOf i).toNat)
  case atStart => exact ⟨0, Nat.zero_le _, rfl, rfl⟩
  case round =>
    obtain ⟨k, hk, rfl, rfl⟩ := hrel
    have hcl := cntP_le (its.take k) p
    have hkl : (its.take k).length ≤ k := List.length_take_le _ _
    by_cases g1 : k < its.length
    · obtain ⟨it, hit⟩ : ∃ it, its[k]? = some it := ⟨_, List.getElem?_eq_getElem g1⟩
      obtain ⟨a, rfl, hal, c0, c1, c2, c3⟩ := ha.at_ hit
      have HC := Lib.hid (cntP_take (p := p) hit)
      clear hit c1 c2 c3
      go_wp2_with fail
      · have he : (it.path.toList == p.toList) = true := by assumption
        have e := same_of he
        go_round
        case rel => exact ⟨k + 1, by omega, by go_num, by rw [HC.out, if_pos e]; go_num⟩
        case measure => simp [intOf]; omega
      · have he : (it.path.toList == p.toList) = false := by assumption
        have e := unlike_of he
        go_round
        case rel => exact ⟨k + 1, by omega, by go_num, by rw [HC.out, if_neg e]; go_num⟩
        case measure => simp [intOf]; omega
    · have hkt : its.take k = its := List.take_of_length_le (by omega)
      rw [hkt]
      clear hkt
      go_wp2_with fail
      go_ret
      exact ⟨rfl, rfl⟩

/-- an answer that is yes or no -/
def IsBool (e : Ending) : Prop := ∃ b : Bool, e = .returned (.bool b)
set_option maxHeartbeats 1000000 in
theorem dir_any (A : Option Addr) (its : List It) (n c : Nat) (p : ByteArray) (w : World) (ha : ItemsAt w A its) (hn : its.length = n) (h1 : n ≤ 65536) :
    Calls Try.prog 68 #[.slice A n c, .string p] w fun e w' => IsBool e ∧ w = w' := by
  subst hn
  go_enter Try.func68, Try.ntmps68
  go_wp2_with fail
  go_loop [5] (fun i => ∃ k : Nat, k ≤ its.length ∧ i = .int .i64 k) (fun i => its.length - (intOf i).toNat)
  case atStart => exact ⟨0, Nat.zero_le _, rfl⟩
  case round =>
    obtain ⟨k, hk, rfl⟩ := hrel
    by_cases g1 : k < its.length
    · obtain ⟨it, hit⟩ : ∃ it, its[k]? = some it := ⟨_, List.getElem?_eq_getElem g1⟩
      obtain ⟨a, rfl, hal, c0, c1, c2, c3⟩ := ha.at_ hit
      clear hit c2 c3
      cases ge : (it.path.toList == p.toList) with
      | false =>
        go_wp2_with fail
        go_round
        case rel => exact ⟨k + 1, by omega, by go_num⟩
        case measure => simp [intOf]; omega
      | true =>
        cases gk : ((it.kind == 1) : Bool) with
        | false =>
          go_wp2_with fail
          go_round
          case rel => exact ⟨k + 1, by omega, by go_num⟩
          case measure => simp [intOf]; omega
        | true =>
          go_wp2_with fail
          go_ret
          exact ⟨⟨_, rfl⟩, rfl⟩
    · go_wp2_with fail
      go_ret
      exact ⟨⟨_, rfl⟩, rfl⟩

/-- what Find tells -/
def FindTold (its : List It) (p : ByteArray) (e : Ending) : Prop :=
  (∃ (k : Nat) (it : It), its[k]? = some it ∧ it.path = p ∧ (∀ (j : Nat) (jt : It), j < k → its[j]? = some jt → jt.path ≠ p) ∧ e = .returned (.tuple #[.agg it.cells.toArray, .bool true])) ∨
  ((∀ it ∈ its, it.path ≠ p) ∧ e = .returned (.tuple #[.agg #[.string ⟨#[]⟩, .int .i64 0, .string ⟨#[]⟩, .bool false], .bool false]))
set_option maxHeartbeats 1000000 in
theorem find_any (A : Option Addr) (its : List It) (n c : Nat) (p : ByteArray) (w : World) (ha : ItemsAt w A its) (hn : its.length = n) (h1 : n ≤ 65536) :
    Calls Try.prog 16 #[.slice A n c, .string p] w fun e w' => FindTold its p e ∧ Below w.heap.size w w' := by
  subst hn
  go_enter Try.func16, Try.ntmps16
  go_wp2_with fail
  have hbx := Blk.new w 33 #[.string ⟨#[]⟩, .int .i64 0, .string ⟨#[]⟩, .bool false]
  have hup := ha.up ((Below.refl _ _).alloc (Nat.le_refl _) (.cells #[.string ⟨#[]⟩, .int .i64 0, .string ⟨#[]⟩, .bool false] 33))
  have HBX := Lib.hid hbx
  clear hbx ha
  go_loop [6] (fun i => ∃ k : Nat, k ≤ its.length ∧ i = .int .i64 k ∧ ∀ (j : Nat) (jt : It), j < k → its[j]? = some jt → jt.path ≠ p) (fun i => its.length - (intOf i).toNat)
  case atStart => exact ⟨0, Nat.zero_le _, rfl, fun j _ h => by omega⟩
  case round =>
    obtain ⟨k, hk, rfl, hno⟩ := hrel
    have HNO := Lib.hid hno
    clear hno
    by_cases g1 : k < its.length
    · obtain ⟨it, hit⟩ : ∃ it, its[k]? = some it := ⟨_, List.getElem?_eq_getElem g1⟩
      obtain ⟨a, rfl, hal, c0, c1, c2, c3⟩ := hup.at_ hit
      have HIT := Lib.hid hit
      clear hit
      go_wp2_with fail
      · have he : (it.path.toList == p.toList) = true := by assumption
        have e := same_of he
        refine bodyPost_ret (v := .tuple #[.agg it.cells.toArray, .bool true]) (by simp [results, Try.results16, go_sem, It.cells]) rfl ⟨.inl ⟨k, it, HIT.out, e, HNO.out, rfl⟩, (Below.refl _ _).alloc (Nat.le_refl _) _⟩
      · have he : (it.path.toList == p.toList) = false := by assumption
        have e := unlike_of he
        go_round
        case rel => exact ⟨k + 1, by omega, by go_num, fun j jt hj h => by
          rcases Nat.lt_or_ge j k with g | g
          · exact HNO.out j jt g h
          · have : j = k := by omega
            subst this
            rw [HIT.out] at h; injection h with h; subst h; exact e⟩
        case measure => simp [intOf]; omega
    · go_wp2_with fail
      refine bodyPost_ret (v := .tuple #[.agg #[.string ⟨#[]⟩, .int .i64 0, .string ⟨#[]⟩, .bool false], .bool false]) (by simp [results, Try.results16, go_sem]) rfl ⟨.inr ⟨fun it h => by
        obtain ⟨j, hj, rfl⟩ := List.mem_iff_getElem.1 h
        exact HNO.out j _ (by omega) (List.getElem?_eq_getElem hj), rfl⟩, (Below.refl _ _).alloc (Nat.le_refl _) _⟩

end Go.Proofs.Ytdnckhagknlfhaa
