/-
  Caches in memory; collatorref14.fits, count, room, part. Nothing that was there is changed.
-/
import Derived.Test.YtjifmfgfmciaeaaMod
import Derived.Test.YtjifmfgfmciaeaaFit
import Derived.Test.YtjifmfgfmciaeaaRefK
import Derived.Test.YtjifmfgfmciaeaaSmRef
namespace Go.Proofs.Ytjifmfgfmciaeaa
open Go.RowKit

/-- a list of lists of slots, none of which lies in a block of X -/
def PartsAt (X : Nat → Prop) (w : World) (A : Option Addr) (P : List (List Sl)) : Prop :=
  P ≠ [] → ∃ a, A = some a ∧ a.block < w.heap.size ∧ ¬ X a.block ∧ ∀ i L, P[i]? = some L → ∃ B c, w.cell? (a.add i) = some (.slice B L.length c) ∧ SlotsAt w B L ∧ L.length ≤ c ∧ ∀ b, L ≠ [] → B = some b → ¬ X b.block
section
variable {X : Nat → Prop} {w w' : World} {A : Option Addr} {P : List (List Sl)}
theorem PartsAt.nil : PartsAt X w A [] := fun h => absurd rfl h
theorem PartsAt.up (h : PartsAt X w A P) (hb : Below w.heap.size w w') : PartsAt X w' A P := fun hn => by
  obtain ⟨a, e, hl, hx, hc⟩ := h hn
  refine ⟨a, e, Nat.lt_of_lt_of_le hl hb.size, hx, fun i L hi => ?_⟩
  obtain ⟨B, c, h1, h2, h3, h4⟩ := hc i L hi
  exact ⟨B, c, (hb.cell (by rw [add_block]; exact hl)).trans h1, h2.up hb, h3, h4⟩
theorem PartsAt.at_ (h : PartsAt X w A P) {i : Nat} {L : List Sl} (hi : P[i]? = some L) :
    ∃ a B c, A = some a ∧ a.block < w.heap.size ∧ w.cell? (a.add i) = some (.slice B L.length c) ∧ SlotsAt w B L ∧ L.length ≤ c := by
  obtain ⟨a, e, hl, _, hc⟩ := h (by intro e; subst e; simp at hi)
  obtain ⟨B, c, h1, h2, h3, _⟩ := hc i L hi
  exact ⟨a, B, c, e, hl, h1, h2, h3⟩
theorem PartsAt.less (h : PartsAt X w A P) {Y : Nat → Prop} (hy : ∀ b, Y b → X b) : PartsAt Y w A P := fun hn => by
  obtain ⟨a, e, hl, hx, hc⟩ := h hn
  refine ⟨a, e, hl, fun k => hx (hy _ k), fun i L hi => ?_⟩
  obtain ⟨B, c, h1, h2, h3, h4⟩ := hc i L hi
  exact ⟨B, c, h1, h2, h3, fun b hb e k => h4 b hb e (hy _ k)⟩
/-- what is written into a block of X is nothing of these lists -/
theorem PartsAt.kept (h : PartsAt X w A P) {g : Nat} (hg : w.grownBy w' (some g)) (hx : X g) : PartsAt X w' A P := fun hn => by
  obtain ⟨a, e, hl, ha, hc⟩ := h hn
  refine ⟨a, e, Nat.lt_of_lt_of_le hl hg.size, ha, fun i L hi => ?_⟩
  obtain ⟨B, c, h1, h2, h3, h4⟩ := hc i L hi
  refine ⟨B, c, (World.cell?_of_block (hg.block _ (by rw [add_block]; exact hl) (by rw [add_block]; exact fun e' => ha (by rw [Option.some.inj e']; exact hx)))).trans h1, fun hL => ?_, h3, h4⟩
  obtain ⟨b, eb, hbl, hbc⟩ := h2 hL
  exact ⟨b, eb, Nat.lt_of_lt_of_le hbl hg.size, fun k x hk j u hu => (World.cell?_of_block (hg.block _ (by rw [add_block]; exact hbl) (by rw [add_block]; exact fun e' => h4 b hL eb (by rw [Option.some.inj e']; exact hx)))).trans (hbc k x hk j u hu)⟩
end
/-- texts of at most 4096 bytes, and numbers of their kinds -/
def FitT (L : List Sl) : Prop := ∀ x ∈ L, (x.left.size ≤ 4096 ∧ x.right.size ≤ 4096 ∧ x.val.size ≤ 4096) ∧ (Lit.int .u64 x.sum).wf = true ∧ (Lit.int .i64 x.len).wf = true
def I64 (n : Int) : Prop := -9223372036854775808 ≤ n ∧ n ≤ 9223372036854775807
structure CaFit (c : Ca) : Prop where
  len : c.parts.length ≤ 1000
  each : ∀ L ∈ c.parts, L.length ≤ 1000 ∧ FitT L
  width : I64 c.width
  room : I64 c.room
  hits : I64 c.hits
  misses : I64 c.misses
  clashes : I64 c.clashes
  evicted : I64 c.evicted

theorem fits_eq {p r w : Int} {b : Bool} (h : fitsB p r w = b) : Ending.returned (.bool b) = .returned (.bool (fitsB p r w)) := by rw [h]
set_option maxHeartbeats 1000000 in
theorem rfits_any (p r w : Int) (W : World) : Calls Try.prog 26 #[.int .i64 p, .int .i64 r, .int .i64 w] W fun e w' => e = .returned (.bool (fitsB p r w)) ∧ W = w' := by
  by_cases h1 : 1 ≤ p
  · by_cases h2 : p ≤ 16
    · by_cases h3 : 0 ≤ r
      · by_cases h4 : r ≤ 4096
        · by_cases h5 : 0 ≤ w
          · by_cases h6 : w ≤ 64
            · go_enter Try.func26, Try.ntmps26
              go_wp2
              go_ret
              exact ⟨fits_eq (decide_eq_true ⟨h1, h2, h3, h4, h5, h6⟩), rfl⟩
            · go_enter Try.func26, Try.ntmps26
              go_wp2
              go_ret
              exact ⟨fits_eq (decide_eq_false (by omega)), rfl⟩
          · go_enter Try.func26, Try.ntmps26
            go_wp2
            go_ret
            exact ⟨fits_eq (decide_eq_false (by omega)), rfl⟩
        · go_enter Try.func26, Try.ntmps26
          go_wp2
          go_ret
          exact ⟨fits_eq (decide_eq_false (by omega)), rfl⟩
      · go_enter Try.func26, Try.ntmps26
        go_wp2
        go_ret
        exact ⟨fits_eq (decide_eq_false (by omega)), rfl⟩
    · go_enter Try.func26, Try.ntmps26
      go_wp2
      go_ret
      exact ⟨fits_eq (decide_eq_false (by omega)), rfl⟩
  · go_enter Try.func26, Try.ntmps26
    go_wp2
    go_ret
    exact ⟨fits_eq (decide_eq_false (by omega)), rfl⟩
theorem count_eq {n : Int} {b : Bool} (h : countB n = b) : Ending.returned (.bool b) = .returned (.bool (countB n)) := by rw [h]
theorem rcount_any (n : Int) (W : World) : Calls Try.prog 30 #[.int .i64 n] W fun e w' => e = .returned (.bool (countB n)) ∧ W = w' := by
  by_cases h1 : 0 ≤ n
  · by_cases h2 : n ≤ 1099511627776
    · go_enter Try.func30, Try.ntmps30
      go_wp2
      go_ret
      exact ⟨count_eq (decide_eq_true ⟨h1, h2⟩), rfl⟩
    · go_enter Try.func30, Try.ntmps30
      go_wp2
      go_ret
      exact ⟨count_eq (decide_eq_false (by unfold maxC; omega)), rfl⟩
  · go_enter Try.func30, Try.ntmps30
    go_wp2
    go_ret
    exact ⟨count_eq (decide_eq_false (by omega)), rfl⟩

set_option maxHeartbeats 1000000 in
theorem rroom_any (wd rm h m cl ev : Int) (A : Option Addr) (n cap i : Nat) (W : World) (hn : 1 ≤ n) (hn2 : n ≤ 1000) (hr : 0 ≤ rm) (hr2 : rm ≤ 4096) :
    Calls Try.prog 32 #[.agg #[.int .i64 wd, .int .i64 rm, .slice A n cap, .int .i64 h, .int .i64 m, .int .i64 cl, .int .i64 ev], .int .i64 (i : Nat)] W fun e w' => e = .returned (.int .i64 (roomN n rm i : Nat)) ∧ Below W.heap.size W w' := by
  obtain ⟨r, rfl⟩ := Int.eq_ofNat_of_zero_le hr
  have hr3 : r ≤ 4096 := by omega
  have h0 : ((n == 0) : Bool) = false := by rw [beq_eq_false_iff_ne]; omega
  have hm : r % n < n := Nat.mod_lt _ (by omega)
  have hd : r / n ≤ r := Nat.div_le_self _ _
  have b1 : 0 ≤ (r : Int) / (n : Int) := Int.ediv_nonneg (by omega) (by omega)
  have b2 : (r : Int) / (n : Int) ≤ 4096 := by rw [← Int.natCast_ediv]; omega
  have em : (r : Int) % (n : Int) = ((r % n : Nat) : Int) := (Int.natCast_emod r n).symm
  by_cases hlt : i < r % n
  · have t1 : decide ((i : Int) < (r : Int) % (n : Int)) = true := by rw [em]; exact decide_eq_true (by omega)
    have hR : Hid ((roomN n (r : Int) i : Nat) = (r : Int) / (n : Int) + 1) := Lib.hid (by unfold roomN; rw [Int.toNat_natCast, if_pos hlt, Int.natCast_add, Int.natCast_ediv]; rfl)
    clear em hlt hm hd
    go_enter Try.func32, Try.ntmps32
    go_wp2
    go_ret
    exact ⟨ret_int (by rw [hR.out]), (Below.refl _ _).alloc (Nat.le_refl _) _⟩
  · have t1 : decide ((i : Int) < (r : Int) % (n : Int)) = false := by rw [em]; exact decide_eq_false (by omega)
    have hR : Hid ((roomN n (r : Int) i : Nat) = (r : Int) / (n : Int)) := Lib.hid (by unfold roomN; rw [Int.toNat_natCast, if_neg hlt, Nat.add_zero, Int.natCast_ediv])
    clear em hlt hm hd
    go_enter Try.func32, Try.ntmps32
    go_wp2
    go_ret
    exact ⟨ret_int (by rw [hR.out]), (Below.refl _ _).alloc (Nat.le_refl _) _⟩

set_option maxHeartbeats 1000000 in
theorem rpart_any (wd rm h m cl ev : Int) (A : Option Addr) (n cap : Nat) (ks kl : Int) (W : World) (hn : 1 ≤ n) (hn2 : n ≤ 1000) (hk : (Lit.int .u64 ks).wf = true) :
    Calls Try.prog 34 #[.agg #[.int .i64 wd, .int .i64 rm, .slice A n cap, .int .i64 h, .int .i64 m, .int .i64 cl, .int .i64 ev], .agg #[.int .u64 ks, .int .i64 kl]] W fun e w' => e = .returned (.int .i64 (partN n (ks, kl) : Nat)) ∧ Below W.heap.size W w' := by
  obtain ⟨k1, k2⟩ : 0 ≤ ks ∧ ks ≤ 18446744073709551615 := by
    have e1 : IntKind.u64.min = 0 := by decide
    have e2 : IntKind.u64.max = 18446744073709551615 := by decide
    have : (decide (_ ≤ ks) && decide (ks ≤ _)) = true := hk
    rw [e1, e2, Bool.and_eq_true, decide_eq_true_eq, decide_eq_true_eq] at this
    exact this
  clear hk
  obtain ⟨k, rfl⟩ := Int.eq_ofNat_of_zero_le k1
  have h0 : ((n == 0) : Bool) = false := by rw [beq_eq_false_iff_ne]; omega
  have hP : Hid ((partN n ((k : Int), kl) : Nat) = (k : Int) % (n : Int)) := Lib.hid (by unfold partN; rw [Int.toNat_natCast, Int.natCast_emod])
  have hm : (k : Int) % (n : Int) < n := Int.emod_lt_of_pos _ (by omega)
  have hm0 : 0 ≤ (k : Int) % (n : Int) := Int.emod_nonneg _ (by omega)
  go_enter Try.func34, Try.ntmps34
  go_wp2
  go_ret
  exact ⟨ret_int (by rw [hP.out]), ((Below.refl _ _).alloc (Nat.le_refl _) _).alloc (by simp) _⟩

end Go.Proofs.Ytjifmfgfmciaeaa
