/-
  The leaves of the laws' side: collatorlaw13.pick and Slot. And what the laws ask of package lru (LruOk). Nothing that was there is changed.
-/
import Derived.Test.YtndhaickelbkiaaGet
import Derived.Test.YtndhaickelbkiaaRefK
import Derived.IntWalk
namespace Go.Proofs.Ytndhaickelbkiaa
open Go.RowKit

/-- what a raw number speaks of -/
def pos (c : Int) : Int := if c < 0 then -(c + 1) else c
def pickI (c n : Int) : Int := pos c % n
theorem pickI_range (c n : Int) (h : 0 < n) : 0 ≤ pickI c n ∧ pickI c n < n := ⟨Int.emod_nonneg _ (by omega), Int.emod_lt_of_pos _ h⟩
set_option maxHeartbeats 400000 in
theorem pick_any (c n : Int) (w : World) (hc1 : -9223372036854775808 ≤ c) (hc2 : c ≤ 9223372036854775807) (hn : 0 < n) (hn2 : n ≤ 140737488355328) :
    Calls Try.prog 19 #[.int .i64 c, .int .i64 n] w fun e w' => e = .returned (.int .i64 (pickI c n)) ∧ w = w' := by
  have h0 : ((n == 0) : Bool) = false := by rw [beq_eq_false_iff_ne]; omega
  by_cases hc : c < 0
  · have hp : 0 ≤ -(c + 1) := by omega
    go_enter Try.func19, Try.ntmps19
    go_wp2
    go_ret
    refine ⟨ret_int ?_, rfl⟩
    unfold pickI pos
    rw [if_pos hc, ← Int.tmod_eq_emod_of_nonneg (by omega), Int.neg_tmod]
  · go_enter Try.func19, Try.ntmps19
    go_wp2
    go_ret
    refine ⟨ret_int ?_, rfl⟩
    unfold pickI pos
    rw [if_neg (by omega)]
/-- the slot of raw numbers -/
def slotOf (c : Int) (s : ByteArray) : Sl := ⟨pickI c 6, pickI (c.tdiv 6) 2, ⟨#[]⟩, ⟨#[]⟩, s⟩
theorem tdiv6 (c : Int) (hc1 : -9223372036854775808 ≤ c) (hc2 : c ≤ 9223372036854775807) : -9223372036854775808 ≤ c.tdiv 6 ∧ c.tdiv 6 ≤ 9223372036854775807 := by
  rcases Int.le_total 0 c with h | h
  · rw [Int.tdiv_eq_ediv_of_nonneg h]; omega
  · have e : c.tdiv 6 = -((-c).tdiv 6) := by rw [Int.neg_tdiv]; omega
    rw [e, Int.tdiv_eq_ediv_of_nonneg (by omega)]; omega
def SlotTold (x : Sl) (w : World) (e : Ending) (w' : World) : Prop := e = .returned (.agg #[.int .u64 x.sum, .int .i64 x.len, .string x.left, .string x.right, .string x.val]) ∧ Below w.heap.size w w'
set_option maxHeartbeats 1000000 in
theorem slot_any (c : Int) (s : ByteArray) (w : World) (hc1 : -9223372036854775808 ≤ c) (hc2 : c ≤ 9223372036854775807) :
    Calls Try.prog 15 #[.int .i64 c, .string s] w (SlotTold (slotOf c s) w) := by
  obtain ⟨d1, d2⟩ := tdiv6 c hc1 hc2
  obtain ⟨p, hp⟩ : ∃ p, pickI c 6 = p := ⟨_, rfl⟩
  obtain ⟨q, hq⟩ : ∃ q, pickI (c.tdiv 6) 2 = q := ⟨_, rfl⟩
  have r1 := pickI_range c 6 (by omega)
  rw [hp] at r1
  obtain ⟨r1, r2⟩ := r1
  have u1 : IntKind.u64.wrap p = p := IntWalk.u64_in _ (by omega)
  have hfin : slotOf c s = ⟨p, q, ⟨#[]⟩, ⟨#[]⟩, s⟩ := by unfold slotOf; rw [hp, hq]
  have HF := Lib.hid hfin
  have HP := Lib.hid hp
  have HQ := Lib.hid hq
  clear hfin hp hq
  go_enter Try.func15, Try.ntmps15
  go_wp2_with fail
  refine (pick_any c 6 _ hc1 hc2 (by omega) (by omega)).mono ?_
  rintro e w1 ⟨rfl, rfl⟩
  rw [HP.out]
  go_wp2_with fail
  refine (pick_any (c.tdiv 6) 2 _ d1 d2 (by omega) (by omega)).mono ?_
  rintro e w1 ⟨rfl, rfl⟩
  rw [HQ.out]
  go_wp2_with fail
  refine bodyPost_ret (v := .agg #[.int .u64 p, .int .i64 q, .string ⟨#[]⟩, .string ⟨#[]⟩, .string s]) (by simp [results, Try.results15, go_sem]) rfl ?_
  rw [HF.out]
  exact ⟨rfl, (Below.refl _ _).alloc (Nat.le_refl _) _⟩

theorem wf_u64 {z : Int} (h1 : 0 ≤ z) (h2 : z ≤ 18446744073709551615) : (Lit.int .u64 z).wf = true := by
  have e1 : IntKind.u64.min = 0 := by decide
  have e2 : IntKind.u64.max = 18446744073709551615 := by decide
  show (decide (_ ≤ z) && decide (z ≤ _)) = true
  rw [e1, e2, decide_eq_true h1, decide_eq_true h2]
  rfl
theorem wf_i64 {z : Int} (h1 : -9223372036854775808 ≤ z) (h2 : z ≤ 9223372036854775807) : (Lit.int .i64 z).wf = true := by
  have e1 : IntKind.i64.min = -9223372036854775808 := by decide
  have e2 : IntKind.i64.max = 9223372036854775807 := by decide
  show (decide (_ ≤ z) && decide (z ≤ _)) = true
  rw [e1, e2, decide_eq_true h1, decide_eq_true h2]
  rfl
/-- texts that a machine can hold, and numbers of their kinds -/
def FitS (L : List Sl) : Prop := ∀ x ∈ L, (x.left.size ≤ 140737488355328 ∧ x.right.size ≤ 140737488355328 ∧ x.val.size ≤ 140737488355328) ∧ (Lit.int .u64 x.sum).wf = true ∧ (Lit.int .i64 x.len).wf = true
theorem FitS.sub {L M : List Sl} (h : FitS M) (hs : ∀ x ∈ L, x ∈ M) : FitS L := fun x hx => h x (hs x hx)
theorem FitS.nil : FitS [] := fun _ hx => by cases hx
theorem FitS.cons {L : List Sl} {s : Sl} (h : FitS L) (hs : FitS [s]) : FitS (s :: L) := fun x hx => by
  rcases List.mem_cons.1 hx with rfl | hx
  · exact hs _ (List.mem_singleton.2 rfl)
  · exact h x hx
theorem FitS.without {L : List Sl} (h : FitS L) (k : Int × Int) : FitS (withoutS L k) := h.sub fun _ hx => (P13.mem_without.1 hx).1
theorem FitS.all {L : List Sl} (h : FitS L) {s : Sl} (hs : FitS [s]) : FitS (allS L s) := (h.without _).cons hs
theorem FitS.take {L : List Sl} (h : FitS L) (n : Nat) : FitS (L.take n) := h.sub fun _ hx => List.mem_of_mem_take hx
theorem FitS.drop {L : List Sl} (h : FitS L) (n : Nat) : FitS (L.drop n) := h.sub fun _ hx => List.mem_of_mem_drop hx
theorem fit_slotOf (c : Int) (s : ByteArray) (hs : s.size ≤ 140737488355328) : FitS [slotOf c s] := fun x hx => by
  have : x = slotOf c s := by simpa using hx
  subst this
  have h1 := pickI_range c 6 (by omega)
  have h2 := pickI_range (c.tdiv 6) 2 (by omega)
  exact ⟨⟨by show (0 : Nat) ≤ _; omega, by show (0 : Nat) ≤ _; omega, hs⟩, wf_u64 (z := pickI c 6) (by omega) (by omega), wf_i64 (z := pickI (c.tdiv 6) 2) (by omega) (by omega)⟩

def KeysGot (L : List Sl) (w : World) (e : Ending) (w' : World) : Prop := ∃ (A : Option Addr) (n c : Nat), e = .returned (.slice A n c) ∧ L.length = n ∧ KeysAt w' A (keysL L) ∧ Below w.heap.size w w'
/-- what the laws ask of package lru: chapter 13, in new memory -/
structure LruOk : Prop where
  right : ∀ (A : Option Addr) (L : List Sl) (n c : Nat) (w : World) (b : Bool), rightB L = b → SlotsAt w A L → L.length = n → L.length ≤ 100 → FitS L →
    Calls Try.prog 13 #[.slice A n c] w fun e w' => e = .returned (.bool b) ∧ Below w.heap.size w w'
  keys : ∀ (A : Option Addr) (L : List Sl) (n c : Nat) (w : World), SlotsAt w A L → L.length = n → L.length ≤ 100 →
    Calls Try.prog 11 #[.slice A n c] w (KeysGot L w)
  get : ∀ (A : Option Addr) (L : List Sl) (n c : Nat) (ks kl : Int) (w : World) (x : Sl) (M : List Sl) (b : Int), getM L (ks, kl) = (x, M, b) → SlotsAt w A L → L.length = n → L.length ≤ 100 → FitS L →
    Calls Try.prog 16 #[.slice A n c, .agg #[.int .u64 ks, .int .i64 kl]] w (GetTold x M b w)
  put : ∀ (A : Option Addr) (L : List Sl) (n c : Nat) (room : Int) (s : Sl) (w : World) (N O : List Sl) (b : Int), putM L room s = (N, O, b) → SlotsAt w A L → L.length = n → L.length ≤ 100 → FitS L → FitS [s] → -9223372036854775808 ≤ room → room ≤ 9223372036854775807 →
    Calls Try.prog 20 #[.slice A n c, .int .i64 room, .agg #[.int .u64 s.sum, .int .i64 s.len, .string s.left, .string s.right, .string s.val]] w (PutTold N O b w)

end Go.Proofs.Ytndhaickelbkiaa
