/-
  The contracts of package flight and of the reference, as the laws use them; fills of small numbers.
-/
import Derived.Test.YtllkegonhghkcaaIdl
import Derived.Test.YtllkegonhghkcaaTxt
namespace Go.Proofs.Ytllkegonhghkcaa
open Go.RowKit P15

def Beg3 (b0 : Bool) (N0 : List Fl) (e0 : Int) (w : World) (e : Ending) (w' : World) : Prop :=
  ∃ (A : Option Addr) (n c : Nat), e = .returned (.tuple #[.bool b0, .slice A n c, .int .i64 e0]) ∧ N0.length = n ∧ n ≤ c ∧ FillsAt w' A N0 ∧ Below w.heap.size w w'
def Don3 (l0 : List Int) (N0 : List Fl) (e0 : Int) (w : World) (e : Ending) (w' : World) : Prop :=
  ∃ (B : Option Addr) (m d : Nat) (A : Option Addr) (n c : Nat), e = .returned (.tuple #[.slice B m d, .slice A n c, .int .i64 e0]) ∧ l0.length = m ∧ m ≤ d ∧ IntsAt w' B l0 ∧ N0.length = n ∧ n ≤ c ∧ FillsAt w' A N0 ∧ Below w.heap.size w w'
def Lea3 (N0 : List Fl) (e0 : Int) (w : World) (e : Ending) (w' : World) : Prop :=
  ∃ (A : Option Addr) (n c : Nat), e = .returned (.tuple #[.slice A n c, .int .i64 e0]) ∧ N0.length = n ∧ n ≤ c ∧ FillsAt w' A N0 ∧ Below w.heap.size w w'
def Beg3N (b0 : Bool) (N0 : List Fl) (e0 : Int) (w : World) (e : Ending) (w' : World) : Prop :=
  ∃ (A : Option Addr) (n c : Nat), e = .returned (.tuple #[.bool b0, .slice A n c, .int .i64 e0]) ∧ N0.length = n ∧ n ≤ c ∧ FillsNew w.heap.size w' A N0 ∧ Below w.heap.size w w'
def Don3N (l0 : List Int) (N0 : List Fl) (e0 : Int) (w : World) (e : Ending) (w' : World) : Prop :=
  ∃ (B : Option Addr) (m d : Nat) (A : Option Addr) (n c : Nat), e = .returned (.tuple #[.slice B m d, .slice A n c, .int .i64 e0]) ∧ l0.length = m ∧ m ≤ d ∧ IntsAt w' B l0 ∧ N0.length = n ∧ n ≤ c ∧ FillsNew w.heap.size w' A N0 ∧ Below w.heap.size w w'
def Lea3N (N0 : List Fl) (e0 : Int) (w : World) (e : Ending) (w' : World) : Prop :=
  ∃ (A : Option Addr) (n c : Nat), e = .returned (.tuple #[.slice A n c, .int .i64 e0]) ∧ N0.length = n ∧ n ≤ c ∧ FillsNew w.heap.size w' A N0 ∧ Below w.heap.size w w'
/-- texts of the laws are short -/
abbrev Txt (l : ByteArray) : Prop := l.size ≤ 140737488351232
section
variable (A : Option Addr) (L : List Fl) (n c : Nat) (l r : ByteArray) (who : Int) (w : World) (N0 : List Fl) (e0 : Int)
theorem ibegin3 (b0 : Bool) (ht : beginF L l r who = (b0, N0, e0)) (ha : FillsAt w A L) (hn : L.length = n) (hf : FitF L) (hw : I64 who) (h1 : Txt l) (h2 : Txt r) :
    Calls Try.prog 14 #[.slice A n c, .string l, .string r, .int .i64 who] w (Beg3 b0 N0 e0 w) := (ibegin_any A L n c l r who w _ ht ha hn hf hw h1 h2).mono fun _ _ ⟨A, n, c, h1, h2, h3, h4, h5⟩ => ⟨A, n, c, h1, h2, h3, h4.at_, h5⟩
theorem ibegin3N (b0 : Bool) (ht : beginF L l r who = (b0, N0, e0)) (ha : FillsAt w A L) (hn : L.length = n) (hf : FitF L) (hw : I64 who) (h1 : Txt l) (h2 : Txt r) :
    Calls Try.prog 14 #[.slice A n c, .string l, .string r, .int .i64 who] w (Beg3N b0 N0 e0 w) := (ibegin_any A L n c l r who w _ ht ha hn hf hw h1 h2).mono fun _ _ h => h
theorem rbegin3 (b0 : Bool) (ht : beginF L l r who = (b0, N0, e0)) (ha : FillsAt w A L) (hn : L.length = n) (hf : FitF L) :
    Calls Try.prog 15 #[.slice A n c, .string l, .string r, .int .i64 who] w (Beg3 b0 N0 e0 w) := (rbegin_any A L n c l r who w _ ht ha hn hf).mono fun _ _ h => h
theorem idone3 (l0 : List Int) (ht : doneF L who = (l0, N0, e0)) (ha : FillsAt w A L) (hn : L.length = n) (hf : FitF L) (hw : I64 who) :
    Calls Try.prog 17 #[.slice A n c, .int .i64 who] w (Don3 l0 N0 e0 w) := (idone_any A L n c who w _ ht ha hn hf hw).mono fun _ _ ⟨B, m, d, A, n, c, h1, h2, h3, h4, h5, h6, h7, h8⟩ => ⟨B, m, d, A, n, c, h1, h2, h3, h4, h5, h6, h7.at_, h8⟩
theorem idone3N (l0 : List Int) (ht : doneF L who = (l0, N0, e0)) (ha : FillsAt w A L) (hn : L.length = n) (hf : FitF L) (hw : I64 who) :
    Calls Try.prog 17 #[.slice A n c, .int .i64 who] w (Don3N l0 N0 e0 w) := (idone_any A L n c who w _ ht ha hn hf hw).mono fun _ _ h => h
theorem rdone3 (l0 : List Int) (ht : doneF L who = (l0, N0, e0)) (ha : FillsAt w A L) (hn : L.length = n) (hc : n ≤ c) (hf : FitF L) :
    Calls Try.prog 18 #[.slice A n c, .int .i64 who] w (Don3 l0 N0 e0 w) := (rdone_any A L n c who w _ ht ha hn hc hf).mono fun _ _ h => h
theorem ileave3 (ht : leaveF L who = (N0, e0)) (ha : FillsAt w A L) (hn : L.length = n) (hf : FitF L) (hw : I64 who) :
    Calls Try.prog 19 #[.slice A n c, .int .i64 who] w (Lea3 N0 e0 w) := (ileave_any A L n c who w _ ht ha hn hf hw).mono fun _ _ ⟨A, n, c, h1, h2, h3, h4, h5⟩ => ⟨A, n, c, h1, h2, h3, h4.at_, h5⟩
theorem ileave3N (ht : leaveF L who = (N0, e0)) (ha : FillsAt w A L) (hn : L.length = n) (hf : FitF L) (hw : I64 who) :
    Calls Try.prog 19 #[.slice A n c, .int .i64 who] w (Lea3N N0 e0 w) := (ileave_any A L n c who w _ ht ha hn hf hw).mono fun _ _ h => h
theorem rleave3 (ht : leaveF L who = (N0, e0)) (ha : FillsAt w A L) (hn : L.length = n) (hf : FitF L) :
    Calls Try.prog 20 #[.slice A n c, .int .i64 who] w (Lea3 N0 e0 w) := (rleave_any A L n c who w _ ht ha hn hf).mono fun _ _ h => h
end
/-- small fills -/
structure SmallF (L : List Fl) (m : Nat) : Prop where
  len : L.length ≤ m
  each : ∀ x ∈ L, x.wait.length ≤ m ∧ x.left.size ≤ 2 ∧ x.right.size ≤ 2
  nums : ∀ n ∈ P15.nums L, I64 n
theorem SmallF.fit {L : List Fl} {m : Nat} (h : SmallF L m) (hm : m ≤ 1000) : FitF L :=
  ⟨Nat.le_trans h.len hm, fun x hx => by have := h.each x hx; omega, h.nums⟩
def smallB (L : List Fl) : Bool := decide (L.length ≤ 20) && L.all fun x => decide (x.wait.length ≤ 20) && decide (x.left.size ≤ 2) && decide (x.right.size ≤ 2) && x.nums.all fun n => decide (-1000 ≤ n) && decide (n ≤ 1000)
theorem small_of {L : List Fl} (h : smallB L = true) : FitF L := by
  unfold smallB at h
  rw [Bool.and_eq_true, decide_eq_true_eq, List.all_eq_true] at h
  refine ⟨by omega, fun x hx => ?_, fun n hn => ?_⟩
  · have := h.2 x hx
    simp only [Bool.and_eq_true, decide_eq_true_eq] at this
    omega
  · obtain ⟨x, hx, hn⟩ := List.mem_flatMap.1 hn
    have := h.2 x hx
    simp only [Bool.and_eq_true, List.all_eq_true] at this
    have := this.2 n hn
    simp only [decide_eq_true_eq] at this
    exact ⟨by omega, by omega⟩
theorem fit_nil : FitF [] := small_of (by decide)
theorem textOf_txt (k : Int) : Txt (textOf k) := by have := textOf_size k; show (textOf k).size ≤ _; omega
set_option maxHeartbeats 400000 in
theorem pick15_any (c n : Int) (w : World) (hc1 : -9223372036854775808 ≤ c) (hc2 : c ≤ 9223372036854775807) (hn : 0 < n) (hn2 : n ≤ 140737488355328) :
    Calls Try.prog 12 #[.int .i64 c, .int .i64 n] w fun e w' => e = .returned (.int .i64 (pickI c n)) ∧ w = w' := by
  have h0 : ((n == 0) : Bool) = false := by rw [beq_eq_false_iff_ne]; omega
  by_cases hc : c < 0
  · have hp : 0 ≤ -(c + 1) := by omega
    go_enter Try.func12, Try.ntmps12
    go_wp2
    go_ret
    refine ⟨ret_int ?_, rfl⟩
    unfold pickI pos
    rw [if_pos hc, ← Int.tmod_eq_emod_of_nonneg (by omega), Int.neg_tmod]
  · go_enter Try.func12, Try.ntmps12
    go_wp2
    go_ret
    refine ⟨ret_int ?_, rfl⟩
    unfold pickI pos
    rw [if_neg (by omega)]
theorem pick15_v (c n p : Int) (hp : pickI c n = p) (w : World) (hc : I64 c) (hn : 0 < n) (hn2 : n ≤ 140737488355328) :
    Calls Try.prog 12 #[.int .i64 c, .int .i64 n] w fun e w' => e = .returned (.int .i64 p) ∧ w = w' := by
  subst hp; exact pick15_any c n w hc.1 hc.2 hn hn2
/-- world behind world -/
theorem below_step {a b c : World} (h : Below a.heap.size a b) (h2 : Below b.heap.size b c) : Below a.heap.size a c := h.trans (h2.mono h.size)

end Go.Proofs.Ytllkegonhghkcaa
