/-
  Queues of tasks as plain mathematics: what chapter 16 asks of New, Right, Put, Take, Drop and Close. No program.
-/
import Init
namespace P16

/-- a task -/
structure Tk where
  req : Int
  slot : Int
  left : ByteArray
  right : ByteArray
deriving DecidableEq
/-- a queue -/
structure Qu where
  room : Int
  closed : Bool
  tasks : List Tk
deriving DecidableEq
def zeroT : Tk := ⟨0, 0, ⟨#[]⟩, ⟨#[]⟩⟩
def zeroQ : Qu := ⟨0, false, []⟩
def mayB (room : Int) : Bool := decide (0 ≤ room) && decide (room ≤ 4096)
def rightB (q : Qu) : Bool := mayB q.room && decide ((q.tasks.length : Int) ≤ q.room)
def newQ (room : Int) : Qu × Int := if mayB room then (⟨room, false, []⟩, 0) else (zeroQ, 1)
/-- how many of m come in -/
def comes (q : Qu) (m : Nat) : Nat := min m (q.room.toNat - q.tasks.length)
def putQ (q : Qu) (L : List Tk) : Nat × Qu × Int :=
  if rightB q then (if q.closed then (0, zeroQ, 13) else (comes q L.length, ⟨q.room, q.closed, q.tasks ++ L.take (comes q L.length)⟩, 0)) else (0, zeroQ, 1)
def takeQ (q : Qu) : Tk × Qu × Int :=
  if rightB q then (match q.tasks with | [] => (zeroT, zeroQ, 10) | x :: T => (x, ⟨q.room, q.closed, T⟩, 0)) else (zeroT, zeroQ, 1)
/-- all tasks but a request's -/
def others (T : List Tk) (r : Int) : List Tk := T.filter fun x => decide (x.req ≠ r)
def dropQ (q : Qu) (r : Int) : Nat × Qu × Int :=
  if rightB q then (q.tasks.length - (others q.tasks r).length, ⟨q.room, q.closed, others q.tasks r⟩, 0) else (0, zeroQ, 1)
def closeQ (q : Qu) : Qu × Int := if rightB q then (⟨q.room, true, q.tasks⟩, 0) else (zeroQ, 1)

theorem others_snoc {T : List Tk} {r : Int} {x : Tk} : others (T ++ [x]) r = if x.req = r then others T r else others T r ++ [x] := by
  unfold others
  rw [List.filter_append]
  by_cases h : x.req = r <;> simp [h]
theorem others_len (T : List Tk) (r : Int) : (others T r).length ≤ T.length := List.length_filter_le _ _
theorem others_ne {T : List Tk} {r : Int} {x : Tk} (h : x ∈ others T r) : x.req ≠ r := by
  have := (List.mem_filter.1 h).2
  simpa using this
theorem others_mem {T : List Tk} {r : Int} {x : Tk} (h : x ∈ others T r) : x ∈ T := (List.mem_filter.1 h).1
theorem others_append (S T : List Tk) (r : Int) : others (S ++ T) r = others S r ++ others T r := List.filter_append ..
theorem right_of {q : Qu} (h0 : 0 ≤ q.room) (h1 : q.room ≤ 4096) (h2 : (q.tasks.length : Int) ≤ q.room) : rightB q = true := by
  unfold rightB mayB
  simp [h0, h1, h2]
theorem right_iff {q : Qu} : rightB q = true ↔ 0 ≤ q.room ∧ q.room ≤ 4096 ∧ (q.tasks.length : Int) ≤ q.room := by
  unfold rightB mayB
  simp [and_assoc]
theorem may_iff {r : Int} : mayB r = true ↔ 0 ≤ r ∧ r ≤ 4096 := by unfold mayB; simp
theorem new_ok {r : Int} (h0 : 0 ≤ r) (h1 : r ≤ 4096) : newQ r = (⟨r, false, []⟩, 0) := by
  unfold newQ
  rw [if_pos (may_iff.2 ⟨h0, h1⟩)]
theorem put_ok {q : Qu} {L : List Tk} (h : rightB q = true) (hc : q.closed = false) : putQ q L = (comes q L.length, ⟨q.room, q.closed, q.tasks ++ L.take (comes q L.length)⟩, 0) := by
  unfold putQ
  rw [if_pos h, if_neg (by simp [hc])]
theorem put_closed {q : Qu} {L : List Tk} (h : rightB q = true) (hc : q.closed = true) : putQ q L = (0, zeroQ, 13) := by
  unfold putQ
  rw [if_pos h, if_pos hc]
theorem put_bad {q : Qu} {L : List Tk} (h : rightB q = false) : putQ q L = (0, zeroQ, 1) := by
  unfold putQ
  rw [if_neg (by simp [h])]
theorem take_bad {q : Qu} (h : rightB q = false) : takeQ q = (zeroT, zeroQ, 1) := by
  unfold takeQ
  rw [if_neg (by simp [h])]
theorem take_none {r : Int} {c : Bool} (h : rightB ⟨r, c, []⟩ = true) : takeQ ⟨r, c, []⟩ = (zeroT, zeroQ, 10) := by
  unfold takeQ
  rw [if_pos h]
theorem take_ok {r : Int} {c : Bool} {x : Tk} {T : List Tk} (h : rightB ⟨r, c, x :: T⟩ = true) : takeQ ⟨r, c, x :: T⟩ = (x, ⟨r, c, T⟩, 0) := by
  unfold takeQ
  rw [if_pos h]
theorem drop_bad {q : Qu} {r : Int} (h : rightB q = false) : dropQ q r = (0, zeroQ, 1) := by
  unfold dropQ
  rw [if_neg (by simp [h])]
theorem drop_ok {q : Qu} {r : Int} (h : rightB q = true) : dropQ q r = (q.tasks.length - (others q.tasks r).length, ⟨q.room, q.closed, others q.tasks r⟩, 0) := by
  unfold dropQ
  rw [if_pos h]
theorem close_bad {q : Qu} (h : rightB q = false) : closeQ q = (zeroQ, 1) := by
  unfold closeQ
  rw [if_neg (by simp [h])]
theorem close_ok {q : Qu} (h : rightB q = true) : closeQ q = (⟨q.room, true, q.tasks⟩, 0) := by
  unfold closeQ
  rw [if_pos h]

end P16
