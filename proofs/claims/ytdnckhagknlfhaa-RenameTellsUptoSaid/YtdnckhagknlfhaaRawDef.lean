/-
  Raw items in memory, and what Item tells (no walk).
-/
import Derived.Test.YtdnckhagknlfhaaIts
import Derived.Test.YtdnckhagknlfhaaRefA
namespace Go.Proofs.Ytdnckhagknlfhaa
open Go.RowKit

/-- a raw item's numbers, as they lie in memory -/
structure RawI where
  A : Option Addr
  zs : List Int
  c : Nat
  kind : Int
  data : ByteArray
  bad : Int
def RawI.v (x : RawI) : Value := .agg #[.slice x.A x.zs.length x.c, .int .i64 x.kind, .string x.data, .int .i64 x.bad]
structure RawI.Ok (x : RawI) (w : World) : Prop where
  path : Ints w w.heap.size x.A x.zs
  few : x.zs.length ≤ 9223372036854775807
  range : ∀ z ∈ x.zs, -9223372036854775808 ≤ z ∧ z ≤ 9223372036854775807
  k1 : -9223372036854775808 ≤ x.kind
  k2 : x.kind ≤ 9223372036854775807
  b1 : -9223372036854775808 ≤ x.bad
  b2 : x.bad ≤ 9223372036854775807
  size : x.data.size ≤ 9223372036854775807
theorem RawI.Ok.up {x : RawI} {w w' : World} (h : x.Ok w) (hb : Below w.heap.size w w') : x.Ok w' :=
  ⟨(h.path.below hb).more hb.size, h.few, h.range, h.k1, h.k2, h.b1, h.b2, h.size⟩
/-- an item that is small -/
def SmallIt (it : It) : Prop := it.path.size ≤ 100 ∧ it.data.size ≤ 60
def ItemTold (w : World) (e : Ending) (w' : World) : Prop := (∃ it : It, e = .returned (.agg #[.string it.path, .int .i64 it.kind, .string it.data, .bool it.bad]) ∧ SmallIt it) ∧ Below w.heap.size w w'
/-- the slice '.slice A rs.length _' holds the raw items -/
def RawsAt (w : World) (A : Option Addr) (rs : List RawI) : Prop :=
  ∀ k x, rs[k]? = some x → ∃ a, A = some a ∧ a.block < w.heap.size ∧ w.cell? (a.add (k * 4)) = some (.slice x.A x.zs.length x.c) ∧ w.cell? ⟨(a.add (k * 4)).block, (a.add (k * 4)).off + 1, none⟩ = some (.int .i64 x.kind) ∧ w.cell? ⟨(a.add (k * 4)).block, (a.add (k * 4)).off + 2, none⟩ = some (.string x.data) ∧ w.cell? ⟨(a.add (k * 4)).block, (a.add (k * 4)).off + 3, none⟩ = some (.int .i64 x.bad) ∧ x.Ok w
theorem RawsAt.up {w w' : World} {A : Option Addr} {rs : List RawI} (h : RawsAt w A rs) (hb : Below w.heap.size w w') : RawsAt w' A rs := fun k x hk => by
  obtain ⟨a, e, hl, c0, c1, c2, c3, ho⟩ := h k x hk
  have hlt : (a.add (k * 4)).block < w.heap.size := by rw [add_block]; exact hl
  exact ⟨a, e, Nat.lt_of_lt_of_le hl hb.size, (hb.cell hlt).trans c0, (hb.cell (p := ⟨_, _, none⟩) hlt).trans c1, (hb.cell (p := ⟨_, _, none⟩) hlt).trans c2, (hb.cell (p := ⟨_, _, none⟩) hlt).trans c3, ho.up hb⟩

end Go.Proofs.Ytdnckhagknlfhaa
