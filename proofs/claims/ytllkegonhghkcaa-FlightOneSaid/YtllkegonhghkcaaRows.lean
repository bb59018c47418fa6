/-
  No cell of these rows narrows 'for every input' (looked for: loops, veiled, ifaces, maps, wideKeys, modest, calm, conditions, laid).
  DERIVED. THE GIVEN ROWS OF THIS SEAT. 5 by the template 'for every input the law returns true; each argument reads behind the call as it read before'; 0 by the template 'total and deterministic' (their statements: YtllkegonhghkcaaTotals.lean).
  GIVEN WITH THE SEED: the statements are not yours to turn. If you find one false, say at which input.
  Laid BY PROGRAM, IN A SANDBOX (cutbox-rows.mjs): the forced cells as the released guide's own fill.sh prints them over the translation f0fce4596c934d45… (all of the seat's roots in one cut). By AI agents, Wed Nov 11 2026. No macro, syntax, notation, axiom, sorry.
-/
import Derived.Test.YtllkegonhghkcaaChecked
import GoSem.Claim
import GoSem.ClaimJoined
import GoSem.ClaimMapViews
import Derived.JoinedTies
import Derived.KernelRfl
namespace Go.Proofs.Ytllkegonhghkcaa
/- THE CELL 'sum', in the pinned program and in every row, IS THE sha256 OF THE DUMP (.gsa) THAT YtllkegonhghkcaaProg.lean LOADS. Nothing in Lean hashes anything: it is a label: what it is worth is what the hold of that sum in a sandbox is worth. -/
noncomputable def Try.pinned : Pinned := { name := "ytllkegonhghkcaa", sum := "f0fce4596c934d45d8e3528c1d5a0219defb3c24e28718dfac031aa2edd3d639", checked := Try.checked }
namespace Rows
def none {H : Type} : Left H := { results := [], args := [] }

/-- 'collatorlaw15.FlightTells': WHATEVER THE INPUT: true; the input reads as it did. -/
def flightTellsSpec : ChangeSpec := { name := "flightTells", fn := fun _ => fun
  | [d1, d2, d3, d4, d5, d6] => { results := [.lit (.bool true)], args := [d1, d2, d3, d4, d5, d6] }
  | _ => none }
def flightTellsRow : OpenClaim := { program := "ytllkegonhghkcaa", sum := "f0fce4596c934d45d8e3528c1d5a0219defb3c24e28718dfac031aa2edd3d639", func := "collator/collatorlaw15.FlightTells", spec := "flightTells", unfollowed := true, recurses := true, plainKeys := false, apart := false }
def FlightTellsSaid : Prop := flightTellsRow.holds Try.pinned (OpenSpec.ofChange flightTellsSpec)

/-- ITS FALSE NEIGHBOUR: 'it returns false'. Refute it at one input. -/
def flightTellsWrong : ChangeSpec := { name := "flightTells", fn := fun _ => fun
  | [d1, d2, d3, d4, d5, d6] => { results := [.lit (.bool false)], args := [d1, d2, d3, d4, d5, d6] }
  | _ => none }
def FlightTellsWrongFalsely : Prop := flightTellsRow.holds Try.pinned (OpenSpec.ofChange flightTellsWrong)

/-- 'collatorlaw15.FlightOne': WHATEVER THE INPUT: true; the input reads as it did. -/
def flightOneSpec : ChangeSpec := { name := "flightOne", fn := fun _ => fun
  | [d] => { results := [.lit (.bool true)], args := [d] }
  | _ => none }
def flightOneRow : OpenClaim := { program := "ytllkegonhghkcaa", sum := "f0fce4596c934d45d8e3528c1d5a0219defb3c24e28718dfac031aa2edd3d639", func := "collator/collatorlaw15.FlightOne", spec := "flightOne", unfollowed := true, recurses := true, plainKeys := false, apart := false }
def FlightOneSaid : Prop := flightOneRow.holds Try.pinned (OpenSpec.ofChange flightOneSpec)

/-- ITS FALSE NEIGHBOUR: 'it returns false'. Refute it at one input. -/
def flightOneWrong : ChangeSpec := { name := "flightOne", fn := fun _ => fun
  | [d] => { results := [.lit (.bool false)], args := [d] }
  | _ => none }
def FlightOneWrongFalsely : Prop := flightOneRow.holds Try.pinned (OpenSpec.ofChange flightOneWrong)

/-- 'collatorlaw15.FlightApart': WHATEVER THE INPUT: true; the input reads as it did. -/
def flightApartSpec : ChangeSpec := { name := "flightApart", fn := fun _ => fun
  | [d1, d2] => { results := [.lit (.bool true)], args := [d1, d2] }
  | _ => none }
def flightApartRow : OpenClaim := { program := "ytllkegonhghkcaa", sum := "f0fce4596c934d45d8e3528c1d5a0219defb3c24e28718dfac031aa2edd3d639", func := "collator/collatorlaw15.FlightApart", spec := "flightApart", unfollowed := true, recurses := true, plainKeys := false, apart := false }
def FlightApartSaid : Prop := flightApartRow.holds Try.pinned (OpenSpec.ofChange flightApartSpec)

/-- ITS FALSE NEIGHBOUR: 'it returns false'. Refute it at one input. -/
def flightApartWrong : ChangeSpec := { name := "flightApart", fn := fun _ => fun
  | [d1, d2] => { results := [.lit (.bool false)], args := [d1, d2] }
  | _ => none }
def FlightApartWrongFalsely : Prop := flightApartRow.holds Try.pinned (OpenSpec.ofChange flightApartWrong)

/-- 'collatorlaw15.FlightMany': WHATEVER THE INPUT: true; the input reads as it did. -/
def flightManySpec : ChangeSpec := { name := "flightMany", fn := fun _ => fun
  | [d1, d2, d3] => { results := [.lit (.bool true)], args := [d1, d2, d3] }
  | _ => none }
def flightManyRow : OpenClaim := { program := "ytllkegonhghkcaa", sum := "f0fce4596c934d45d8e3528c1d5a0219defb3c24e28718dfac031aa2edd3d639", func := "collator/collatorlaw15.FlightMany", spec := "flightMany", unfollowed := true, recurses := true, plainKeys := false, apart := false }
def FlightManySaid : Prop := flightManyRow.holds Try.pinned (OpenSpec.ofChange flightManySpec)

/-- ITS FALSE NEIGHBOUR: 'it returns false'. Refute it at one input. -/
def flightManyWrong : ChangeSpec := { name := "flightMany", fn := fun _ => fun
  | [d1, d2, d3] => { results := [.lit (.bool false)], args := [d1, d2, d3] }
  | _ => none }
def FlightManyWrongFalsely : Prop := flightManyRow.holds Try.pinned (OpenSpec.ofChange flightManyWrong)

/-- 'collatorlaw15.FlightEmpty': WHATEVER THE INPUT: true; the input reads as it did. -/
def flightEmptySpec : ChangeSpec := { name := "flightEmpty", fn := fun _ => fun
  | [d1, d2] => { results := [.lit (.bool true)], args := [d1, d2] }
  | _ => none }
def flightEmptyRow : OpenClaim := { program := "ytllkegonhghkcaa", sum := "f0fce4596c934d45d8e3528c1d5a0219defb3c24e28718dfac031aa2edd3d639", func := "collator/collatorlaw15.FlightEmpty", spec := "flightEmpty", unfollowed := true, recurses := true, plainKeys := false, apart := false }
def FlightEmptySaid : Prop := flightEmptyRow.holds Try.pinned (OpenSpec.ofChange flightEmptySpec)

/-- ITS FALSE NEIGHBOUR: 'it returns false'. Refute it at one input. -/
def flightEmptyWrong : ChangeSpec := { name := "flightEmpty", fn := fun _ => fun
  | [d1, d2] => { results := [.lit (.bool false)], args := [d1, d2] }
  | _ => none }
def FlightEmptyWrongFalsely : Prop := flightEmptyRow.holds Try.pinned (OpenSpec.ofChange flightEmptyWrong)

/- THE SECOND FORM. 'bulk': how many values and letters a reading holds, each counted each time it is reached (what is shared counts as often as it is met; a slice's spare places count too). A statement '..UptoSaid' is the law's where the arguments, and the package variables that the reading takes, are together of bulk at most 1048576: NARROWER than '..Said'. Prove '..Said' where nothing that the law and all that it calls make is longer than what came in: it says more and counts as full. Else prove '..UptoSaid'. A law counts once. -/
mutual
def uptoBulk {H : Type} : DataW H → Nat
  | .lit (.string bytes) => bytes.length + 1
  | .lit _ => 1
  | .nil => 1
  | .ptr d => uptoBulk d + 1
  | .slice elems spare => uptoBulkAll elems + uptoBulkAll spare + 1
  | .agg parts => uptoBulkAll parts + 1
  | .iface _ d => uptoBulk d + 1
  | .map entries => uptoBulkEntries entries + 1
  | .held _ => 1
def uptoBulkAll {H : Type} : List (DataW H) → Nat
  | [] => 0
  | d :: r => uptoBulk d + uptoBulkAll r
def uptoBulkEntries {H : Type} : List (Lit × DataW H) → Nat
  | [] => 0
  | x :: r => uptoBulkEntry x + uptoBulkEntries r
def uptoBulkEntry {H : Type} : Lit × DataW H → Nat
  | (.string bytes, d) => bytes.length + uptoBulk d + 1
  | (_, d) => uptoBulk d + 1
 end
def uptoSmall : (H : Type) → List (DataW H) → Bool := fun _ ds => decide (uptoBulkAll ds ≤ 1048576)
def OpenSpec.upto (s : _root_.Go.ChangeSpec) : _root_.Go.OpenSpec := { _root_.Go.OpenSpec.ofChange s with cond := some uptoSmall }

/-- 'collatorlaw15.FlightTells', WHERE WHAT IT READS IS OF BULK AT MOST 1048576: true; the input reads as it did. -/
def flightTellsUptoRow : OpenClaim := { program := "ytllkegonhghkcaa", sum := "f0fce4596c934d45d8e3528c1d5a0219defb3c24e28718dfac031aa2edd3d639", func := "collator/collatorlaw15.FlightTells", spec := "flightTells", unfollowed := true, recurses := true, plainKeys := false, apart := false, narrowed := true }
def FlightTellsUptoSaid : Prop := flightTellsUptoRow.holds Try.pinned (OpenSpec.upto flightTellsSpec)

/-- 'collatorlaw15.FlightOne', WHERE WHAT IT READS IS OF BULK AT MOST 1048576: true; the input reads as it did. -/
def flightOneUptoRow : OpenClaim := { program := "ytllkegonhghkcaa", sum := "f0fce4596c934d45d8e3528c1d5a0219defb3c24e28718dfac031aa2edd3d639", func := "collator/collatorlaw15.FlightOne", spec := "flightOne", unfollowed := true, recurses := true, plainKeys := false, apart := false, narrowed := true }
def FlightOneUptoSaid : Prop := flightOneUptoRow.holds Try.pinned (OpenSpec.upto flightOneSpec)

/-- 'collatorlaw15.FlightApart', WHERE WHAT IT READS IS OF BULK AT MOST 1048576: true; the input reads as it did. -/
def flightApartUptoRow : OpenClaim := { program := "ytllkegonhghkcaa", sum := "f0fce4596c934d45d8e3528c1d5a0219defb3c24e28718dfac031aa2edd3d639", func := "collator/collatorlaw15.FlightApart", spec := "flightApart", unfollowed := true, recurses := true, plainKeys := false, apart := false, narrowed := true }
def FlightApartUptoSaid : Prop := flightApartUptoRow.holds Try.pinned (OpenSpec.upto flightApartSpec)

/-- 'collatorlaw15.FlightMany', WHERE WHAT IT READS IS OF BULK AT MOST 1048576: true; the input reads as it did. -/
def flightManyUptoRow : OpenClaim := { program := "ytllkegonhghkcaa", sum := "f0fce4596c934d45d8e3528c1d5a0219defb3c24e28718dfac031aa2edd3d639", func := "collator/collatorlaw15.FlightMany", spec := "flightMany", unfollowed := true, recurses := true, plainKeys := false, apart := false, narrowed := true }
def FlightManyUptoSaid : Prop := flightManyUptoRow.holds Try.pinned (OpenSpec.upto flightManySpec)

/-- 'collatorlaw15.FlightEmpty', WHERE WHAT IT READS IS OF BULK AT MOST 1048576: true; the input reads as it did. -/
def flightEmptyUptoRow : OpenClaim := { program := "ytllkegonhghkcaa", sum := "f0fce4596c934d45d8e3528c1d5a0219defb3c24e28718dfac031aa2edd3d639", func := "collator/collatorlaw15.FlightEmpty", spec := "flightEmpty", unfollowed := true, recurses := true, plainKeys := false, apart := false, narrowed := true }
def FlightEmptyUptoSaid : Prop := flightEmptyUptoRow.holds Try.pinned (OpenSpec.upto flightEmptySpec)

end Rows
end Go.Proofs.Ytllkegonhghkcaa
