/-
  No cell of these rows narrows 'for every input' (looked for: loops, veiled, ifaces, maps, wideKeys, modest, calm, conditions, laid).
  DERIVED. THE GIVEN ROWS OF THIS SEAT. 5 by the template 'for every input the law returns true; each argument reads behind the call as it read before'; 0 by the template 'total and deterministic' (their statements: YthnjbiojimjlgaaTotals.lean).
  GIVEN WITH THE SEED: the statements are not yours to turn. If you find one false, say at which input.
  Laid BY PROGRAM, IN A SANDBOX (cutbox-rows.mjs): the forced cells as the released guide's own fill.sh prints them over the translation cc3982c6309f0e16… (all of the seat's roots in one cut). By AI agents, Wed Nov 11 2026. No macro, syntax, notation, axiom, sorry.
-/
import Derived.Test.YthnjbiojimjlgaaChecked
import GoSem.Claim
import GoSem.ClaimJoined
import GoSem.ClaimMapViews
import Derived.JoinedTies
import Derived.KernelRfl
namespace Go.Proofs.Ythnjbiojimjlgaa
/- THE CELL 'sum', in the pinned program and in every row, IS THE sha256 OF THE DUMP (.gsa) THAT YthnjbiojimjlgaaProg.lean LOADS. Nothing in Lean hashes anything: it is a label: what it is worth is what the hold of that sum in a sandbox is worth. -/
noncomputable def Try.pinned : Pinned := { name := "ythnjbiojimjlgaa", sum := "cc3982c6309f0e16941bc260e22e3a257753ce94685c78725af228b9b76d2cbc", checked := Try.checked }
namespace Rows
def none {H : Type} : Left H := { results := [], args := [] }

/-- 'collatorlaw07.AlikeTells': WHATEVER THE INPUT: true; the input reads as it did. -/
def alikeTellsSpec : ChangeSpec := { name := "alikeTells", fn := fun _ => fun
  | [d1, d2, d3, d4, d5] => { results := [.lit (.bool true)], args := [d1, d2, d3, d4, d5] }
  | _ => none }
def alikeTellsRow : OpenClaim := { program := "ythnjbiojimjlgaa", sum := "cc3982c6309f0e16941bc260e22e3a257753ce94685c78725af228b9b76d2cbc", func := "collator/collatorlaw07.AlikeTells", spec := "alikeTells", apart := false }
def AlikeTellsSaid : Prop := alikeTellsRow.holds Try.pinned (OpenSpec.ofChange alikeTellsSpec)

/-- ITS FALSE NEIGHBOUR: 'it returns false'. Refute it at one input. -/
def alikeTellsWrong : ChangeSpec := { name := "alikeTells", fn := fun _ => fun
  | [d1, d2, d3, d4, d5] => { results := [.lit (.bool false)], args := [d1, d2, d3, d4, d5] }
  | _ => none }
def AlikeTellsWrongFalsely : Prop := alikeTellsRow.holds Try.pinned (OpenSpec.ofChange alikeTellsWrong)

/-- 'collatorlaw07.AlikeTurned': WHATEVER THE INPUT: true; the input reads as it did. -/
def alikeTurnedSpec : ChangeSpec := { name := "alikeTurned", fn := fun _ => fun
  | [d1, d2, d3, d4] => { results := [.lit (.bool true)], args := [d1, d2, d3, d4] }
  | _ => none }
def alikeTurnedRow : OpenClaim := { program := "ythnjbiojimjlgaa", sum := "cc3982c6309f0e16941bc260e22e3a257753ce94685c78725af228b9b76d2cbc", func := "collator/collatorlaw07.AlikeTurned", spec := "alikeTurned", apart := false }
def AlikeTurnedSaid : Prop := alikeTurnedRow.holds Try.pinned (OpenSpec.ofChange alikeTurnedSpec)

/-- ITS FALSE NEIGHBOUR: 'it returns false'. Refute it at one input. -/
def alikeTurnedWrong : ChangeSpec := { name := "alikeTurned", fn := fun _ => fun
  | [d1, d2, d3, d4] => { results := [.lit (.bool false)], args := [d1, d2, d3, d4] }
  | _ => none }
def AlikeTurnedWrongFalsely : Prop := alikeTurnedRow.holds Try.pinned (OpenSpec.ofChange alikeTurnedWrong)

/-- 'collatorlaw07.AlikeSame': WHATEVER THE INPUT: true; the input reads as it did. -/
def alikeSameSpec : ChangeSpec := { name := "alikeSame", fn := fun _ => fun
  | [d1, d2] => { results := [.lit (.bool true)], args := [d1, d2] }
  | _ => none }
def alikeSameRow : OpenClaim := { program := "ythnjbiojimjlgaa", sum := "cc3982c6309f0e16941bc260e22e3a257753ce94685c78725af228b9b76d2cbc", func := "collator/collatorlaw07.AlikeSame", spec := "alikeSame", apart := false }
def AlikeSameSaid : Prop := alikeSameRow.holds Try.pinned (OpenSpec.ofChange alikeSameSpec)

/-- ITS FALSE NEIGHBOUR: 'it returns false'. Refute it at one input. -/
def alikeSameWrong : ChangeSpec := { name := "alikeSame", fn := fun _ => fun
  | [d1, d2] => { results := [.lit (.bool false)], args := [d1, d2] }
  | _ => none }
def AlikeSameWrongFalsely : Prop := alikeSameRow.holds Try.pinned (OpenSpec.ofChange alikeSameWrong)

/-- 'collatorlaw07.AlikeBest': WHATEVER THE INPUT: true; the input reads as it did. -/
def alikeBestSpec : ChangeSpec := { name := "alikeBest", fn := fun _ => fun
  | [d1, d2] => { results := [.lit (.bool true)], args := [d1, d2] }
  | _ => none }
def alikeBestRow : OpenClaim := { program := "ythnjbiojimjlgaa", sum := "cc3982c6309f0e16941bc260e22e3a257753ce94685c78725af228b9b76d2cbc", func := "collator/collatorlaw07.AlikeBest", spec := "alikeBest", apart := false }
def AlikeBestSaid : Prop := alikeBestRow.holds Try.pinned (OpenSpec.ofChange alikeBestSpec)

/-- ITS FALSE NEIGHBOUR: 'it returns false'. Refute it at one input. -/
def alikeBestWrong : ChangeSpec := { name := "alikeBest", fn := fun _ => fun
  | [d1, d2] => { results := [.lit (.bool false)], args := [d1, d2] }
  | _ => none }
def AlikeBestWrongFalsely : Prop := alikeBestRow.holds Try.pinned (OpenSpec.ofChange alikeBestWrong)

/-- 'collatorlaw07.AlikeTwice': WHATEVER THE INPUT: true; the input reads as it did. -/
def alikeTwiceSpec : ChangeSpec := { name := "alikeTwice", fn := fun _ => fun
  | [d1, d2, d3] => { results := [.lit (.bool true)], args := [d1, d2, d3] }
  | _ => none }
def alikeTwiceRow : OpenClaim := { program := "ythnjbiojimjlgaa", sum := "cc3982c6309f0e16941bc260e22e3a257753ce94685c78725af228b9b76d2cbc", func := "collator/collatorlaw07.AlikeTwice", spec := "alikeTwice", apart := false }
def AlikeTwiceSaid : Prop := alikeTwiceRow.holds Try.pinned (OpenSpec.ofChange alikeTwiceSpec)

/-- ITS FALSE NEIGHBOUR: 'it returns false'. Refute it at one input. -/
def alikeTwiceWrong : ChangeSpec := { name := "alikeTwice", fn := fun _ => fun
  | [d1, d2, d3] => { results := [.lit (.bool false)], args := [d1, d2, d3] }
  | _ => none }
def AlikeTwiceWrongFalsely : Prop := alikeTwiceRow.holds Try.pinned (OpenSpec.ofChange alikeTwiceWrong)

/- THE SECOND FORM. 'bulk': how many values and letters a reading holds, each counted each time it is reached (what is shared counts as often as it is met; a slice's spare places count too). A statement '..UptoSaid' is the law's where the arguments, and the package variables that the reading takes, are together of bulk at most 1048576: NARROWER than '..Said'. Prove '..Said' where nothing that the law and all that it calls make is longer than what came in: it says more and counts as full. Else prove '..UptoSaid'. A law counts once. -/
mutual
def uptoBulk {H : Type} : DataW H → Nat
  | .lit (.string bytes) => bytes.length + 1
  | .lit _ => 1
  | .nil => 1
  | .ptr d => uptoBulk d + 1
  | .slice elems spare => uptoBulkAll elems + uptoBulkAll spare + 1
  | .agg parts => uptoBulkAll parts + 1
  | .iface _ d => uptoBulk d + 1
  | .map entries => uptoBulkEntries entries + 1
  | .held _ => 1
def uptoBulkAll {H : Type} : List (DataW H) → Nat
  | [] => 0
  | d :: r => uptoBulk d + uptoBulkAll r
def uptoBulkEntries {H : Type} : List (Lit × DataW H) → Nat
  | [] => 0
  | x :: r => uptoBulkEntry x + uptoBulkEntries r
def uptoBulkEntry {H : Type} : Lit × DataW H → Nat
  | (.string bytes, d) => bytes.length + uptoBulk d + 1
  | (_, d) => uptoBulk d + 1
 end
def uptoSmall : (H : Type) → List (DataW H) → Bool := fun _ ds => decide (uptoBulkAll ds ≤ 1048576)
def OpenSpec.upto (s : _root_.Go.ChangeSpec) : _root_.Go.OpenSpec := { _root_.Go.OpenSpec.ofChange s with cond := some uptoSmall }

/-- 'collatorlaw07.AlikeTells', WHERE WHAT IT READS IS OF BULK AT MOST 1048576: true; the input reads as it did. -/
def alikeTellsUptoRow : OpenClaim := { program := "ythnjbiojimjlgaa", sum := "cc3982c6309f0e16941bc260e22e3a257753ce94685c78725af228b9b76d2cbc", func := "collator/collatorlaw07.AlikeTells", spec := "alikeTells", apart := false, narrowed := true }
def AlikeTellsUptoSaid : Prop := alikeTellsUptoRow.holds Try.pinned (OpenSpec.upto alikeTellsSpec)

/-- 'collatorlaw07.AlikeTurned', WHERE WHAT IT READS IS OF BULK AT MOST 1048576: true; the input reads as it did. -/
def alikeTurnedUptoRow : OpenClaim := { program := "ythnjbiojimjlgaa", sum := "cc3982c6309f0e16941bc260e22e3a257753ce94685c78725af228b9b76d2cbc", func := "collator/collatorlaw07.AlikeTurned", spec := "alikeTurned", apart := false, narrowed := true }
def AlikeTurnedUptoSaid : Prop := alikeTurnedUptoRow.holds Try.pinned (OpenSpec.upto alikeTurnedSpec)

/-- 'collatorlaw07.AlikeSame', WHERE WHAT IT READS IS OF BULK AT MOST 1048576: true; the input reads as it did. -/
def alikeSameUptoRow : OpenClaim := { program := "ythnjbiojimjlgaa", sum := "cc3982c6309f0e16941bc260e22e3a257753ce94685c78725af228b9b76d2cbc", func := "collator/collatorlaw07.AlikeSame", spec := "alikeSame", apart := false, narrowed := true }
def AlikeSameUptoSaid : Prop := alikeSameUptoRow.holds Try.pinned (OpenSpec.upto alikeSameSpec)

/-- 'collatorlaw07.AlikeBest', WHERE WHAT IT READS IS OF BULK AT MOST 1048576: true; the input reads as it did. -/
def alikeBestUptoRow : OpenClaim := { program := "ythnjbiojimjlgaa", sum := "cc3982c6309f0e16941bc260e22e3a257753ce94685c78725af228b9b76d2cbc", func := "collator/collatorlaw07.AlikeBest", spec := "alikeBest", apart := false, narrowed := true }
def AlikeBestUptoSaid : Prop := alikeBestUptoRow.holds Try.pinned (OpenSpec.upto alikeBestSpec)

/-- 'collatorlaw07.AlikeTwice', WHERE WHAT IT READS IS OF BULK AT MOST 1048576: true; the input reads as it did. -/
def alikeTwiceUptoRow : OpenClaim := { program := "ythnjbiojimjlgaa", sum := "cc3982c6309f0e16941bc260e22e3a257753ce94685c78725af228b9b76d2cbc", func := "collator/collatorlaw07.AlikeTwice", spec := "alikeTwice", apart := false, narrowed := true }
def AlikeTwiceUptoSaid : Prop := alikeTwiceUptoRow.holds Try.pinned (OpenSpec.upto alikeTwiceSpec)

end Rows
end Go.Proofs.Ythnjbiojimjlgaa
