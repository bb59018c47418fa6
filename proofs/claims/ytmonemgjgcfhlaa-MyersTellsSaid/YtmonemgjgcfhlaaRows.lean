/-
  No cell of these rows narrows 'for every input' (looked for: loops, veiled, ifaces, maps, wideKeys, modest, calm, conditions, laid).
  DERIVED. THE GIVEN ROWS OF THIS SEAT. 7 by the template 'for every input the law returns true; each argument reads behind the call as it read before'; 0 by the template 'total and deterministic' (their statements: YtmonemgjgcfhlaaTotals.lean).
  GIVEN WITH THE SEED: the statements are not yours to turn. If you find one false, say at which input.
  Laid BY PROGRAM, IN A SANDBOX (cutbox-rows.mjs): the forced cells as the released guide's own fill.sh prints them over the translation 142a0c7bde694687… (all of the seat's roots in one cut). By AI agents, Wed Nov 11 2026. No macro, syntax, notation, axiom, sorry.
-/
import Derived.Test.YtmonemgjgcfhlaaChecked
import GoSem.Claim
import GoSem.ClaimJoined
import GoSem.ClaimMapViews
import Derived.JoinedTies
import Derived.KernelRfl
namespace Go.Proofs.Ytmonemgjgcfhlaa
/- THE CELL 'sum', in the pinned program and in every row, IS THE sha256 OF THE DUMP (.gsa) THAT YtmonemgjgcfhlaaProg.lean LOADS. Nothing in Lean hashes anything: it is a label: what it is worth is what the hold of that sum in a sandbox is worth. -/
noncomputable def Try.pinned : Pinned := { name := "ytmonemgjgcfhlaa", sum := "142a0c7bde69468770cd0c3a80362f2c9edc4434fff1e4965d01d07153e75354", checked := Try.checked }
namespace Rows
def none {H : Type} : Left H := { results := [], args := [] }

/-- 'collatorlaw05.MyersTells': WHATEVER THE INPUT: true; the input reads as it did. -/
def myersTellsSpec : ChangeSpec := { name := "myersTells", fn := fun _ => fun
  | [d1, d2, d3, d4] => { results := [.lit (.bool true)], args := [d1, d2, d3, d4] }
  | _ => none }
def myersTellsRow : OpenClaim := { program := "ytmonemgjgcfhlaa", sum := "142a0c7bde69468770cd0c3a80362f2c9edc4434fff1e4965d01d07153e75354", func := "collator/collatorlaw05.MyersTells", spec := "myersTells", unfollowed := true, recurses := true, apart := false }
def MyersTellsSaid : Prop := myersTellsRow.holds Try.pinned (OpenSpec.ofChange myersTellsSpec)

/-- ITS FALSE NEIGHBOUR: 'it returns false'. Refute it at one input. -/
def myersTellsWrong : ChangeSpec := { name := "myersTells", fn := fun _ => fun
  | [d1, d2, d3, d4] => { results := [.lit (.bool false)], args := [d1, d2, d3, d4] }
  | _ => none }
def MyersTellsWrongFalsely : Prop := myersTellsRow.holds Try.pinned (OpenSpec.ofChange myersTellsWrong)

/-- 'collatorlaw05.MyersTurned': WHATEVER THE INPUT: true; the input reads as it did. -/
def myersTurnedSpec : ChangeSpec := { name := "myersTurned", fn := fun _ => fun
  | [d1, d2, d3] => { results := [.lit (.bool true)], args := [d1, d2, d3] }
  | _ => none }
def myersTurnedRow : OpenClaim := { program := "ytmonemgjgcfhlaa", sum := "142a0c7bde69468770cd0c3a80362f2c9edc4434fff1e4965d01d07153e75354", func := "collator/collatorlaw05.MyersTurned", spec := "myersTurned", unfollowed := true, recurses := true, apart := false }
def MyersTurnedSaid : Prop := myersTurnedRow.holds Try.pinned (OpenSpec.ofChange myersTurnedSpec)

/-- ITS FALSE NEIGHBOUR: 'it returns false'. Refute it at one input. -/
def myersTurnedWrong : ChangeSpec := { name := "myersTurned", fn := fun _ => fun
  | [d1, d2, d3] => { results := [.lit (.bool false)], args := [d1, d2, d3] }
  | _ => none }
def MyersTurnedWrongFalsely : Prop := myersTurnedRow.holds Try.pinned (OpenSpec.ofChange myersTurnedWrong)

/-- 'collatorlaw05.MyersShared': WHATEVER THE INPUT: true; the input reads as it did. -/
def myersSharedSpec : ChangeSpec := { name := "myersShared", fn := fun _ => fun
  | [d1, d2, d3, d4] => { results := [.lit (.bool true)], args := [d1, d2, d3, d4] }
  | _ => none }
def myersSharedRow : OpenClaim := { program := "ytmonemgjgcfhlaa", sum := "142a0c7bde69468770cd0c3a80362f2c9edc4434fff1e4965d01d07153e75354", func := "collator/collatorlaw05.MyersShared", spec := "myersShared", unfollowed := true, recurses := true, apart := false }
def MyersSharedSaid : Prop := myersSharedRow.holds Try.pinned (OpenSpec.ofChange myersSharedSpec)

/-- ITS FALSE NEIGHBOUR: 'it returns false'. Refute it at one input. -/
def myersSharedWrong : ChangeSpec := { name := "myersShared", fn := fun _ => fun
  | [d1, d2, d3, d4] => { results := [.lit (.bool false)], args := [d1, d2, d3, d4] }
  | _ => none }
def MyersSharedWrongFalsely : Prop := myersSharedRow.holds Try.pinned (OpenSpec.ofChange myersSharedWrong)

/-- 'collatorlaw05.MyersEnds': WHATEVER THE INPUT: true; the input reads as it did. -/
def myersEndsSpec : ChangeSpec := { name := "myersEnds", fn := fun _ => fun
  | [d1, d2] => { results := [.lit (.bool true)], args := [d1, d2] }
  | _ => none }
def myersEndsRow : OpenClaim := { program := "ytmonemgjgcfhlaa", sum := "142a0c7bde69468770cd0c3a80362f2c9edc4434fff1e4965d01d07153e75354", func := "collator/collatorlaw05.MyersEnds", spec := "myersEnds", unfollowed := true, recurses := true, apart := false }
def MyersEndsSaid : Prop := myersEndsRow.holds Try.pinned (OpenSpec.ofChange myersEndsSpec)

/-- ITS FALSE NEIGHBOUR: 'it returns false'. Refute it at one input. -/
def myersEndsWrong : ChangeSpec := { name := "myersEnds", fn := fun _ => fun
  | [d1, d2] => { results := [.lit (.bool false)], args := [d1, d2] }
  | _ => none }
def MyersEndsWrongFalsely : Prop := myersEndsRow.holds Try.pinned (OpenSpec.ofChange myersEndsWrong)

/-- 'collatorlaw05.MyersReplace': WHATEVER THE INPUT: true; the input reads as it did. -/
def myersReplaceSpec : ChangeSpec := { name := "myersReplace", fn := fun _ => fun
  | [d1, d2] => { results := [.lit (.bool true)], args := [d1, d2] }
  | _ => none }
def myersReplaceRow : OpenClaim := { program := "ytmonemgjgcfhlaa", sum := "142a0c7bde69468770cd0c3a80362f2c9edc4434fff1e4965d01d07153e75354", func := "collator/collatorlaw05.MyersReplace", spec := "myersReplace", unfollowed := true, recurses := true, apart := false }
def MyersReplaceSaid : Prop := myersReplaceRow.holds Try.pinned (OpenSpec.ofChange myersReplaceSpec)

/-- ITS FALSE NEIGHBOUR: 'it returns false'. Refute it at one input. -/
def myersReplaceWrong : ChangeSpec := { name := "myersReplace", fn := fun _ => fun
  | [d1, d2] => { results := [.lit (.bool false)], args := [d1, d2] }
  | _ => none }
def MyersReplaceWrongFalsely : Prop := myersReplaceRow.holds Try.pinned (OpenSpec.ofChange myersReplaceWrong)

/-- 'collatorlaw05.MyersParts': WHATEVER THE INPUT: true; the input reads as it did. -/
def myersPartsSpec : ChangeSpec := { name := "myersParts", fn := fun _ => fun
  | [d1, d2, d3, d4, d5] => { results := [.lit (.bool true)], args := [d1, d2, d3, d4, d5] }
  | _ => none }
def myersPartsRow : OpenClaim := { program := "ytmonemgjgcfhlaa", sum := "142a0c7bde69468770cd0c3a80362f2c9edc4434fff1e4965d01d07153e75354", func := "collator/collatorlaw05.MyersParts", spec := "myersParts", unfollowed := true, recurses := true, apart := false }
def MyersPartsSaid : Prop := myersPartsRow.holds Try.pinned (OpenSpec.ofChange myersPartsSpec)

/-- ITS FALSE NEIGHBOUR: 'it returns false'. Refute it at one input. -/
def myersPartsWrong : ChangeSpec := { name := "myersParts", fn := fun _ => fun
  | [d1, d2, d3, d4, d5] => { results := [.lit (.bool false)], args := [d1, d2, d3, d4, d5] }
  | _ => none }
def MyersPartsWrongFalsely : Prop := myersPartsRow.holds Try.pinned (OpenSpec.ofChange myersPartsWrong)

/-- 'collatorlaw07.AlikeMore': WHATEVER THE INPUT: true; the input reads as it did. -/
def alikeMoreSpec : ChangeSpec := { name := "alikeMore", fn := fun _ => fun
  | [d1, d2, d3] => { results := [.lit (.bool true)], args := [d1, d2, d3] }
  | _ => none }
def alikeMoreRow : OpenClaim := { program := "ytmonemgjgcfhlaa", sum := "142a0c7bde69468770cd0c3a80362f2c9edc4434fff1e4965d01d07153e75354", func := "collator/collatorlaw07.AlikeMore", spec := "alikeMore", unfollowed := true, recurses := true, apart := false }
def AlikeMoreSaid : Prop := alikeMoreRow.holds Try.pinned (OpenSpec.ofChange alikeMoreSpec)

/-- ITS FALSE NEIGHBOUR: 'it returns false'. Refute it at one input. -/
def alikeMoreWrong : ChangeSpec := { name := "alikeMore", fn := fun _ => fun
  | [d1, d2, d3] => { results := [.lit (.bool false)], args := [d1, d2, d3] }
  | _ => none }
def AlikeMoreWrongFalsely : Prop := alikeMoreRow.holds Try.pinned (OpenSpec.ofChange alikeMoreWrong)

/- THE SECOND FORM. 'bulk': how many values and letters a reading holds, each counted each time it is reached (what is shared counts as often as it is met; a slice's spare places count too). A statement '..UptoSaid' is the law's where the arguments, and the package variables that the reading takes, are together of bulk at most 1048576: NARROWER than '..Said'. Prove '..Said' where nothing that the law and all that it calls make is longer than what came in: it says more and counts as full. Else prove '..UptoSaid'. A law counts once. -/
mutual
def uptoBulk {H : Type} : DataW H → Nat
  | .lit (.string bytes) => bytes.length + 1
  | .lit _ => 1
  | .nil => 1
  | .ptr d => uptoBulk d + 1
  | .slice elems spare => uptoBulkAll elems + uptoBulkAll spare + 1
  | .agg parts => uptoBulkAll parts + 1
  | .iface _ d => uptoBulk d + 1
  | .map entries => uptoBulkEntries entries + 1
  | .held _ => 1
def uptoBulkAll {H : Type} : List (DataW H) → Nat
  | [] => 0
  | d :: r => uptoBulk d + uptoBulkAll r
def uptoBulkEntries {H : Type} : List (Lit × DataW H) → Nat
  | [] => 0
  | x :: r => uptoBulkEntry x + uptoBulkEntries r
def uptoBulkEntry {H : Type} : Lit × DataW H → Nat
  | (.string bytes, d) => bytes.length + uptoBulk d + 1
  | (_, d) => uptoBulk d + 1
 end
def uptoSmall : (H : Type) → List (DataW H) → Bool := fun _ ds => decide (uptoBulkAll ds ≤ 1048576)
def OpenSpec.upto (s : _root_.Go.ChangeSpec) : _root_.Go.OpenSpec := { _root_.Go.OpenSpec.ofChange s with cond := some uptoSmall }

/-- 'collatorlaw05.MyersTells', WHERE WHAT IT READS IS OF BULK AT MOST 1048576: true; the input reads as it did. -/
def myersTellsUptoRow : OpenClaim := { program := "ytmonemgjgcfhlaa", sum := "142a0c7bde69468770cd0c3a80362f2c9edc4434fff1e4965d01d07153e75354", func := "collator/collatorlaw05.MyersTells", spec := "myersTells", unfollowed := true, recurses := true, apart := false, narrowed := true }
def MyersTellsUptoSaid : Prop := myersTellsUptoRow.holds Try.pinned (OpenSpec.upto myersTellsSpec)

/-- 'collatorlaw05.MyersTurned', WHERE WHAT IT READS IS OF BULK AT MOST 1048576: true; the input reads as it did. -/
def myersTurnedUptoRow : OpenClaim := { program := "ytmonemgjgcfhlaa", sum := "142a0c7bde69468770cd0c3a80362f2c9edc4434fff1e4965d01d07153e75354", func := "collator/collatorlaw05.MyersTurned", spec := "myersTurned", unfollowed := true, recurses := true, apart := false, narrowed := true }
def MyersTurnedUptoSaid : Prop := myersTurnedUptoRow.holds Try.pinned (OpenSpec.upto myersTurnedSpec)

/-- 'collatorlaw05.MyersShared', WHERE WHAT IT READS IS OF BULK AT MOST 1048576: true; the input reads as it did. -/
def myersSharedUptoRow : OpenClaim := { program := "ytmonemgjgcfhlaa", sum := "142a0c7bde69468770cd0c3a80362f2c9edc4434fff1e4965d01d07153e75354", func := "collator/collatorlaw05.MyersShared", spec := "myersShared", unfollowed := true, recurses := true, apart := false, narrowed := true }
def MyersSharedUptoSaid : Prop := myersSharedUptoRow.holds Try.pinned (OpenSpec.upto myersSharedSpec)

/-- 'collatorlaw05.MyersEnds', WHERE WHAT IT READS IS OF BULK AT MOST 1048576: true; the input reads as it did. -/
def myersEndsUptoRow : OpenClaim := { program := "ytmonemgjgcfhlaa", sum := "142a0c7bde69468770cd0c3a80362f2c9edc4434fff1e4965d01d07153e75354", func := "collator/collatorlaw05.MyersEnds", spec := "myersEnds", unfollowed := true, recurses := true, apart := false, narrowed := true }
def MyersEndsUptoSaid : Prop := myersEndsUptoRow.holds Try.pinned (OpenSpec.upto myersEndsSpec)

/-- 'collatorlaw05.MyersReplace', WHERE WHAT IT READS IS OF BULK AT MOST 1048576: true; the input reads as it did. -/
def myersReplaceUptoRow : OpenClaim := { program := "ytmonemgjgcfhlaa", sum := "142a0c7bde69468770cd0c3a80362f2c9edc4434fff1e4965d01d07153e75354", func := "collator/collatorlaw05.MyersReplace", spec := "myersReplace", unfollowed := true, recurses := true, apart := false, narrowed := true }
def MyersReplaceUptoSaid : Prop := myersReplaceUptoRow.holds Try.pinned (OpenSpec.upto myersReplaceSpec)

/-- 'collatorlaw05.MyersParts', WHERE WHAT IT READS IS OF BULK AT MOST 1048576: true; the input reads as it did. -/
def myersPartsUptoRow : OpenClaim := { program := "ytmonemgjgcfhlaa", sum := "142a0c7bde69468770cd0c3a80362f2c9edc4434fff1e4965d01d07153e75354", func := "collator/collatorlaw05.MyersParts", spec := "myersParts", unfollowed := true, recurses := true, apart := false, narrowed := true }
def MyersPartsUptoSaid : Prop := myersPartsUptoRow.holds Try.pinned (OpenSpec.upto myersPartsSpec)

/-- 'collatorlaw07.AlikeMore', WHERE WHAT IT READS IS OF BULK AT MOST 1048576: true; the input reads as it did. -/
def alikeMoreUptoRow : OpenClaim := { program := "ytmonemgjgcfhlaa", sum := "142a0c7bde69468770cd0c3a80362f2c9edc4434fff1e4965d01d07153e75354", func := "collator/collatorlaw07.AlikeMore", spec := "alikeMore", unfollowed := true, recurses := true, apart := false, narrowed := true }
def AlikeMoreUptoSaid : Prop := alikeMoreUptoRow.holds Try.pinned (OpenSpec.upto alikeMoreSpec)

end Rows
end Go.Proofs.Ytmonemgjgcfhlaa
