/-
  No cell of these rows narrows 'for every input' (looked for: loops, veiled, ifaces, maps, wideKeys, modest, calm, conditions, laid).
  DERIVED. THE GIVEN ROWS OF THIS SEAT. 6 by the template 'for every input the law returns true; each argument reads behind the call as it read before'; 0 by the template 'total and deterministic' (their statements: YtjifmfgfmciaeaaTotals.lean).
  GIVEN WITH THE SEED: the statements are not yours to turn. If you find one false, say at which input.
  Laid BY PROGRAM, IN A SANDBOX (cutbox-rows.mjs): the forced cells as the released guide's own fill.sh prints them over the translation ae9beb58475f0bab… (all of the seat's roots in one cut). By AI agents, Wed Nov 11 2026. No macro, syntax, notation, axiom, sorry.
-/
import Derived.Test.YtjifmfgfmciaeaaChecked
import GoSem.Claim
import GoSem.ClaimJoined
import GoSem.ClaimMapViews
import Derived.JoinedTies
import Derived.KernelRfl
namespace Go.Proofs.Ytjifmfgfmciaeaa
/- THE CELL 'sum', in the pinned program and in every row, IS THE sha256 OF THE DUMP (.gsa) THAT YtjifmfgfmciaeaaProg.lean LOADS. Nothing in Lean hashes anything: it is a label: what it is worth is what the hold of that sum in a sandbox is worth. -/
noncomputable def Try.pinned : Pinned := { name := "ytjifmfgfmciaeaa", sum := "ae9beb58475f0bab2a4d69cbf3606bdf3bed3fb97495880d273716c4f227420b", checked := Try.checked }
namespace Rows
def none {H : Type} : Left H := { results := [], args := [] }

/-- 'collatorlaw14.CacheTells': WHATEVER THE INPUT: true; the input reads as it did. -/
def cacheTellsSpec : ChangeSpec := { name := "cacheTells", fn := fun _ => fun
  | [d1, d2, d3, d4, d5, d6, d7, d8, d9, d10, d11] => { results := [.lit (.bool true)], args := [d1, d2, d3, d4, d5, d6, d7, d8, d9, d10, d11] }
  | _ => none }
def cacheTellsRow : OpenClaim := { program := "ytjifmfgfmciaeaa", sum := "ae9beb58475f0bab2a4d69cbf3606bdf3bed3fb97495880d273716c4f227420b", func := "collator/collatorlaw14.CacheTells", spec := "cacheTells", unfollowed := true, recurses := true, plainKeys := false, apart := false }
def CacheTellsSaid : Prop := cacheTellsRow.holds Try.pinned (OpenSpec.ofChange cacheTellsSpec)

/-- ITS FALSE NEIGHBOUR: 'it returns false'. Refute it at one input. -/
def cacheTellsWrong : ChangeSpec := { name := "cacheTells", fn := fun _ => fun
  | [d1, d2, d3, d4, d5, d6, d7, d8, d9, d10, d11] => { results := [.lit (.bool false)], args := [d1, d2, d3, d4, d5, d6, d7, d8, d9, d10, d11] }
  | _ => none }
def CacheTellsWrongFalsely : Prop := cacheTellsRow.holds Try.pinned (OpenSpec.ofChange cacheTellsWrong)

/-- 'collatorlaw14.CacheLast': WHATEVER THE INPUT: true; the input reads as it did. -/
def cacheLastSpec : ChangeSpec := { name := "cacheLast", fn := fun _ => fun
  | [d1, d2, d3] => { results := [.lit (.bool true)], args := [d1, d2, d3] }
  | _ => none }
def cacheLastRow : OpenClaim := { program := "ytjifmfgfmciaeaa", sum := "ae9beb58475f0bab2a4d69cbf3606bdf3bed3fb97495880d273716c4f227420b", func := "collator/collatorlaw14.CacheLast", spec := "cacheLast", unfollowed := true, recurses := true, plainKeys := false, apart := false }
def CacheLastSaid : Prop := cacheLastRow.holds Try.pinned (OpenSpec.ofChange cacheLastSpec)

/-- ITS FALSE NEIGHBOUR: 'it returns false'. Refute it at one input. -/
def cacheLastWrong : ChangeSpec := { name := "cacheLast", fn := fun _ => fun
  | [d1, d2, d3] => { results := [.lit (.bool false)], args := [d1, d2, d3] }
  | _ => none }
def CacheLastWrongFalsely : Prop := cacheLastRow.holds Try.pinned (OpenSpec.ofChange cacheLastWrong)

/-- 'collatorlaw14.CacheCounts': WHATEVER THE INPUT: true; the input reads as it did. -/
def cacheCountsSpec : ChangeSpec := { name := "cacheCounts", fn := fun _ => fun
  | [d1, d2, d3, d4] => { results := [.lit (.bool true)], args := [d1, d2, d3, d4] }
  | _ => none }
def cacheCountsRow : OpenClaim := { program := "ytjifmfgfmciaeaa", sum := "ae9beb58475f0bab2a4d69cbf3606bdf3bed3fb97495880d273716c4f227420b", func := "collator/collatorlaw14.CacheCounts", spec := "cacheCounts", unfollowed := true, recurses := true, plainKeys := false, apart := false }
def CacheCountsSaid : Prop := cacheCountsRow.holds Try.pinned (OpenSpec.ofChange cacheCountsSpec)

/-- ITS FALSE NEIGHBOUR: 'it returns false'. Refute it at one input. -/
def cacheCountsWrong : ChangeSpec := { name := "cacheCounts", fn := fun _ => fun
  | [d1, d2, d3, d4] => { results := [.lit (.bool false)], args := [d1, d2, d3, d4] }
  | _ => none }
def CacheCountsWrongFalsely : Prop := cacheCountsRow.holds Try.pinned (OpenSpec.ofChange cacheCountsWrong)

/-- 'collatorlaw14.CacheAgain': WHATEVER THE INPUT: true; the input reads as it did. -/
def cacheAgainSpec : ChangeSpec := { name := "cacheAgain", fn := fun _ => fun
  | [d1, d2, d3] => { results := [.lit (.bool true)], args := [d1, d2, d3] }
  | _ => none }
def cacheAgainRow : OpenClaim := { program := "ytjifmfgfmciaeaa", sum := "ae9beb58475f0bab2a4d69cbf3606bdf3bed3fb97495880d273716c4f227420b", func := "collator/collatorlaw14.CacheAgain", spec := "cacheAgain", unfollowed := true, recurses := true, plainKeys := false, apart := false }
def CacheAgainSaid : Prop := cacheAgainRow.holds Try.pinned (OpenSpec.ofChange cacheAgainSpec)

/-- ITS FALSE NEIGHBOUR: 'it returns false'. Refute it at one input. -/
def cacheAgainWrong : ChangeSpec := { name := "cacheAgain", fn := fun _ => fun
  | [d1, d2, d3] => { results := [.lit (.bool false)], args := [d1, d2, d3] }
  | _ => none }
def CacheAgainWrongFalsely : Prop := cacheAgainRow.holds Try.pinned (OpenSpec.ofChange cacheAgainWrong)

/-- 'collatorlaw14.CacheParts': WHATEVER THE INPUT: true; the input reads as it did. -/
def cachePartsSpec : ChangeSpec := { name := "cacheParts", fn := fun _ => fun
  | [d1, d2, d3] => { results := [.lit (.bool true)], args := [d1, d2, d3] }
  | _ => none }
def cachePartsRow : OpenClaim := { program := "ytjifmfgfmciaeaa", sum := "ae9beb58475f0bab2a4d69cbf3606bdf3bed3fb97495880d273716c4f227420b", func := "collator/collatorlaw14.CacheParts", spec := "cacheParts", unfollowed := true, recurses := true, plainKeys := false, apart := false }
def CachePartsSaid : Prop := cachePartsRow.holds Try.pinned (OpenSpec.ofChange cachePartsSpec)

/-- ITS FALSE NEIGHBOUR: 'it returns false'. Refute it at one input. -/
def cachePartsWrong : ChangeSpec := { name := "cacheParts", fn := fun _ => fun
  | [d1, d2, d3] => { results := [.lit (.bool false)], args := [d1, d2, d3] }
  | _ => none }
def CachePartsWrongFalsely : Prop := cachePartsRow.holds Try.pinned (OpenSpec.ofChange cachePartsWrong)

/-- 'collatorlaw14.CacheStill': WHATEVER THE INPUT: true; the input reads as it did. -/
def cacheStillSpec : ChangeSpec := { name := "cacheStill", fn := fun _ => fun
  | [d1, d2, d3] => { results := [.lit (.bool true)], args := [d1, d2, d3] }
  | _ => none }
def cacheStillRow : OpenClaim := { program := "ytjifmfgfmciaeaa", sum := "ae9beb58475f0bab2a4d69cbf3606bdf3bed3fb97495880d273716c4f227420b", func := "collator/collatorlaw14.CacheStill", spec := "cacheStill", unfollowed := true, recurses := true, plainKeys := false, apart := false }
def CacheStillSaid : Prop := cacheStillRow.holds Try.pinned (OpenSpec.ofChange cacheStillSpec)

/-- ITS FALSE NEIGHBOUR: 'it returns false'. Refute it at one input. -/
def cacheStillWrong : ChangeSpec := { name := "cacheStill", fn := fun _ => fun
  | [d1, d2, d3] => { results := [.lit (.bool false)], args := [d1, d2, d3] }
  | _ => none }
def CacheStillWrongFalsely : Prop := cacheStillRow.holds Try.pinned (OpenSpec.ofChange cacheStillWrong)

/- THE SECOND FORM. 'bulk': how many values and letters a reading holds, each counted each time it is reached (what is shared counts as often as it is met; a slice's spare places count too). A statement '..UptoSaid' is the law's where the arguments, and the package variables that the reading takes, are together of bulk at most 1048576: NARROWER than '..Said'. Prove '..Said' where nothing that the law and all that it calls make is longer than what came in: it says more and counts as full. Else prove '..UptoSaid'. A law counts once. -/
mutual
def uptoBulk {H : Type} : DataW H → Nat
  | .lit (.string bytes) => bytes.length + 1
  | .lit _ => 1
  | .nil => 1
  | .ptr d => uptoBulk d + 1
  | .slice elems spare => uptoBulkAll elems + uptoBulkAll spare + 1
  | .agg parts => uptoBulkAll parts + 1
  | .iface _ d => uptoBulk d + 1
  | .map entries => uptoBulkEntries entries + 1
  | .held _ => 1
def uptoBulkAll {H : Type} : List (DataW H) → Nat
  | [] => 0
  | d :: r => uptoBulk d + uptoBulkAll r
def uptoBulkEntries {H : Type} : List (Lit × DataW H) → Nat
  | [] => 0
  | x :: r => uptoBulkEntry x + uptoBulkEntries r
def uptoBulkEntry {H : Type} : Lit × DataW H → Nat
  | (.string bytes, d) => bytes.length + uptoBulk d + 1
  | (_, d) => uptoBulk d + 1
 end
def uptoSmall : (H : Type) → List (DataW H) → Bool := fun _ ds => decide (uptoBulkAll ds ≤ 1048576)
def OpenSpec.upto (s : _root_.Go.ChangeSpec) : _root_.Go.OpenSpec := { _root_.Go.OpenSpec.ofChange s with cond := some uptoSmall }

/-- 'collatorlaw14.CacheTells', WHERE WHAT IT READS IS OF BULK AT MOST 1048576: true; the input reads as it did. -/
def cacheTellsUptoRow : OpenClaim := { program := "ytjifmfgfmciaeaa", sum := "ae9beb58475f0bab2a4d69cbf3606bdf3bed3fb97495880d273716c4f227420b", func := "collator/collatorlaw14.CacheTells", spec := "cacheTells", unfollowed := true, recurses := true, plainKeys := false, apart := false, narrowed := true }
def CacheTellsUptoSaid : Prop := cacheTellsUptoRow.holds Try.pinned (OpenSpec.upto cacheTellsSpec)

/-- 'collatorlaw14.CacheLast', WHERE WHAT IT READS IS OF BULK AT MOST 1048576: true; the input reads as it did. -/
def cacheLastUptoRow : OpenClaim := { program := "ytjifmfgfmciaeaa", sum := "ae9beb58475f0bab2a4d69cbf3606bdf3bed3fb97495880d273716c4f227420b", func := "collator/collatorlaw14.CacheLast", spec := "cacheLast", unfollowed := true, recurses := true, plainKeys := false, apart := false, narrowed := true }
def CacheLastUptoSaid : Prop := cacheLastUptoRow.holds Try.pinned (OpenSpec.upto cacheLastSpec)

/-- 'collatorlaw14.CacheCounts', WHERE WHAT IT READS IS OF BULK AT MOST 1048576: true; the input reads as it did. -/
def cacheCountsUptoRow : OpenClaim := { program := "ytjifmfgfmciaeaa", sum := "ae9beb58475f0bab2a4d69cbf3606bdf3bed3fb97495880d273716c4f227420b", func := "collator/collatorlaw14.CacheCounts", spec := "cacheCounts", unfollowed := true, recurses := true, plainKeys := false, apart := false, narrowed := true }
def CacheCountsUptoSaid : Prop := cacheCountsUptoRow.holds Try.pinned (OpenSpec.upto cacheCountsSpec)

/-- 'collatorlaw14.CacheAgain', WHERE WHAT IT READS IS OF BULK AT MOST 1048576: true; the input reads as it did. -/
def cacheAgainUptoRow : OpenClaim := { program := "ytjifmfgfmciaeaa", sum := "ae9beb58475f0bab2a4d69cbf3606bdf3bed3fb97495880d273716c4f227420b", func := "collator/collatorlaw14.CacheAgain", spec := "cacheAgain", unfollowed := true, recurses := true, plainKeys := false, apart := false, narrowed := true }
def CacheAgainUptoSaid : Prop := cacheAgainUptoRow.holds Try.pinned (OpenSpec.upto cacheAgainSpec)

/-- 'collatorlaw14.CacheParts', WHERE WHAT IT READS IS OF BULK AT MOST 1048576: true; the input reads as it did. -/
def cachePartsUptoRow : OpenClaim := { program := "ytjifmfgfmciaeaa", sum := "ae9beb58475f0bab2a4d69cbf3606bdf3bed3fb97495880d273716c4f227420b", func := "collator/collatorlaw14.CacheParts", spec := "cacheParts", unfollowed := true, recurses := true, plainKeys := false, apart := false, narrowed := true }
def CachePartsUptoSaid : Prop := cachePartsUptoRow.holds Try.pinned (OpenSpec.upto cachePartsSpec)

/-- 'collatorlaw14.CacheStill', WHERE WHAT IT READS IS OF BULK AT MOST 1048576: true; the input reads as it did. -/
def cacheStillUptoRow : OpenClaim := { program := "ytjifmfgfmciaeaa", sum := "ae9beb58475f0bab2a4d69cbf3606bdf3bed3fb97495880d273716c4f227420b", func := "collator/collatorlaw14.CacheStill", spec := "cacheStill", unfollowed := true, recurses := true, plainKeys := false, apart := false, narrowed := true }
def CacheStillUptoSaid : Prop := cacheStillUptoRow.holds Try.pinned (OpenSpec.upto cacheStillSpec)

end Rows
end Go.Proofs.Ytjifmfgfmciaeaa
