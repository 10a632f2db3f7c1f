/-
  No cell of these rows narrows 'for every input' (looked for: loops, veiled, ifaces, maps, wideKeys, modest, calm, conditions, laid).
  DERIVED. THE GIVEN ROWS OF THIS SEAT. 11 by the template 'for every input the law returns true; each argument reads behind the call as it read before'; 0 by the template 'total and deterministic' (their statements: YtchijefibiaphaaTotals.lean).
  GIVEN WITH THE SEED: the statements are not yours to turn. If you find one false, say at which input.
  Laid BY PROGRAM, IN A SANDBOX (cutbox-rows.mjs): the forced cells as the released guide's own fill.sh prints them over the translation 3470a2ceb39ecc55… (all of the seat's roots in one cut). By AI agents, Wed Nov 11 2026. No macro, syntax, notation, axiom, sorry.
-/
import Derived.Test.YtchijefibiaphaaChecked
import GoSem.Claim
import GoSem.ClaimJoined
import GoSem.ClaimMapViews
import Derived.JoinedTies
import Derived.KernelRfl
namespace Go.Proofs.Ytchijefibiaphaa
/- THE CELL 'sum', in the pinned program and in every row, IS THE sha256 OF THE DUMP (.gsa) THAT YtchijefibiaphaaProg.lean LOADS. Nothing in Lean hashes anything: it is a label: what it is worth is what the hold of that sum in a sandbox is worth. -/
noncomputable def Try.pinned : Pinned := { name := "ytchijefibiaphaa", sum := "3470a2ceb39ecc5505e269f543dc97d535fb9e228ba92dd323cf214966d0d03b", checked := Try.checked }
namespace Rows
def none {H : Type} : Left H := { results := [], args := [] }

/-- 'laws.FnExactIsPerturbation': WHATEVER THE INPUT: true; the input reads as it did. -/
def fnExactIsPerturbationSpec : ChangeSpec := { name := "fnExactIsPerturbation", fn := fun _ => fun
  | [d1, d2] => { results := [.lit (.bool true)], args := [d1, d2] }
  | _ => none }
def fnExactIsPerturbationRow : OpenClaim := { program := "ytchijefibiaphaa", sum := "3470a2ceb39ecc5505e269f543dc97d535fb9e228ba92dd323cf214966d0d03b", func := "loop.example/g01273/laws.FnExactIsPerturbation", spec := "fnExactIsPerturbation", unfollowed := true, recurses := true, plainKeys := false, apart := false }
def FnExactIsPerturbationSaid : Prop := fnExactIsPerturbationRow.holds Try.pinned (OpenSpec.ofChange fnExactIsPerturbationSpec)

/-- ITS FALSE NEIGHBOUR: 'it returns false'. Refute it at one input. -/
def fnExactIsPerturbationWrong : ChangeSpec := { name := "fnExactIsPerturbation", fn := fun _ => fun
  | [d1, d2] => { results := [.lit (.bool false)], args := [d1, d2] }
  | _ => none }
def FnExactIsPerturbationWrongFalsely : Prop := fnExactIsPerturbationRow.holds Try.pinned (OpenSpec.ofChange fnExactIsPerturbationWrong)

/-- 'laws.FnExactPerturbedComplex': WHATEVER THE INPUT: true; the input reads as it did. -/
def fnExactPerturbedComplexSpec : ChangeSpec := { name := "fnExactPerturbedComplex", fn := fun _ => fun
  | [d1, d2] => { results := [.lit (.bool true)], args := [d1, d2] }
  | _ => none }
def fnExactPerturbedComplexRow : OpenClaim := { program := "ytchijefibiaphaa", sum := "3470a2ceb39ecc5505e269f543dc97d535fb9e228ba92dd323cf214966d0d03b", func := "loop.example/g01273/laws.FnExactPerturbedComplex", spec := "fnExactPerturbedComplex", unfollowed := true, recurses := true, plainKeys := false, apart := false }
def FnExactPerturbedComplexSaid : Prop := fnExactPerturbedComplexRow.holds Try.pinned (OpenSpec.ofChange fnExactPerturbedComplexSpec)

/-- ITS FALSE NEIGHBOUR: 'it returns false'. Refute it at one input. -/
def fnExactPerturbedComplexWrong : ChangeSpec := { name := "fnExactPerturbedComplex", fn := fun _ => fun
  | [d1, d2] => { results := [.lit (.bool false)], args := [d1, d2] }
  | _ => none }
def FnExactPerturbedComplexWrongFalsely : Prop := fnExactPerturbedComplexRow.holds Try.pinned (OpenSpec.ofChange fnExactPerturbedComplexWrong)

/-- 'laws.FnExactAreBars': WHATEVER THE INPUT: true; the input reads as it did. -/
def fnExactAreBarsSpec : ChangeSpec := { name := "fnExactAreBars", fn := fun _ => fun
  | [d] => { results := [.lit (.bool true)], args := [d] }
  | _ => none }
def fnExactAreBarsRow : OpenClaim := { program := "ytchijefibiaphaa", sum := "3470a2ceb39ecc5505e269f543dc97d535fb9e228ba92dd323cf214966d0d03b", func := "loop.example/g01273/laws.FnExactAreBars", spec := "fnExactAreBars", unfollowed := true, recurses := true, plainKeys := false, apart := false }
def FnExactAreBarsSaid : Prop := fnExactAreBarsRow.holds Try.pinned (OpenSpec.ofChange fnExactAreBarsSpec)

/-- ITS FALSE NEIGHBOUR: 'it returns false'. Refute it at one input. -/
def fnExactAreBarsWrong : ChangeSpec := { name := "fnExactAreBars", fn := fun _ => fun
  | [d] => { results := [.lit (.bool false)], args := [d] }
  | _ => none }
def FnExactAreBarsWrongFalsely : Prop := fnExactAreBarsRow.holds Try.pinned (OpenSpec.ofChange fnExactAreBarsWrong)

/-- 'laws.FnExactBarPage': WHATEVER THE INPUT: true; the input reads as it did. -/
def fnExactBarPageSpec : ChangeSpec := { name := "fnExactBarPage", fn := fun _ => fun
  | [d1, d2, d3, d4] => { results := [.lit (.bool true)], args := [d1, d2, d3, d4] }
  | _ => none }
def fnExactBarPageRow : OpenClaim := { program := "ytchijefibiaphaa", sum := "3470a2ceb39ecc5505e269f543dc97d535fb9e228ba92dd323cf214966d0d03b", func := "loop.example/g01273/laws.FnExactBarPage", spec := "fnExactBarPage", unfollowed := true, recurses := true, plainKeys := false, apart := false }
def FnExactBarPageSaid : Prop := fnExactBarPageRow.holds Try.pinned (OpenSpec.ofChange fnExactBarPageSpec)

/-- ITS FALSE NEIGHBOUR: 'it returns false'. Refute it at one input. -/
def fnExactBarPageWrong : ChangeSpec := { name := "fnExactBarPage", fn := fun _ => fun
  | [d1, d2, d3, d4] => { results := [.lit (.bool false)], args := [d1, d2, d3, d4] }
  | _ => none }
def FnExactBarPageWrongFalsely : Prop := fnExactBarPageRow.holds Try.pinned (OpenSpec.ofChange fnExactBarPageWrong)

/-- 'laws.FnExactCountLasting': WHATEVER THE INPUT: true; the input reads as it did. -/
def fnExactCountLastingSpec : ChangeSpec := { name := "fnExactCountLasting", fn := fun _ => fun
  | [d1, d2] => { results := [.lit (.bool true)], args := [d1, d2] }
  | _ => none }
def fnExactCountLastingRow : OpenClaim := { program := "ytchijefibiaphaa", sum := "3470a2ceb39ecc5505e269f543dc97d535fb9e228ba92dd323cf214966d0d03b", func := "loop.example/g01273/laws.FnExactCountLasting", spec := "fnExactCountLasting", unfollowed := true, recurses := true, plainKeys := false, apart := false }
def FnExactCountLastingSaid : Prop := fnExactCountLastingRow.holds Try.pinned (OpenSpec.ofChange fnExactCountLastingSpec)

/-- ITS FALSE NEIGHBOUR: 'it returns false'. Refute it at one input. -/
def fnExactCountLastingWrong : ChangeSpec := { name := "fnExactCountLasting", fn := fun _ => fun
  | [d1, d2] => { results := [.lit (.bool false)], args := [d1, d2] }
  | _ => none }
def FnExactCountLastingWrongFalsely : Prop := fnExactCountLastingRow.holds Try.pinned (OpenSpec.ofChange fnExactCountLastingWrong)

/-- 'laws.FnExactTotalLength': WHATEVER THE INPUT: true; the input reads as it did. -/
def fnExactTotalLengthSpec : ChangeSpec := { name := "fnExactTotalLength", fn := fun _ => fun
  | [d] => { results := [.lit (.bool true)], args := [d] }
  | _ => none }
def fnExactTotalLengthRow : OpenClaim := { program := "ytchijefibiaphaa", sum := "3470a2ceb39ecc5505e269f543dc97d535fb9e228ba92dd323cf214966d0d03b", func := "loop.example/g01273/laws.FnExactTotalLength", spec := "fnExactTotalLength", unfollowed := true, recurses := true, plainKeys := false, apart := false }
def FnExactTotalLengthSaid : Prop := fnExactTotalLengthRow.holds Try.pinned (OpenSpec.ofChange fnExactTotalLengthSpec)

/-- ITS FALSE NEIGHBOUR: 'it returns false'. Refute it at one input. -/
def fnExactTotalLengthWrong : ChangeSpec := { name := "fnExactTotalLength", fn := fun _ => fun
  | [d] => { results := [.lit (.bool false)], args := [d] }
  | _ => none }
def FnExactTotalLengthWrongFalsely : Prop := fnExactTotalLengthRow.holds Try.pinned (OpenSpec.ofChange fnExactTotalLengthWrong)

/-- 'laws.FnExactLongestBar': WHATEVER THE INPUT: true; the input reads as it did. -/
def fnExactLongestBarSpec : ChangeSpec := { name := "fnExactLongestBar", fn := fun _ => fun
  | [d] => { results := [.lit (.bool true)], args := [d] }
  | _ => none }
def fnExactLongestBarRow : OpenClaim := { program := "ytchijefibiaphaa", sum := "3470a2ceb39ecc5505e269f543dc97d535fb9e228ba92dd323cf214966d0d03b", func := "loop.example/g01273/laws.FnExactLongestBar", spec := "fnExactLongestBar", unfollowed := true, recurses := true, plainKeys := false, apart := false }
def FnExactLongestBarSaid : Prop := fnExactLongestBarRow.holds Try.pinned (OpenSpec.ofChange fnExactLongestBarSpec)

/-- ITS FALSE NEIGHBOUR: 'it returns false'. Refute it at one input. -/
def fnExactLongestBarWrong : ChangeSpec := { name := "fnExactLongestBar", fn := fun _ => fun
  | [d] => { results := [.lit (.bool false)], args := [d] }
  | _ => none }
def FnExactLongestBarWrongFalsely : Prop := fnExactLongestBarRow.holds Try.pinned (OpenSpec.ofChange fnExactLongestBarWrong)

/-- 'laws.FnExactJoinBars': WHATEVER THE INPUT: true; the input reads as it did. -/
def fnExactJoinBarsSpec : ChangeSpec := { name := "fnExactJoinBars", fn := fun _ => fun
  | [d1, d2] => { results := [.lit (.bool true)], args := [d1, d2] }
  | _ => none }
def fnExactJoinBarsRow : OpenClaim := { program := "ytchijefibiaphaa", sum := "3470a2ceb39ecc5505e269f543dc97d535fb9e228ba92dd323cf214966d0d03b", func := "loop.example/g01273/laws.FnExactJoinBars", spec := "fnExactJoinBars", unfollowed := true, recurses := true, plainKeys := false, apart := false }
def FnExactJoinBarsSaid : Prop := fnExactJoinBarsRow.holds Try.pinned (OpenSpec.ofChange fnExactJoinBarsSpec)

/-- ITS FALSE NEIGHBOUR: 'it returns false'. Refute it at one input. -/
def fnExactJoinBarsWrong : ChangeSpec := { name := "fnExactJoinBars", fn := fun _ => fun
  | [d1, d2] => { results := [.lit (.bool false)], args := [d1, d2] }
  | _ => none }
def FnExactJoinBarsWrongFalsely : Prop := fnExactJoinBarsRow.holds Try.pinned (OpenSpec.ofChange fnExactJoinBarsWrong)

/-- 'laws.FnExactRankBetween': WHATEVER THE INPUT: true; the input reads as it did. -/
def fnExactRankBetweenSpec : ChangeSpec := { name := "fnExactRankBetween", fn := fun _ => fun
  | [d1, d2, d3, d4] => { results := [.lit (.bool true)], args := [d1, d2, d3, d4] }
  | _ => none }
def fnExactRankBetweenRow : OpenClaim := { program := "ytchijefibiaphaa", sum := "3470a2ceb39ecc5505e269f543dc97d535fb9e228ba92dd323cf214966d0d03b", func := "loop.example/g01273/laws.FnExactRankBetween", spec := "fnExactRankBetween", inPlace := ["slices.overlaps[loop.example/g01273/impl.vector]"], plainKeys := false, apart := false }
def FnExactRankBetweenSaid : Prop := fnExactRankBetweenRow.holds Try.pinned (OpenSpec.ofChange fnExactRankBetweenSpec)

/-- ITS FALSE NEIGHBOUR: 'it returns false'. Refute it at one input. -/
def fnExactRankBetweenWrong : ChangeSpec := { name := "fnExactRankBetween", fn := fun _ => fun
  | [d1, d2, d3, d4] => { results := [.lit (.bool false)], args := [d1, d2, d3, d4] }
  | _ => none }
def FnExactRankBetweenWrongFalsely : Prop := fnExactRankBetweenRow.holds Try.pinned (OpenSpec.ofChange fnExactRankBetweenWrong)

/-- 'laws.FnExactLevelNumbers': WHATEVER THE INPUT: true; the input reads as it did. -/
def fnExactLevelNumbersSpec : ChangeSpec := { name := "fnExactLevelNumbers", fn := fun _ => fun
  | [d1, d2] => { results := [.lit (.bool true)], args := [d1, d2] }
  | _ => none }
def fnExactLevelNumbersRow : OpenClaim := { program := "ytchijefibiaphaa", sum := "3470a2ceb39ecc5505e269f543dc97d535fb9e228ba92dd323cf214966d0d03b", func := "loop.example/g01273/laws.FnExactLevelNumbers", spec := "fnExactLevelNumbers", inPlace := ["slices.overlaps[loop.example/g01273/impl.vector]"], plainKeys := false, apart := false }
def FnExactLevelNumbersSaid : Prop := fnExactLevelNumbersRow.holds Try.pinned (OpenSpec.ofChange fnExactLevelNumbersSpec)

/-- ITS FALSE NEIGHBOUR: 'it returns false'. Refute it at one input. -/
def fnExactLevelNumbersWrong : ChangeSpec := { name := "fnExactLevelNumbers", fn := fun _ => fun
  | [d1, d2] => { results := [.lit (.bool false)], args := [d1, d2] }
  | _ => none }
def FnExactLevelNumbersWrongFalsely : Prop := fnExactLevelNumbersRow.holds Try.pinned (OpenSpec.ofChange fnExactLevelNumbersWrong)

/-- 'laws.FnExactComplexOfBars': WHATEVER THE INPUT: true; the input reads as it did. -/
def fnExactComplexOfBarsSpec : ChangeSpec := { name := "fnExactComplexOfBars", fn := fun _ => fun
  | [d1, d2, d3] => { results := [.lit (.bool true)], args := [d1, d2, d3] }
  | _ => none }
def fnExactComplexOfBarsRow : OpenClaim := { program := "ytchijefibiaphaa", sum := "3470a2ceb39ecc5505e269f543dc97d535fb9e228ba92dd323cf214966d0d03b", func := "loop.example/g01273/laws.FnExactComplexOfBars", spec := "fnExactComplexOfBars", unfollowed := true, recurses := true, plainKeys := false, apart := false }
def FnExactComplexOfBarsSaid : Prop := fnExactComplexOfBarsRow.holds Try.pinned (OpenSpec.ofChange fnExactComplexOfBarsSpec)

/-- ITS FALSE NEIGHBOUR: 'it returns false'. Refute it at one input. -/
def fnExactComplexOfBarsWrong : ChangeSpec := { name := "fnExactComplexOfBars", fn := fun _ => fun
  | [d1, d2, d3] => { results := [.lit (.bool false)], args := [d1, d2, d3] }
  | _ => none }
def FnExactComplexOfBarsWrongFalsely : Prop := fnExactComplexOfBarsRow.holds Try.pinned (OpenSpec.ofChange fnExactComplexOfBarsWrong)

/- THE SECOND FORM. 'bulk': how many values and letters a reading holds, each counted each time it is reached (what is shared counts as often as it is met; a slice's spare places count too). A statement '..UptoSaid' is the law's where the arguments, and the package variables that the reading takes, are together of bulk at most 1048576: NARROWER than '..Said'. Prove '..Said' where nothing that the law and all that it calls make is longer than what came in: it says more and counts as full. Else prove '..UptoSaid'. A law counts once. -/
mutual
def uptoBulk {H : Type} : DataW H → Nat
  | .lit (.string bytes) => bytes.length + 1
  | .lit _ => 1
  | .nil => 1
  | .ptr d => uptoBulk d + 1
  | .slice elems spare => uptoBulkAll elems + uptoBulkAll spare + 1
  | .agg parts => uptoBulkAll parts + 1
  | .iface _ d => uptoBulk d + 1
  | .map entries => uptoBulkEntries entries + 1
  | .held _ => 1
def uptoBulkAll {H : Type} : List (DataW H) → Nat
  | [] => 0
  | d :: r => uptoBulk d + uptoBulkAll r
def uptoBulkEntries {H : Type} : List (Lit × DataW H) → Nat
  | [] => 0
  | x :: r => uptoBulkEntry x + uptoBulkEntries r
def uptoBulkEntry {H : Type} : Lit × DataW H → Nat
  | (.string bytes, d) => bytes.length + uptoBulk d + 1
  | (_, d) => uptoBulk d + 1
 end
def uptoSmall : (H : Type) → List (DataW H) → Bool := fun _ ds => decide (uptoBulkAll ds ≤ 1048576)
def OpenSpec.upto (s : _root_.Go.ChangeSpec) : _root_.Go.OpenSpec := { _root_.Go.OpenSpec.ofChange s with cond := some uptoSmall }

/-- 'laws.FnExactIsPerturbation', WHERE WHAT IT READS IS OF BULK AT MOST 1048576: true; the input reads as it did. -/
def fnExactIsPerturbationUptoRow : OpenClaim := { program := "ytchijefibiaphaa", sum := "3470a2ceb39ecc5505e269f543dc97d535fb9e228ba92dd323cf214966d0d03b", func := "loop.example/g01273/laws.FnExactIsPerturbation", spec := "fnExactIsPerturbation", unfollowed := true, recurses := true, plainKeys := false, apart := false, narrowed := true }
def FnExactIsPerturbationUptoSaid : Prop := fnExactIsPerturbationUptoRow.holds Try.pinned (OpenSpec.upto fnExactIsPerturbationSpec)

/-- 'laws.FnExactPerturbedComplex', WHERE WHAT IT READS IS OF BULK AT MOST 1048576: true; the input reads as it did. -/
def fnExactPerturbedComplexUptoRow : OpenClaim := { program := "ytchijefibiaphaa", sum := "3470a2ceb39ecc5505e269f543dc97d535fb9e228ba92dd323cf214966d0d03b", func := "loop.example/g01273/laws.FnExactPerturbedComplex", spec := "fnExactPerturbedComplex", unfollowed := true, recurses := true, plainKeys := false, apart := false, narrowed := true }
def FnExactPerturbedComplexUptoSaid : Prop := fnExactPerturbedComplexUptoRow.holds Try.pinned (OpenSpec.upto fnExactPerturbedComplexSpec)

/-- 'laws.FnExactAreBars', WHERE WHAT IT READS IS OF BULK AT MOST 1048576: true; the input reads as it did. -/
def fnExactAreBarsUptoRow : OpenClaim := { program := "ytchijefibiaphaa", sum := "3470a2ceb39ecc5505e269f543dc97d535fb9e228ba92dd323cf214966d0d03b", func := "loop.example/g01273/laws.FnExactAreBars", spec := "fnExactAreBars", unfollowed := true, recurses := true, plainKeys := false, apart := false, narrowed := true }
def FnExactAreBarsUptoSaid : Prop := fnExactAreBarsUptoRow.holds Try.pinned (OpenSpec.upto fnExactAreBarsSpec)

/-- 'laws.FnExactBarPage', WHERE WHAT IT READS IS OF BULK AT MOST 1048576: true; the input reads as it did. -/
def fnExactBarPageUptoRow : OpenClaim := { program := "ytchijefibiaphaa", sum := "3470a2ceb39ecc5505e269f543dc97d535fb9e228ba92dd323cf214966d0d03b", func := "loop.example/g01273/laws.FnExactBarPage", spec := "fnExactBarPage", unfollowed := true, recurses := true, plainKeys := false, apart := false, narrowed := true }
def FnExactBarPageUptoSaid : Prop := fnExactBarPageUptoRow.holds Try.pinned (OpenSpec.upto fnExactBarPageSpec)

/-- 'laws.FnExactCountLasting', WHERE WHAT IT READS IS OF BULK AT MOST 1048576: true; the input reads as it did. -/
def fnExactCountLastingUptoRow : OpenClaim := { program := "ytchijefibiaphaa", sum := "3470a2ceb39ecc5505e269f543dc97d535fb9e228ba92dd323cf214966d0d03b", func := "loop.example/g01273/laws.FnExactCountLasting", spec := "fnExactCountLasting", unfollowed := true, recurses := true, plainKeys := false, apart := false, narrowed := true }
def FnExactCountLastingUptoSaid : Prop := fnExactCountLastingUptoRow.holds Try.pinned (OpenSpec.upto fnExactCountLastingSpec)

/-- 'laws.FnExactTotalLength', WHERE WHAT IT READS IS OF BULK AT MOST 1048576: true; the input reads as it did. -/
def fnExactTotalLengthUptoRow : OpenClaim := { program := "ytchijefibiaphaa", sum := "3470a2ceb39ecc5505e269f543dc97d535fb9e228ba92dd323cf214966d0d03b", func := "loop.example/g01273/laws.FnExactTotalLength", spec := "fnExactTotalLength", unfollowed := true, recurses := true, plainKeys := false, apart := false, narrowed := true }
def FnExactTotalLengthUptoSaid : Prop := fnExactTotalLengthUptoRow.holds Try.pinned (OpenSpec.upto fnExactTotalLengthSpec)

/-- 'laws.FnExactLongestBar', WHERE WHAT IT READS IS OF BULK AT MOST 1048576: true; the input reads as it did. -/
def fnExactLongestBarUptoRow : OpenClaim := { program := "ytchijefibiaphaa", sum := "3470a2ceb39ecc5505e269f543dc97d535fb9e228ba92dd323cf214966d0d03b", func := "loop.example/g01273/laws.FnExactLongestBar", spec := "fnExactLongestBar", unfollowed := true, recurses := true, plainKeys := false, apart := false, narrowed := true }
def FnExactLongestBarUptoSaid : Prop := fnExactLongestBarUptoRow.holds Try.pinned (OpenSpec.upto fnExactLongestBarSpec)

/-- 'laws.FnExactJoinBars', WHERE WHAT IT READS IS OF BULK AT MOST 1048576: true; the input reads as it did. -/
def fnExactJoinBarsUptoRow : OpenClaim := { program := "ytchijefibiaphaa", sum := "3470a2ceb39ecc5505e269f543dc97d535fb9e228ba92dd323cf214966d0d03b", func := "loop.example/g01273/laws.FnExactJoinBars", spec := "fnExactJoinBars", unfollowed := true, recurses := true, plainKeys := false, apart := false, narrowed := true }
def FnExactJoinBarsUptoSaid : Prop := fnExactJoinBarsUptoRow.holds Try.pinned (OpenSpec.upto fnExactJoinBarsSpec)

/-- 'laws.FnExactRankBetween', WHERE WHAT IT READS IS OF BULK AT MOST 1048576: true; the input reads as it did. -/
def fnExactRankBetweenUptoRow : OpenClaim := { program := "ytchijefibiaphaa", sum := "3470a2ceb39ecc5505e269f543dc97d535fb9e228ba92dd323cf214966d0d03b", func := "loop.example/g01273/laws.FnExactRankBetween", spec := "fnExactRankBetween", inPlace := ["slices.overlaps[loop.example/g01273/impl.vector]"], plainKeys := false, apart := false, narrowed := true }
def FnExactRankBetweenUptoSaid : Prop := fnExactRankBetweenUptoRow.holds Try.pinned (OpenSpec.upto fnExactRankBetweenSpec)

/-- 'laws.FnExactLevelNumbers', WHERE WHAT IT READS IS OF BULK AT MOST 1048576: true; the input reads as it did. -/
def fnExactLevelNumbersUptoRow : OpenClaim := { program := "ytchijefibiaphaa", sum := "3470a2ceb39ecc5505e269f543dc97d535fb9e228ba92dd323cf214966d0d03b", func := "loop.example/g01273/laws.FnExactLevelNumbers", spec := "fnExactLevelNumbers", inPlace := ["slices.overlaps[loop.example/g01273/impl.vector]"], plainKeys := false, apart := false, narrowed := true }
def FnExactLevelNumbersUptoSaid : Prop := fnExactLevelNumbersUptoRow.holds Try.pinned (OpenSpec.upto fnExactLevelNumbersSpec)

/-- 'laws.FnExactComplexOfBars', WHERE WHAT IT READS IS OF BULK AT MOST 1048576: true; the input reads as it did. -/
def fnExactComplexOfBarsUptoRow : OpenClaim := { program := "ytchijefibiaphaa", sum := "3470a2ceb39ecc5505e269f543dc97d535fb9e228ba92dd323cf214966d0d03b", func := "loop.example/g01273/laws.FnExactComplexOfBars", spec := "fnExactComplexOfBars", unfollowed := true, recurses := true, plainKeys := false, apart := false, narrowed := true }
def FnExactComplexOfBarsUptoSaid : Prop := fnExactComplexOfBarsUptoRow.holds Try.pinned (OpenSpec.upto fnExactComplexOfBarsSpec)

end Rows
end Go.Proofs.Ytchijefibiaphaa
