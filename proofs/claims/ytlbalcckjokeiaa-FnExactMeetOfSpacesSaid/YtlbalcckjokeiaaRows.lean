/-
  No cell of these rows narrows 'for every input' (looked for: loops, veiled, ifaces, maps, wideKeys, modest, calm, conditions, laid).
  DERIVED. THE GIVEN ROWS OF THIS SEAT. 12 by the template 'for every input the law returns true; each argument reads behind the call as it read before'; 0 by the template 'total and deterministic' (their statements: YtlbalcckjokeiaaTotals.lean).
  GIVEN WITH THE SEED: the statements are not yours to turn. If you find one false, say at which input.
  Laid BY PROGRAM, IN A SANDBOX (cutbox-rows.mjs): the forced cells as the released guide's own fill.sh prints them over the translation 02b8aa7a51ff7de6… (all of the seat's roots in one cut). By AI agents, Wed Nov 11 2026. No macro, syntax, notation, axiom, sorry.
-/
import Derived.Test.YtlbalcckjokeiaaChecked
import GoSem.Claim
import GoSem.ClaimJoined
import GoSem.ClaimMapViews
import Derived.JoinedTies
import Derived.KernelRfl
namespace Go.Proofs.Ytlbalcckjokeiaa
/- THE CELL 'sum', in the pinned program and in every row, IS THE sha256 OF THE DUMP (.gsa) THAT YtlbalcckjokeiaaProg.lean LOADS. Nothing in Lean hashes anything: it is a label: what it is worth is what the hold of that sum in a sandbox is worth. -/
noncomputable def Try.pinned : Pinned := { name := "ytlbalcckjokeiaa", sum := "02b8aa7a51ff7de6dd5f4117a1007625e24a7b09ba47dd0adbf0ca696126fc04", checked := Try.checked }
namespace Rows
def none {H : Type} : Left H := { results := [], args := [] }

/-- 'laws.FnExactReduceRows': WHATEVER THE INPUT: true; the input reads as it did. -/
def fnExactReduceRowsSpec : ChangeSpec := { name := "fnExactReduceRows", fn := fun _ => fun
  | [d1, d2, d3] => { results := [.lit (.bool true)], args := [d1, d2, d3] }
  | _ => none }
def fnExactReduceRowsRow : OpenClaim := { program := "ytlbalcckjokeiaa", sum := "02b8aa7a51ff7de6dd5f4117a1007625e24a7b09ba47dd0adbf0ca696126fc04", func := "loop.example/g01273/laws.FnExactReduceRows", spec := "fnExactReduceRows", inPlace := ["slices.overlaps[loop.example/g01273/impl.vector]"], plainKeys := false, apart := false }
def FnExactReduceRowsSaid : Prop := fnExactReduceRowsRow.holds Try.pinned (OpenSpec.ofChange fnExactReduceRowsSpec)

/-- ITS FALSE NEIGHBOUR: 'it returns false'. Refute it at one input. -/
def fnExactReduceRowsWrong : ChangeSpec := { name := "fnExactReduceRows", fn := fun _ => fun
  | [d1, d2, d3] => { results := [.lit (.bool false)], args := [d1, d2, d3] }
  | _ => none }
def FnExactReduceRowsWrongFalsely : Prop := fnExactReduceRowsRow.holds Try.pinned (OpenSpec.ofChange fnExactReduceRowsWrong)

/-- 'laws.FnExactSumOfSpaces': WHATEVER THE INPUT: true; the input reads as it did. -/
def fnExactSumOfSpacesSpec : ChangeSpec := { name := "fnExactSumOfSpaces", fn := fun _ => fun
  | [d1, d2, d3, d4] => { results := [.lit (.bool true)], args := [d1, d2, d3, d4] }
  | _ => none }
def fnExactSumOfSpacesRow : OpenClaim := { program := "ytlbalcckjokeiaa", sum := "02b8aa7a51ff7de6dd5f4117a1007625e24a7b09ba47dd0adbf0ca696126fc04", func := "loop.example/g01273/laws.FnExactSumOfSpaces", spec := "fnExactSumOfSpaces", inPlace := ["slices.overlaps[loop.example/g01273/impl.vector]"], plainKeys := false, apart := false }
def FnExactSumOfSpacesSaid : Prop := fnExactSumOfSpacesRow.holds Try.pinned (OpenSpec.ofChange fnExactSumOfSpacesSpec)

/-- ITS FALSE NEIGHBOUR: 'it returns false'. Refute it at one input. -/
def fnExactSumOfSpacesWrong : ChangeSpec := { name := "fnExactSumOfSpaces", fn := fun _ => fun
  | [d1, d2, d3, d4] => { results := [.lit (.bool false)], args := [d1, d2, d3, d4] }
  | _ => none }
def FnExactSumOfSpacesWrongFalsely : Prop := fnExactSumOfSpacesRow.holds Try.pinned (OpenSpec.ofChange fnExactSumOfSpacesWrong)

/-- 'laws.FnExactMeetOfSpaces': WHATEVER THE INPUT: true; the input reads as it did. -/
def fnExactMeetOfSpacesSpec : ChangeSpec := { name := "fnExactMeetOfSpaces", fn := fun _ => fun
  | [d1, d2, d3, d4] => { results := [.lit (.bool true)], args := [d1, d2, d3, d4] }
  | _ => none }
def fnExactMeetOfSpacesRow : OpenClaim := { program := "ytlbalcckjokeiaa", sum := "02b8aa7a51ff7de6dd5f4117a1007625e24a7b09ba47dd0adbf0ca696126fc04", func := "loop.example/g01273/laws.FnExactMeetOfSpaces", spec := "fnExactMeetOfSpaces", inPlace := ["slices.overlaps[loop.example/g01273/impl.vector]"], plainKeys := false, apart := false }
def FnExactMeetOfSpacesSaid : Prop := fnExactMeetOfSpacesRow.holds Try.pinned (OpenSpec.ofChange fnExactMeetOfSpacesSpec)

/-- ITS FALSE NEIGHBOUR: 'it returns false'. Refute it at one input. -/
def fnExactMeetOfSpacesWrong : ChangeSpec := { name := "fnExactMeetOfSpaces", fn := fun _ => fun
  | [d1, d2, d3, d4] => { results := [.lit (.bool false)], args := [d1, d2, d3, d4] }
  | _ => none }
def FnExactMeetOfSpacesWrongFalsely : Prop := fnExactMeetOfSpacesRow.holds Try.pinned (OpenSpec.ofChange fnExactMeetOfSpacesWrong)

/-- 'laws.FnExactCyclesOf': WHATEVER THE INPUT: true; the input reads as it did. -/
def fnExactCyclesOfSpec : ChangeSpec := { name := "fnExactCyclesOf", fn := fun _ => fun
  | [d1, d2] => { results := [.lit (.bool true)], args := [d1, d2] }
  | _ => none }
def fnExactCyclesOfRow : OpenClaim := { program := "ytlbalcckjokeiaa", sum := "02b8aa7a51ff7de6dd5f4117a1007625e24a7b09ba47dd0adbf0ca696126fc04", func := "loop.example/g01273/laws.FnExactCyclesOf", spec := "fnExactCyclesOf", inPlace := ["slices.overlaps[loop.example/g01273/impl.vector]"], unfollowed := true, recurses := true, plainKeys := false, apart := false }
def FnExactCyclesOfSaid : Prop := fnExactCyclesOfRow.holds Try.pinned (OpenSpec.ofChange fnExactCyclesOfSpec)

/-- ITS FALSE NEIGHBOUR: 'it returns false'. Refute it at one input. -/
def fnExactCyclesOfWrong : ChangeSpec := { name := "fnExactCyclesOf", fn := fun _ => fun
  | [d1, d2] => { results := [.lit (.bool false)], args := [d1, d2] }
  | _ => none }
def FnExactCyclesOfWrongFalsely : Prop := fnExactCyclesOfRow.holds Try.pinned (OpenSpec.ofChange fnExactCyclesOfWrong)

/-- 'laws.FnExactBoundariesOf': WHATEVER THE INPUT: true; the input reads as it did. -/
def fnExactBoundariesOfSpec : ChangeSpec := { name := "fnExactBoundariesOf", fn := fun _ => fun
  | [d1, d2] => { results := [.lit (.bool true)], args := [d1, d2] }
  | _ => none }
def fnExactBoundariesOfRow : OpenClaim := { program := "ytlbalcckjokeiaa", sum := "02b8aa7a51ff7de6dd5f4117a1007625e24a7b09ba47dd0adbf0ca696126fc04", func := "loop.example/g01273/laws.FnExactBoundariesOf", spec := "fnExactBoundariesOf", inPlace := ["slices.overlaps[loop.example/g01273/impl.vector]"], unfollowed := true, recurses := true, plainKeys := false, apart := false }
def FnExactBoundariesOfSaid : Prop := fnExactBoundariesOfRow.holds Try.pinned (OpenSpec.ofChange fnExactBoundariesOfSpec)

/-- ITS FALSE NEIGHBOUR: 'it returns false'. Refute it at one input. -/
def fnExactBoundariesOfWrong : ChangeSpec := { name := "fnExactBoundariesOf", fn := fun _ => fun
  | [d1, d2] => { results := [.lit (.bool false)], args := [d1, d2] }
  | _ => none }
def FnExactBoundariesOfWrongFalsely : Prop := fnExactBoundariesOfRow.holds Try.pinned (OpenSpec.ofChange fnExactBoundariesOfWrong)

/-- 'laws.FnExactHomologyNumbers': WHATEVER THE INPUT: true; the input reads as it did. -/
def fnExactHomologyNumbersSpec : ChangeSpec := { name := "fnExactHomologyNumbers", fn := fun _ => fun
  | [d] => { results := [.lit (.bool true)], args := [d] }
  | _ => none }
def fnExactHomologyNumbersRow : OpenClaim := { program := "ytlbalcckjokeiaa", sum := "02b8aa7a51ff7de6dd5f4117a1007625e24a7b09ba47dd0adbf0ca696126fc04", func := "loop.example/g01273/laws.FnExactHomologyNumbers", spec := "fnExactHomologyNumbers", inPlace := ["slices.overlaps[loop.example/g01273/impl.vector]"], plainKeys := false, apart := false }
def FnExactHomologyNumbersSaid : Prop := fnExactHomologyNumbersRow.holds Try.pinned (OpenSpec.ofChange fnExactHomologyNumbersSpec)

/-- ITS FALSE NEIGHBOUR: 'it returns false'. Refute it at one input. -/
def fnExactHomologyNumbersWrong : ChangeSpec := { name := "fnExactHomologyNumbers", fn := fun _ => fun
  | [d] => { results := [.lit (.bool false)], args := [d] }
  | _ => none }
def FnExactHomologyNumbersWrongFalsely : Prop := fnExactHomologyNumbersRow.holds Try.pinned (OpenSpec.ofChange fnExactHomologyNumbersWrong)

/-- 'laws.FnExactHomologyList': WHATEVER THE INPUT: true; the input reads as it did. -/
def fnExactHomologyListSpec : ChangeSpec := { name := "fnExactHomologyList", fn := fun _ => fun
  | [d1, d2] => { results := [.lit (.bool true)], args := [d1, d2] }
  | _ => none }
def fnExactHomologyListRow : OpenClaim := { program := "ytlbalcckjokeiaa", sum := "02b8aa7a51ff7de6dd5f4117a1007625e24a7b09ba47dd0adbf0ca696126fc04", func := "loop.example/g01273/laws.FnExactHomologyList", spec := "fnExactHomologyList", inPlace := ["slices.overlaps[loop.example/g01273/impl.vector]"], unfollowed := true, recurses := true, plainKeys := false, apart := false }
def FnExactHomologyListSaid : Prop := fnExactHomologyListRow.holds Try.pinned (OpenSpec.ofChange fnExactHomologyListSpec)

/-- ITS FALSE NEIGHBOUR: 'it returns false'. Refute it at one input. -/
def fnExactHomologyListWrong : ChangeSpec := { name := "fnExactHomologyList", fn := fun _ => fun
  | [d1, d2] => { results := [.lit (.bool false)], args := [d1, d2] }
  | _ => none }
def FnExactHomologyListWrongFalsely : Prop := fnExactHomologyListRow.holds Try.pinned (OpenSpec.ofChange fnExactHomologyListWrong)

/-- 'laws.FnExactIsExactAt': WHATEVER THE INPUT: true; the input reads as it did. -/
def fnExactIsExactAtSpec : ChangeSpec := { name := "fnExactIsExactAt", fn := fun _ => fun
  | [d1, d2] => { results := [.lit (.bool true)], args := [d1, d2] }
  | _ => none }
def fnExactIsExactAtRow : OpenClaim := { program := "ytlbalcckjokeiaa", sum := "02b8aa7a51ff7de6dd5f4117a1007625e24a7b09ba47dd0adbf0ca696126fc04", func := "loop.example/g01273/laws.FnExactIsExactAt", spec := "fnExactIsExactAt", inPlace := ["slices.overlaps[loop.example/g01273/impl.vector]"], plainKeys := false, apart := false }
def FnExactIsExactAtSaid : Prop := fnExactIsExactAtRow.holds Try.pinned (OpenSpec.ofChange fnExactIsExactAtSpec)

/-- ITS FALSE NEIGHBOUR: 'it returns false'. Refute it at one input. -/
def fnExactIsExactAtWrong : ChangeSpec := { name := "fnExactIsExactAt", fn := fun _ => fun
  | [d1, d2] => { results := [.lit (.bool false)], args := [d1, d2] }
  | _ => none }
def FnExactIsExactAtWrongFalsely : Prop := fnExactIsExactAtRow.holds Try.pinned (OpenSpec.ofChange fnExactIsExactAtWrong)

/-- 'laws.FnExactDualComplex': WHATEVER THE INPUT: true; the input reads as it did. -/
def fnExactDualComplexSpec : ChangeSpec := { name := "fnExactDualComplex", fn := fun _ => fun
  | [d] => { results := [.lit (.bool true)], args := [d] }
  | _ => none }
def fnExactDualComplexRow : OpenClaim := { program := "ytlbalcckjokeiaa", sum := "02b8aa7a51ff7de6dd5f4117a1007625e24a7b09ba47dd0adbf0ca696126fc04", func := "loop.example/g01273/laws.FnExactDualComplex", spec := "fnExactDualComplex", plainKeys := false, apart := false }
def FnExactDualComplexSaid : Prop := fnExactDualComplexRow.holds Try.pinned (OpenSpec.ofChange fnExactDualComplexSpec)

/-- ITS FALSE NEIGHBOUR: 'it returns false'. Refute it at one input. -/
def fnExactDualComplexWrong : ChangeSpec := { name := "fnExactDualComplex", fn := fun _ => fun
  | [d] => { results := [.lit (.bool false)], args := [d] }
  | _ => none }
def FnExactDualComplexWrongFalsely : Prop := fnExactDualComplexRow.holds Try.pinned (OpenSpec.ofChange fnExactDualComplexWrong)

/-- 'laws.FnExactShiftComplex': WHATEVER THE INPUT: true; the input reads as it did. -/
def fnExactShiftComplexSpec : ChangeSpec := { name := "fnExactShiftComplex", fn := fun _ => fun
  | [d1, d2] => { results := [.lit (.bool true)], args := [d1, d2] }
  | _ => none }
def fnExactShiftComplexRow : OpenClaim := { program := "ytlbalcckjokeiaa", sum := "02b8aa7a51ff7de6dd5f4117a1007625e24a7b09ba47dd0adbf0ca696126fc04", func := "loop.example/g01273/laws.FnExactShiftComplex", spec := "fnExactShiftComplex", plainKeys := false, apart := false }
def FnExactShiftComplexSaid : Prop := fnExactShiftComplexRow.holds Try.pinned (OpenSpec.ofChange fnExactShiftComplexSpec)

/-- ITS FALSE NEIGHBOUR: 'it returns false'. Refute it at one input. -/
def fnExactShiftComplexWrong : ChangeSpec := { name := "fnExactShiftComplex", fn := fun _ => fun
  | [d1, d2] => { results := [.lit (.bool false)], args := [d1, d2] }
  | _ => none }
def FnExactShiftComplexWrongFalsely : Prop := fnExactShiftComplexRow.holds Try.pinned (OpenSpec.ofChange fnExactShiftComplexWrong)

/-- 'laws.FnExactAddComplexes': WHATEVER THE INPUT: true; the input reads as it did. -/
def fnExactAddComplexesSpec : ChangeSpec := { name := "fnExactAddComplexes", fn := fun _ => fun
  | [d1, d2] => { results := [.lit (.bool true)], args := [d1, d2] }
  | _ => none }
def fnExactAddComplexesRow : OpenClaim := { program := "ytlbalcckjokeiaa", sum := "02b8aa7a51ff7de6dd5f4117a1007625e24a7b09ba47dd0adbf0ca696126fc04", func := "loop.example/g01273/laws.FnExactAddComplexes", spec := "fnExactAddComplexes", plainKeys := false, apart := false }
def FnExactAddComplexesSaid : Prop := fnExactAddComplexesRow.holds Try.pinned (OpenSpec.ofChange fnExactAddComplexesSpec)

/-- ITS FALSE NEIGHBOUR: 'it returns false'. Refute it at one input. -/
def fnExactAddComplexesWrong : ChangeSpec := { name := "fnExactAddComplexes", fn := fun _ => fun
  | [d1, d2] => { results := [.lit (.bool false)], args := [d1, d2] }
  | _ => none }
def FnExactAddComplexesWrongFalsely : Prop := fnExactAddComplexesRow.holds Try.pinned (OpenSpec.ofChange fnExactAddComplexesWrong)

/-- 'laws.FnExactPartOf': WHATEVER THE INPUT: true; the input reads as it did. -/
def fnExactPartOfSpec : ChangeSpec := { name := "fnExactPartOf", fn := fun _ => fun
  | [d1, d2] => { results := [.lit (.bool true)], args := [d1, d2] }
  | _ => none }
def fnExactPartOfRow : OpenClaim := { program := "ytlbalcckjokeiaa", sum := "02b8aa7a51ff7de6dd5f4117a1007625e24a7b09ba47dd0adbf0ca696126fc04", func := "loop.example/g01273/laws.FnExactPartOf", spec := "fnExactPartOf", plainKeys := false, apart := false }
def FnExactPartOfSaid : Prop := fnExactPartOfRow.holds Try.pinned (OpenSpec.ofChange fnExactPartOfSpec)

/-- ITS FALSE NEIGHBOUR: 'it returns false'. Refute it at one input. -/
def fnExactPartOfWrong : ChangeSpec := { name := "fnExactPartOf", fn := fun _ => fun
  | [d1, d2] => { results := [.lit (.bool false)], args := [d1, d2] }
  | _ => none }
def FnExactPartOfWrongFalsely : Prop := fnExactPartOfRow.holds Try.pinned (OpenSpec.ofChange fnExactPartOfWrong)

/- THE SECOND FORM. 'bulk': how many values and letters a reading holds, each counted each time it is reached (what is shared counts as often as it is met; a slice's spare places count too). A statement '..UptoSaid' is the law's where the arguments, and the package variables that the reading takes, are together of bulk at most 1048576: NARROWER than '..Said'. Prove '..Said' where nothing that the law and all that it calls make is longer than what came in: it says more and counts as full. Else prove '..UptoSaid'. A law counts once. -/
mutual
def uptoBulk {H : Type} : DataW H → Nat
  | .lit (.string bytes) => bytes.length + 1
  | .lit _ => 1
  | .nil => 1
  | .ptr d => uptoBulk d + 1
  | .slice elems spare => uptoBulkAll elems + uptoBulkAll spare + 1
  | .agg parts => uptoBulkAll parts + 1
  | .iface _ d => uptoBulk d + 1
  | .map entries => uptoBulkEntries entries + 1
  | .held _ => 1
def uptoBulkAll {H : Type} : List (DataW H) → Nat
  | [] => 0
  | d :: r => uptoBulk d + uptoBulkAll r
def uptoBulkEntries {H : Type} : List (Lit × DataW H) → Nat
  | [] => 0
  | x :: r => uptoBulkEntry x + uptoBulkEntries r
def uptoBulkEntry {H : Type} : Lit × DataW H → Nat
  | (.string bytes, d) => bytes.length + uptoBulk d + 1
  | (_, d) => uptoBulk d + 1
 end
def uptoSmall : (H : Type) → List (DataW H) → Bool := fun _ ds => decide (uptoBulkAll ds ≤ 1048576)
def OpenSpec.upto (s : _root_.Go.ChangeSpec) : _root_.Go.OpenSpec := { _root_.Go.OpenSpec.ofChange s with cond := some uptoSmall }

/-- 'laws.FnExactReduceRows', WHERE WHAT IT READS IS OF BULK AT MOST 1048576: true; the input reads as it did. -/
def fnExactReduceRowsUptoRow : OpenClaim := { program := "ytlbalcckjokeiaa", sum := "02b8aa7a51ff7de6dd5f4117a1007625e24a7b09ba47dd0adbf0ca696126fc04", func := "loop.example/g01273/laws.FnExactReduceRows", spec := "fnExactReduceRows", inPlace := ["slices.overlaps[loop.example/g01273/impl.vector]"], plainKeys := false, apart := false, narrowed := true }
def FnExactReduceRowsUptoSaid : Prop := fnExactReduceRowsUptoRow.holds Try.pinned (OpenSpec.upto fnExactReduceRowsSpec)

/-- 'laws.FnExactSumOfSpaces', WHERE WHAT IT READS IS OF BULK AT MOST 1048576: true; the input reads as it did. -/
def fnExactSumOfSpacesUptoRow : OpenClaim := { program := "ytlbalcckjokeiaa", sum := "02b8aa7a51ff7de6dd5f4117a1007625e24a7b09ba47dd0adbf0ca696126fc04", func := "loop.example/g01273/laws.FnExactSumOfSpaces", spec := "fnExactSumOfSpaces", inPlace := ["slices.overlaps[loop.example/g01273/impl.vector]"], plainKeys := false, apart := false, narrowed := true }
def FnExactSumOfSpacesUptoSaid : Prop := fnExactSumOfSpacesUptoRow.holds Try.pinned (OpenSpec.upto fnExactSumOfSpacesSpec)

/-- 'laws.FnExactMeetOfSpaces', WHERE WHAT IT READS IS OF BULK AT MOST 1048576: true; the input reads as it did. -/
def fnExactMeetOfSpacesUptoRow : OpenClaim := { program := "ytlbalcckjokeiaa", sum := "02b8aa7a51ff7de6dd5f4117a1007625e24a7b09ba47dd0adbf0ca696126fc04", func := "loop.example/g01273/laws.FnExactMeetOfSpaces", spec := "fnExactMeetOfSpaces", inPlace := ["slices.overlaps[loop.example/g01273/impl.vector]"], plainKeys := false, apart := false, narrowed := true }
def FnExactMeetOfSpacesUptoSaid : Prop := fnExactMeetOfSpacesUptoRow.holds Try.pinned (OpenSpec.upto fnExactMeetOfSpacesSpec)

/-- 'laws.FnExactCyclesOf', WHERE WHAT IT READS IS OF BULK AT MOST 1048576: true; the input reads as it did. -/
def fnExactCyclesOfUptoRow : OpenClaim := { program := "ytlbalcckjokeiaa", sum := "02b8aa7a51ff7de6dd5f4117a1007625e24a7b09ba47dd0adbf0ca696126fc04", func := "loop.example/g01273/laws.FnExactCyclesOf", spec := "fnExactCyclesOf", inPlace := ["slices.overlaps[loop.example/g01273/impl.vector]"], unfollowed := true, recurses := true, plainKeys := false, apart := false, narrowed := true }
def FnExactCyclesOfUptoSaid : Prop := fnExactCyclesOfUptoRow.holds Try.pinned (OpenSpec.upto fnExactCyclesOfSpec)

/-- 'laws.FnExactBoundariesOf', WHERE WHAT IT READS IS OF BULK AT MOST 1048576: true; the input reads as it did. -/
def fnExactBoundariesOfUptoRow : OpenClaim := { program := "ytlbalcckjokeiaa", sum := "02b8aa7a51ff7de6dd5f4117a1007625e24a7b09ba47dd0adbf0ca696126fc04", func := "loop.example/g01273/laws.FnExactBoundariesOf", spec := "fnExactBoundariesOf", inPlace := ["slices.overlaps[loop.example/g01273/impl.vector]"], unfollowed := true, recurses := true, plainKeys := false, apart := false, narrowed := true }
def FnExactBoundariesOfUptoSaid : Prop := fnExactBoundariesOfUptoRow.holds Try.pinned (OpenSpec.upto fnExactBoundariesOfSpec)

/-- 'laws.FnExactHomologyNumbers', WHERE WHAT IT READS IS OF BULK AT MOST 1048576: true; the input reads as it did. -/
def fnExactHomologyNumbersUptoRow : OpenClaim := { program := "ytlbalcckjokeiaa", sum := "02b8aa7a51ff7de6dd5f4117a1007625e24a7b09ba47dd0adbf0ca696126fc04", func := "loop.example/g01273/laws.FnExactHomologyNumbers", spec := "fnExactHomologyNumbers", inPlace := ["slices.overlaps[loop.example/g01273/impl.vector]"], plainKeys := false, apart := false, narrowed := true }
def FnExactHomologyNumbersUptoSaid : Prop := fnExactHomologyNumbersUptoRow.holds Try.pinned (OpenSpec.upto fnExactHomologyNumbersSpec)

/-- 'laws.FnExactHomologyList', WHERE WHAT IT READS IS OF BULK AT MOST 1048576: true; the input reads as it did. -/
def fnExactHomologyListUptoRow : OpenClaim := { program := "ytlbalcckjokeiaa", sum := "02b8aa7a51ff7de6dd5f4117a1007625e24a7b09ba47dd0adbf0ca696126fc04", func := "loop.example/g01273/laws.FnExactHomologyList", spec := "fnExactHomologyList", inPlace := ["slices.overlaps[loop.example/g01273/impl.vector]"], unfollowed := true, recurses := true, plainKeys := false, apart := false, narrowed := true }
def FnExactHomologyListUptoSaid : Prop := fnExactHomologyListUptoRow.holds Try.pinned (OpenSpec.upto fnExactHomologyListSpec)

/-- 'laws.FnExactIsExactAt', WHERE WHAT IT READS IS OF BULK AT MOST 1048576: true; the input reads as it did. -/
def fnExactIsExactAtUptoRow : OpenClaim := { program := "ytlbalcckjokeiaa", sum := "02b8aa7a51ff7de6dd5f4117a1007625e24a7b09ba47dd0adbf0ca696126fc04", func := "loop.example/g01273/laws.FnExactIsExactAt", spec := "fnExactIsExactAt", inPlace := ["slices.overlaps[loop.example/g01273/impl.vector]"], plainKeys := false, apart := false, narrowed := true }
def FnExactIsExactAtUptoSaid : Prop := fnExactIsExactAtUptoRow.holds Try.pinned (OpenSpec.upto fnExactIsExactAtSpec)

/-- 'laws.FnExactDualComplex', WHERE WHAT IT READS IS OF BULK AT MOST 1048576: true; the input reads as it did. -/
def fnExactDualComplexUptoRow : OpenClaim := { program := "ytlbalcckjokeiaa", sum := "02b8aa7a51ff7de6dd5f4117a1007625e24a7b09ba47dd0adbf0ca696126fc04", func := "loop.example/g01273/laws.FnExactDualComplex", spec := "fnExactDualComplex", plainKeys := false, apart := false, narrowed := true }
def FnExactDualComplexUptoSaid : Prop := fnExactDualComplexUptoRow.holds Try.pinned (OpenSpec.upto fnExactDualComplexSpec)

/-- 'laws.FnExactShiftComplex', WHERE WHAT IT READS IS OF BULK AT MOST 1048576: true; the input reads as it did. -/
def fnExactShiftComplexUptoRow : OpenClaim := { program := "ytlbalcckjokeiaa", sum := "02b8aa7a51ff7de6dd5f4117a1007625e24a7b09ba47dd0adbf0ca696126fc04", func := "loop.example/g01273/laws.FnExactShiftComplex", spec := "fnExactShiftComplex", plainKeys := false, apart := false, narrowed := true }
def FnExactShiftComplexUptoSaid : Prop := fnExactShiftComplexUptoRow.holds Try.pinned (OpenSpec.upto fnExactShiftComplexSpec)

/-- 'laws.FnExactAddComplexes', WHERE WHAT IT READS IS OF BULK AT MOST 1048576: true; the input reads as it did. -/
def fnExactAddComplexesUptoRow : OpenClaim := { program := "ytlbalcckjokeiaa", sum := "02b8aa7a51ff7de6dd5f4117a1007625e24a7b09ba47dd0adbf0ca696126fc04", func := "loop.example/g01273/laws.FnExactAddComplexes", spec := "fnExactAddComplexes", plainKeys := false, apart := false, narrowed := true }
def FnExactAddComplexesUptoSaid : Prop := fnExactAddComplexesUptoRow.holds Try.pinned (OpenSpec.upto fnExactAddComplexesSpec)

/-- 'laws.FnExactPartOf', WHERE WHAT IT READS IS OF BULK AT MOST 1048576: true; the input reads as it did. -/
def fnExactPartOfUptoRow : OpenClaim := { program := "ytlbalcckjokeiaa", sum := "02b8aa7a51ff7de6dd5f4117a1007625e24a7b09ba47dd0adbf0ca696126fc04", func := "loop.example/g01273/laws.FnExactPartOf", spec := "fnExactPartOf", plainKeys := false, apart := false, narrowed := true }
def FnExactPartOfUptoSaid : Prop := fnExactPartOfUptoRow.holds Try.pinned (OpenSpec.upto fnExactPartOfSpec)

end Rows
end Go.Proofs.Ytlbalcckjokeiaa
