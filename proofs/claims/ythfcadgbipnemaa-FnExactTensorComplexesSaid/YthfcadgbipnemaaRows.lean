/-
  No cell of these rows narrows 'for every input' (looked for: loops, veiled, ifaces, maps, wideKeys, modest, calm, conditions, laid).
  DERIVED. THE GIVEN ROWS OF THIS SEAT. 12 by the template 'for every input the law returns true; each argument reads behind the call as it read before'; 0 by the template 'total and deterministic' (their statements: YthfcadgbipnemaaTotals.lean).
  GIVEN WITH THE SEED: the statements are not yours to turn. If you find one false, say at which input.
  Laid BY PROGRAM, IN A SANDBOX (cutbox-rows.mjs): the forced cells as the released guide's own fill.sh prints them over the translation ae9f162821921736… (all of the seat's roots in one cut). By AI agents, Wed Nov 11 2026. No macro, syntax, notation, axiom, sorry.
-/
import Derived.Test.YthfcadgbipnemaaChecked
import GoSem.Claim
import GoSem.ClaimJoined
import GoSem.ClaimMapViews
import Derived.JoinedTies
import Derived.KernelRfl
namespace Go.Proofs.Ythfcadgbipnemaa
/- THE CELL 'sum', in the pinned program and in every row, IS THE sha256 OF THE DUMP (.gsa) THAT YthfcadgbipnemaaProg.lean LOADS. Nothing in Lean hashes anything: it is a label: what it is worth is what the hold of that sum in a sandbox is worth. -/
noncomputable def Try.pinned : Pinned := { name := "ythfcadgbipnemaa", sum := "ae9f16282192173631d9b1cba29ab0e5dd1de541373f1b6b622709daa942f9f9", checked := Try.checked }
namespace Rows
def none {H : Type} : Left H := { results := [], args := [] }

/-- 'laws.FnExactHolesOf': WHATEVER THE INPUT: true; the input reads as it did. -/
def fnExactHolesOfSpec : ChangeSpec := { name := "fnExactHolesOf", fn := fun _ => fun
  | [d1, d2] => { results := [.lit (.bool true)], args := [d1, d2] }
  | _ => none }
def fnExactHolesOfRow : OpenClaim := { program := "ythfcadgbipnemaa", sum := "ae9f16282192173631d9b1cba29ab0e5dd1de541373f1b6b622709daa942f9f9", func := "loop.example/g01273/laws.FnExactHolesOf", spec := "fnExactHolesOf", inPlace := ["slices.overlaps[loop.example/g01273/impl.vector]"], unfollowed := true, recurses := true, plainKeys := false, apart := false }
def FnExactHolesOfSaid : Prop := fnExactHolesOfRow.holds Try.pinned (OpenSpec.ofChange fnExactHolesOfSpec)

/-- ITS FALSE NEIGHBOUR: 'it returns false'. Refute it at one input. -/
def fnExactHolesOfWrong : ChangeSpec := { name := "fnExactHolesOf", fn := fun _ => fun
  | [d1, d2] => { results := [.lit (.bool false)], args := [d1, d2] }
  | _ => none }
def FnExactHolesOfWrongFalsely : Prop := fnExactHolesOfRow.holds Try.pinned (OpenSpec.ofChange fnExactHolesOfWrong)

/-- 'laws.FnExactZeroMaps': WHATEVER THE INPUT: true; the input reads as it did. -/
def fnExactZeroMapsSpec : ChangeSpec := { name := "fnExactZeroMaps", fn := fun _ => fun
  | [d] => { results := [.lit (.bool true)], args := [d] }
  | _ => none }
def fnExactZeroMapsRow : OpenClaim := { program := "ythfcadgbipnemaa", sum := "ae9f16282192173631d9b1cba29ab0e5dd1de541373f1b6b622709daa942f9f9", func := "loop.example/g01273/laws.FnExactZeroMaps", spec := "fnExactZeroMaps", plainKeys := false, apart := false }
def FnExactZeroMapsSaid : Prop := fnExactZeroMapsRow.holds Try.pinned (OpenSpec.ofChange fnExactZeroMapsSpec)

/-- ITS FALSE NEIGHBOUR: 'it returns false'. Refute it at one input. -/
def fnExactZeroMapsWrong : ChangeSpec := { name := "fnExactZeroMaps", fn := fun _ => fun
  | [d] => { results := [.lit (.bool false)], args := [d] }
  | _ => none }
def FnExactZeroMapsWrongFalsely : Prop := fnExactZeroMapsRow.holds Try.pinned (OpenSpec.ofChange fnExactZeroMapsWrong)

/-- 'laws.FnExactHomologyComplex': WHATEVER THE INPUT: true; the input reads as it did. -/
def fnExactHomologyComplexSpec : ChangeSpec := { name := "fnExactHomologyComplex", fn := fun _ => fun
  | [d] => { results := [.lit (.bool true)], args := [d] }
  | _ => none }
def fnExactHomologyComplexRow : OpenClaim := { program := "ythfcadgbipnemaa", sum := "ae9f16282192173631d9b1cba29ab0e5dd1de541373f1b6b622709daa942f9f9", func := "loop.example/g01273/laws.FnExactHomologyComplex", spec := "fnExactHomologyComplex", inPlace := ["slices.overlaps[loop.example/g01273/impl.vector]"], plainKeys := false, apart := false }
def FnExactHomologyComplexSaid : Prop := fnExactHomologyComplexRow.holds Try.pinned (OpenSpec.ofChange fnExactHomologyComplexSpec)

/-- ITS FALSE NEIGHBOUR: 'it returns false'. Refute it at one input. -/
def fnExactHomologyComplexWrong : ChangeSpec := { name := "fnExactHomologyComplex", fn := fun _ => fun
  | [d] => { results := [.lit (.bool false)], args := [d] }
  | _ => none }
def FnExactHomologyComplexWrongFalsely : Prop := fnExactHomologyComplexRow.holds Try.pinned (OpenSpec.ofChange fnExactHomologyComplexWrong)

/-- 'laws.FnExactTensorComplexes': WHATEVER THE INPUT: true; the input reads as it did. -/
def fnExactTensorComplexesSpec : ChangeSpec := { name := "fnExactTensorComplexes", fn := fun _ => fun
  | [d1, d2] => { results := [.lit (.bool true)], args := [d1, d2] }
  | _ => none }
def fnExactTensorComplexesRow : OpenClaim := { program := "ythfcadgbipnemaa", sum := "ae9f16282192173631d9b1cba29ab0e5dd1de541373f1b6b622709daa942f9f9", func := "loop.example/g01273/laws.FnExactTensorComplexes", spec := "fnExactTensorComplexes", unfollowed := true, recurses := true, plainKeys := false, apart := false }
def FnExactTensorComplexesSaid : Prop := fnExactTensorComplexesRow.holds Try.pinned (OpenSpec.ofChange fnExactTensorComplexesSpec)

/-- ITS FALSE NEIGHBOUR: 'it returns false'. Refute it at one input. -/
def fnExactTensorComplexesWrong : ChangeSpec := { name := "fnExactTensorComplexes", fn := fun _ => fun
  | [d1, d2] => { results := [.lit (.bool false)], args := [d1, d2] }
  | _ => none }
def FnExactTensorComplexesWrongFalsely : Prop := fnExactTensorComplexesRow.holds Try.pinned (OpenSpec.ofChange fnExactTensorComplexesWrong)

/-- 'laws.FnExactPowerComplex': WHATEVER THE INPUT: true; the input reads as it did. -/
def fnExactPowerComplexSpec : ChangeSpec := { name := "fnExactPowerComplex", fn := fun _ => fun
  | [d1, d2] => { results := [.lit (.bool true)], args := [d1, d2] }
  | _ => none }
def fnExactPowerComplexRow : OpenClaim := { program := "ythfcadgbipnemaa", sum := "ae9f16282192173631d9b1cba29ab0e5dd1de541373f1b6b622709daa942f9f9", func := "loop.example/g01273/laws.FnExactPowerComplex", spec := "fnExactPowerComplex", unfollowed := true, recurses := true, plainKeys := false, apart := false }
def FnExactPowerComplexSaid : Prop := fnExactPowerComplexRow.holds Try.pinned (OpenSpec.ofChange fnExactPowerComplexSpec)

/-- ITS FALSE NEIGHBOUR: 'it returns false'. Refute it at one input. -/
def fnExactPowerComplexWrong : ChangeSpec := { name := "fnExactPowerComplex", fn := fun _ => fun
  | [d1, d2] => { results := [.lit (.bool false)], args := [d1, d2] }
  | _ => none }
def FnExactPowerComplexWrongFalsely : Prop := fnExactPowerComplexRow.holds Try.pinned (OpenSpec.ofChange fnExactPowerComplexWrong)

/-- 'laws.FnExactIsPerturbation': WHATEVER THE INPUT: true; the input reads as it did. -/
def fnExactIsPerturbationSpec : ChangeSpec := { name := "fnExactIsPerturbation", fn := fun _ => fun
  | [d1, d2] => { results := [.lit (.bool true)], args := [d1, d2] }
  | _ => none }
def fnExactIsPerturbationRow : OpenClaim := { program := "ythfcadgbipnemaa", sum := "ae9f16282192173631d9b1cba29ab0e5dd1de541373f1b6b622709daa942f9f9", func := "loop.example/g01273/laws.FnExactIsPerturbation", spec := "fnExactIsPerturbation", unfollowed := true, recurses := true, plainKeys := false, apart := false }
def FnExactIsPerturbationSaid : Prop := fnExactIsPerturbationRow.holds Try.pinned (OpenSpec.ofChange fnExactIsPerturbationSpec)

/-- ITS FALSE NEIGHBOUR: 'it returns false'. Refute it at one input. -/
def fnExactIsPerturbationWrong : ChangeSpec := { name := "fnExactIsPerturbation", fn := fun _ => fun
  | [d1, d2] => { results := [.lit (.bool false)], args := [d1, d2] }
  | _ => none }
def FnExactIsPerturbationWrongFalsely : Prop := fnExactIsPerturbationRow.holds Try.pinned (OpenSpec.ofChange fnExactIsPerturbationWrong)

/-- 'laws.FnExactPerturbedComplex': WHATEVER THE INPUT: true; the input reads as it did. -/
def fnExactPerturbedComplexSpec : ChangeSpec := { name := "fnExactPerturbedComplex", fn := fun _ => fun
  | [d1, d2] => { results := [.lit (.bool true)], args := [d1, d2] }
  | _ => none }
def fnExactPerturbedComplexRow : OpenClaim := { program := "ythfcadgbipnemaa", sum := "ae9f16282192173631d9b1cba29ab0e5dd1de541373f1b6b622709daa942f9f9", func := "loop.example/g01273/laws.FnExactPerturbedComplex", spec := "fnExactPerturbedComplex", unfollowed := true, recurses := true, plainKeys := false, apart := false }
def FnExactPerturbedComplexSaid : Prop := fnExactPerturbedComplexRow.holds Try.pinned (OpenSpec.ofChange fnExactPerturbedComplexSpec)

/-- ITS FALSE NEIGHBOUR: 'it returns false'. Refute it at one input. -/
def fnExactPerturbedComplexWrong : ChangeSpec := { name := "fnExactPerturbedComplex", fn := fun _ => fun
  | [d1, d2] => { results := [.lit (.bool false)], args := [d1, d2] }
  | _ => none }
def FnExactPerturbedComplexWrongFalsely : Prop := fnExactPerturbedComplexRow.holds Try.pinned (OpenSpec.ofChange fnExactPerturbedComplexWrong)

/-- 'laws.FnExactFreePlaces': WHATEVER THE INPUT: true; the input reads as it did. -/
def fnExactFreePlacesSpec : ChangeSpec := { name := "fnExactFreePlaces", fn := fun _ => fun
  | [d1, d2] => { results := [.lit (.bool true)], args := [d1, d2] }
  | _ => none }
def fnExactFreePlacesRow : OpenClaim := { program := "ythfcadgbipnemaa", sum := "ae9f16282192173631d9b1cba29ab0e5dd1de541373f1b6b622709daa942f9f9", func := "loop.example/g01273/laws.FnExactFreePlaces", spec := "fnExactFreePlaces", inPlace := ["slices.overlaps[loop.example/g01273/impl.vector]", "slices.overlaps[int64]"], plainKeys := false, apart := false }
def FnExactFreePlacesSaid : Prop := fnExactFreePlacesRow.holds Try.pinned (OpenSpec.ofChange fnExactFreePlacesSpec)

/-- ITS FALSE NEIGHBOUR: 'it returns false'. Refute it at one input. -/
def fnExactFreePlacesWrong : ChangeSpec := { name := "fnExactFreePlaces", fn := fun _ => fun
  | [d1, d2] => { results := [.lit (.bool false)], args := [d1, d2] }
  | _ => none }
def FnExactFreePlacesWrongFalsely : Prop := fnExactFreePlacesRow.holds Try.pinned (OpenSpec.ofChange fnExactFreePlacesWrong)

/-- 'laws.FnExactSplitVector': WHATEVER THE INPUT: true; the input reads as it did. -/
def fnExactSplitVectorSpec : ChangeSpec := { name := "fnExactSplitVector", fn := fun _ => fun
  | [d1, d2, d3] => { results := [.lit (.bool true)], args := [d1, d2, d3] }
  | _ => none }
def fnExactSplitVectorRow : OpenClaim := { program := "ythfcadgbipnemaa", sum := "ae9f16282192173631d9b1cba29ab0e5dd1de541373f1b6b622709daa942f9f9", func := "loop.example/g01273/laws.FnExactSplitVector", spec := "fnExactSplitVector", inPlace := ["slices.overlaps[loop.example/g01273/impl.vector]", "slices.overlaps[int64]"], plainKeys := false, apart := false }
def FnExactSplitVectorSaid : Prop := fnExactSplitVectorRow.holds Try.pinned (OpenSpec.ofChange fnExactSplitVectorSpec)

/-- ITS FALSE NEIGHBOUR: 'it returns false'. Refute it at one input. -/
def fnExactSplitVectorWrong : ChangeSpec := { name := "fnExactSplitVector", fn := fun _ => fun
  | [d1, d2, d3] => { results := [.lit (.bool false)], args := [d1, d2, d3] }
  | _ => none }
def FnExactSplitVectorWrongFalsely : Prop := fnExactSplitVectorRow.holds Try.pinned (OpenSpec.ofChange fnExactSplitVectorWrong)

/-- 'laws.FnExactHomologyNumbers': WHATEVER THE INPUT: true; the input reads as it did. -/
def fnExactHomologyNumbersSpec : ChangeSpec := { name := "fnExactHomologyNumbers", fn := fun _ => fun
  | [d] => { results := [.lit (.bool true)], args := [d] }
  | _ => none }
def fnExactHomologyNumbersRow : OpenClaim := { program := "ythfcadgbipnemaa", sum := "ae9f16282192173631d9b1cba29ab0e5dd1de541373f1b6b622709daa942f9f9", func := "loop.example/g01273/laws.FnExactHomologyNumbers", spec := "fnExactHomologyNumbers", inPlace := ["slices.overlaps[loop.example/g01273/impl.vector]"], plainKeys := false, apart := false }
def FnExactHomologyNumbersSaid : Prop := fnExactHomologyNumbersRow.holds Try.pinned (OpenSpec.ofChange fnExactHomologyNumbersSpec)

/-- ITS FALSE NEIGHBOUR: 'it returns false'. Refute it at one input. -/
def fnExactHomologyNumbersWrong : ChangeSpec := { name := "fnExactHomologyNumbers", fn := fun _ => fun
  | [d] => { results := [.lit (.bool false)], args := [d] }
  | _ => none }
def FnExactHomologyNumbersWrongFalsely : Prop := fnExactHomologyNumbersRow.holds Try.pinned (OpenSpec.ofChange fnExactHomologyNumbersWrong)

/-- 'laws.FnExactPartOf': WHATEVER THE INPUT: true; the input reads as it did. -/
def fnExactPartOfSpec : ChangeSpec := { name := "fnExactPartOf", fn := fun _ => fun
  | [d1, d2] => { results := [.lit (.bool true)], args := [d1, d2] }
  | _ => none }
def fnExactPartOfRow : OpenClaim := { program := "ythfcadgbipnemaa", sum := "ae9f16282192173631d9b1cba29ab0e5dd1de541373f1b6b622709daa942f9f9", func := "loop.example/g01273/laws.FnExactPartOf", spec := "fnExactPartOf", plainKeys := false, apart := false }
def FnExactPartOfSaid : Prop := fnExactPartOfRow.holds Try.pinned (OpenSpec.ofChange fnExactPartOfSpec)

/-- ITS FALSE NEIGHBOUR: 'it returns false'. Refute it at one input. -/
def fnExactPartOfWrong : ChangeSpec := { name := "fnExactPartOf", fn := fun _ => fun
  | [d1, d2] => { results := [.lit (.bool false)], args := [d1, d2] }
  | _ => none }
def FnExactPartOfWrongFalsely : Prop := fnExactPartOfRow.holds Try.pinned (OpenSpec.ofChange fnExactPartOfWrong)

/-- 'laws.FnExactColumnOf': WHATEVER THE INPUT: true; the input reads as it did. -/
def fnExactColumnOfSpec : ChangeSpec := { name := "fnExactColumnOf", fn := fun _ => fun
  | [d1, d2] => { results := [.lit (.bool true)], args := [d1, d2] }
  | _ => none }
def fnExactColumnOfRow : OpenClaim := { program := "ythfcadgbipnemaa", sum := "ae9f16282192173631d9b1cba29ab0e5dd1de541373f1b6b622709daa942f9f9", func := "loop.example/g01273/laws.FnExactColumnOf", spec := "fnExactColumnOf", unfollowed := true, recurses := true, plainKeys := false, apart := false }
def FnExactColumnOfSaid : Prop := fnExactColumnOfRow.holds Try.pinned (OpenSpec.ofChange fnExactColumnOfSpec)

/-- ITS FALSE NEIGHBOUR: 'it returns false'. Refute it at one input. -/
def fnExactColumnOfWrong : ChangeSpec := { name := "fnExactColumnOf", fn := fun _ => fun
  | [d1, d2] => { results := [.lit (.bool false)], args := [d1, d2] }
  | _ => none }
def FnExactColumnOfWrongFalsely : Prop := fnExactColumnOfRow.holds Try.pinned (OpenSpec.ofChange fnExactColumnOfWrong)

/- THE SECOND FORM. 'bulk': how many values and letters a reading holds, each counted each time it is reached (what is shared counts as often as it is met; a slice's spare places count too). A statement '..UptoSaid' is the law's where the arguments, and the package variables that the reading takes, are together of bulk at most 1048576: NARROWER than '..Said'. Prove '..Said' where nothing that the law and all that it calls make is longer than what came in: it says more and counts as full. Else prove '..UptoSaid'. A law counts once. -/
mutual
def uptoBulk {H : Type} : DataW H → Nat
  | .lit (.string bytes) => bytes.length + 1
  | .lit _ => 1
  | .nil => 1
  | .ptr d => uptoBulk d + 1
  | .slice elems spare => uptoBulkAll elems + uptoBulkAll spare + 1
  | .agg parts => uptoBulkAll parts + 1
  | .iface _ d => uptoBulk d + 1
  | .map entries => uptoBulkEntries entries + 1
  | .held _ => 1
def uptoBulkAll {H : Type} : List (DataW H) → Nat
  | [] => 0
  | d :: r => uptoBulk d + uptoBulkAll r
def uptoBulkEntries {H : Type} : List (Lit × DataW H) → Nat
  | [] => 0
  | x :: r => uptoBulkEntry x + uptoBulkEntries r
def uptoBulkEntry {H : Type} : Lit × DataW H → Nat
  | (.string bytes, d) => bytes.length + uptoBulk d + 1
  | (_, d) => uptoBulk d + 1
 end
def uptoSmall : (H : Type) → List (DataW H) → Bool := fun _ ds => decide (uptoBulkAll ds ≤ 1048576)
def OpenSpec.upto (s : _root_.Go.ChangeSpec) : _root_.Go.OpenSpec := { _root_.Go.OpenSpec.ofChange s with cond := some uptoSmall }

/-- 'laws.FnExactHolesOf', WHERE WHAT IT READS IS OF BULK AT MOST 1048576: true; the input reads as it did. -/
def fnExactHolesOfUptoRow : OpenClaim := { program := "ythfcadgbipnemaa", sum := "ae9f16282192173631d9b1cba29ab0e5dd1de541373f1b6b622709daa942f9f9", func := "loop.example/g01273/laws.FnExactHolesOf", spec := "fnExactHolesOf", inPlace := ["slices.overlaps[loop.example/g01273/impl.vector]"], unfollowed := true, recurses := true, plainKeys := false, apart := false, narrowed := true }
def FnExactHolesOfUptoSaid : Prop := fnExactHolesOfUptoRow.holds Try.pinned (OpenSpec.upto fnExactHolesOfSpec)

/-- 'laws.FnExactZeroMaps', WHERE WHAT IT READS IS OF BULK AT MOST 1048576: true; the input reads as it did. -/
def fnExactZeroMapsUptoRow : OpenClaim := { program := "ythfcadgbipnemaa", sum := "ae9f16282192173631d9b1cba29ab0e5dd1de541373f1b6b622709daa942f9f9", func := "loop.example/g01273/laws.FnExactZeroMaps", spec := "fnExactZeroMaps", plainKeys := false, apart := false, narrowed := true }
def FnExactZeroMapsUptoSaid : Prop := fnExactZeroMapsUptoRow.holds Try.pinned (OpenSpec.upto fnExactZeroMapsSpec)

/-- 'laws.FnExactHomologyComplex', WHERE WHAT IT READS IS OF BULK AT MOST 1048576: true; the input reads as it did. -/
def fnExactHomologyComplexUptoRow : OpenClaim := { program := "ythfcadgbipnemaa", sum := "ae9f16282192173631d9b1cba29ab0e5dd1de541373f1b6b622709daa942f9f9", func := "loop.example/g01273/laws.FnExactHomologyComplex", spec := "fnExactHomologyComplex", inPlace := ["slices.overlaps[loop.example/g01273/impl.vector]"], plainKeys := false, apart := false, narrowed := true }
def FnExactHomologyComplexUptoSaid : Prop := fnExactHomologyComplexUptoRow.holds Try.pinned (OpenSpec.upto fnExactHomologyComplexSpec)

/-- 'laws.FnExactTensorComplexes', WHERE WHAT IT READS IS OF BULK AT MOST 1048576: true; the input reads as it did. -/
def fnExactTensorComplexesUptoRow : OpenClaim := { program := "ythfcadgbipnemaa", sum := "ae9f16282192173631d9b1cba29ab0e5dd1de541373f1b6b622709daa942f9f9", func := "loop.example/g01273/laws.FnExactTensorComplexes", spec := "fnExactTensorComplexes", unfollowed := true, recurses := true, plainKeys := false, apart := false, narrowed := true }
def FnExactTensorComplexesUptoSaid : Prop := fnExactTensorComplexesUptoRow.holds Try.pinned (OpenSpec.upto fnExactTensorComplexesSpec)

/-- 'laws.FnExactPowerComplex', WHERE WHAT IT READS IS OF BULK AT MOST 1048576: true; the input reads as it did. -/
def fnExactPowerComplexUptoRow : OpenClaim := { program := "ythfcadgbipnemaa", sum := "ae9f16282192173631d9b1cba29ab0e5dd1de541373f1b6b622709daa942f9f9", func := "loop.example/g01273/laws.FnExactPowerComplex", spec := "fnExactPowerComplex", unfollowed := true, recurses := true, plainKeys := false, apart := false, narrowed := true }
def FnExactPowerComplexUptoSaid : Prop := fnExactPowerComplexUptoRow.holds Try.pinned (OpenSpec.upto fnExactPowerComplexSpec)

/-- 'laws.FnExactIsPerturbation', WHERE WHAT IT READS IS OF BULK AT MOST 1048576: true; the input reads as it did. -/
def fnExactIsPerturbationUptoRow : OpenClaim := { program := "ythfcadgbipnemaa", sum := "ae9f16282192173631d9b1cba29ab0e5dd1de541373f1b6b622709daa942f9f9", func := "loop.example/g01273/laws.FnExactIsPerturbation", spec := "fnExactIsPerturbation", unfollowed := true, recurses := true, plainKeys := false, apart := false, narrowed := true }
def FnExactIsPerturbationUptoSaid : Prop := fnExactIsPerturbationUptoRow.holds Try.pinned (OpenSpec.upto fnExactIsPerturbationSpec)

/-- 'laws.FnExactPerturbedComplex', WHERE WHAT IT READS IS OF BULK AT MOST 1048576: true; the input reads as it did. -/
def fnExactPerturbedComplexUptoRow : OpenClaim := { program := "ythfcadgbipnemaa", sum := "ae9f16282192173631d9b1cba29ab0e5dd1de541373f1b6b622709daa942f9f9", func := "loop.example/g01273/laws.FnExactPerturbedComplex", spec := "fnExactPerturbedComplex", unfollowed := true, recurses := true, plainKeys := false, apart := false, narrowed := true }
def FnExactPerturbedComplexUptoSaid : Prop := fnExactPerturbedComplexUptoRow.holds Try.pinned (OpenSpec.upto fnExactPerturbedComplexSpec)

/-- 'laws.FnExactFreePlaces', WHERE WHAT IT READS IS OF BULK AT MOST 1048576: true; the input reads as it did. -/
def fnExactFreePlacesUptoRow : OpenClaim := { program := "ythfcadgbipnemaa", sum := "ae9f16282192173631d9b1cba29ab0e5dd1de541373f1b6b622709daa942f9f9", func := "loop.example/g01273/laws.FnExactFreePlaces", spec := "fnExactFreePlaces", inPlace := ["slices.overlaps[loop.example/g01273/impl.vector]", "slices.overlaps[int64]"], plainKeys := false, apart := false, narrowed := true }
def FnExactFreePlacesUptoSaid : Prop := fnExactFreePlacesUptoRow.holds Try.pinned (OpenSpec.upto fnExactFreePlacesSpec)

/-- 'laws.FnExactSplitVector', WHERE WHAT IT READS IS OF BULK AT MOST 1048576: true; the input reads as it did. -/
def fnExactSplitVectorUptoRow : OpenClaim := { program := "ythfcadgbipnemaa", sum := "ae9f16282192173631d9b1cba29ab0e5dd1de541373f1b6b622709daa942f9f9", func := "loop.example/g01273/laws.FnExactSplitVector", spec := "fnExactSplitVector", inPlace := ["slices.overlaps[loop.example/g01273/impl.vector]", "slices.overlaps[int64]"], plainKeys := false, apart := false, narrowed := true }
def FnExactSplitVectorUptoSaid : Prop := fnExactSplitVectorUptoRow.holds Try.pinned (OpenSpec.upto fnExactSplitVectorSpec)

/-- 'laws.FnExactHomologyNumbers', WHERE WHAT IT READS IS OF BULK AT MOST 1048576: true; the input reads as it did. -/
def fnExactHomologyNumbersUptoRow : OpenClaim := { program := "ythfcadgbipnemaa", sum := "ae9f16282192173631d9b1cba29ab0e5dd1de541373f1b6b622709daa942f9f9", func := "loop.example/g01273/laws.FnExactHomologyNumbers", spec := "fnExactHomologyNumbers", inPlace := ["slices.overlaps[loop.example/g01273/impl.vector]"], plainKeys := false, apart := false, narrowed := true }
def FnExactHomologyNumbersUptoSaid : Prop := fnExactHomologyNumbersUptoRow.holds Try.pinned (OpenSpec.upto fnExactHomologyNumbersSpec)

/-- 'laws.FnExactPartOf', WHERE WHAT IT READS IS OF BULK AT MOST 1048576: true; the input reads as it did. -/
def fnExactPartOfUptoRow : OpenClaim := { program := "ythfcadgbipnemaa", sum := "ae9f16282192173631d9b1cba29ab0e5dd1de541373f1b6b622709daa942f9f9", func := "loop.example/g01273/laws.FnExactPartOf", spec := "fnExactPartOf", plainKeys := false, apart := false, narrowed := true }
def FnExactPartOfUptoSaid : Prop := fnExactPartOfUptoRow.holds Try.pinned (OpenSpec.upto fnExactPartOfSpec)

/-- 'laws.FnExactColumnOf', WHERE WHAT IT READS IS OF BULK AT MOST 1048576: true; the input reads as it did. -/
def fnExactColumnOfUptoRow : OpenClaim := { program := "ythfcadgbipnemaa", sum := "ae9f16282192173631d9b1cba29ab0e5dd1de541373f1b6b622709daa942f9f9", func := "loop.example/g01273/laws.FnExactColumnOf", spec := "fnExactColumnOf", unfollowed := true, recurses := true, plainKeys := false, apart := false, narrowed := true }
def FnExactColumnOfUptoSaid : Prop := fnExactColumnOfUptoRow.holds Try.pinned (OpenSpec.upto fnExactColumnOfSpec)

end Rows
end Go.Proofs.Ythfcadgbipnemaa
