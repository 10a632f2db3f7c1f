/-
  No cell of these rows narrows 'for every input' (looked for: loops, veiled, ifaces, maps, wideKeys, modest, calm, conditions, laid).
  DERIVED. THE GIVEN ROWS OF THIS SEAT. 20 by the template 'for every input the law returns true; each argument reads behind the call as it read before'; 0 by the template 'total and deterministic' (their statements: YtpdkfidmmjlmnaaTotals.lean).
  GIVEN WITH THE SEED: the statements are not yours to turn. If you find one false, say at which input.
  Laid BY PROGRAM, IN A SANDBOX (cutbox-rows.mjs): the forced cells as the released guide's own fill.sh prints them over the translation 9312127edae83ab2… (all of the seat's roots in one cut). By AI agents, Wed Nov 11 2026. No macro, syntax, notation, axiom, sorry.
-/
import Derived.Test.YtpdkfidmmjlmnaaChecked
import GoSem.Claim
import GoSem.ClaimJoined
import GoSem.ClaimMapViews
import Derived.JoinedTies
import Derived.KernelRfl
namespace Go.Proofs.Ytpdkfidmmjlmnaa
/- THE CELL 'sum', in the pinned program and in every row, IS THE sha256 OF THE DUMP (.gsa) THAT YtpdkfidmmjlmnaaProg.lean LOADS. Nothing in Lean hashes anything: it is a label: what it is worth is what the hold of that sum in a sandbox is worth. -/
noncomputable def Try.pinned : Pinned := { name := "ytpdkfidmmjlmnaa", sum := "9312127edae83ab29b215ce5fe44388ca7c2fcdbda33e5f79bfe888ea4c279d7", checked := Try.checked }
namespace Rows
def none {H : Type} : Left H := { results := [], args := [] }

/-- 'laws.FnExactIsComplex': WHATEVER THE INPUT: true; the input reads as it did. -/
def fnExactIsComplexSpec : ChangeSpec := { name := "fnExactIsComplex", fn := fun _ => fun
  | [d] => { results := [.lit (.bool true)], args := [d] }
  | _ => none }
def fnExactIsComplexRow : OpenClaim := { program := "ytpdkfidmmjlmnaa", sum := "9312127edae83ab29b215ce5fe44388ca7c2fcdbda33e5f79bfe888ea4c279d7", func := "loop.example/g01273/laws.FnExactIsComplex", spec := "fnExactIsComplex", plainKeys := false, apart := false }
def FnExactIsComplexSaid : Prop := fnExactIsComplexRow.holds Try.pinned (OpenSpec.ofChange fnExactIsComplexSpec)

/-- ITS FALSE NEIGHBOUR: 'it returns false'. Refute it at one input. -/
def fnExactIsComplexWrong : ChangeSpec := { name := "fnExactIsComplex", fn := fun _ => fun
  | [d] => { results := [.lit (.bool false)], args := [d] }
  | _ => none }
def FnExactIsComplexWrongFalsely : Prop := fnExactIsComplexRow.holds Try.pinned (OpenSpec.ofChange fnExactIsComplexWrong)

/-- 'laws.FnExactDifferentialOf': WHATEVER THE INPUT: true; the input reads as it did. -/
def fnExactDifferentialOfSpec : ChangeSpec := { name := "fnExactDifferentialOf", fn := fun _ => fun
  | [d1, d2, d3] => { results := [.lit (.bool true)], args := [d1, d2, d3] }
  | _ => none }
def fnExactDifferentialOfRow : OpenClaim := { program := "ytpdkfidmmjlmnaa", sum := "9312127edae83ab29b215ce5fe44388ca7c2fcdbda33e5f79bfe888ea4c279d7", func := "loop.example/g01273/laws.FnExactDifferentialOf", spec := "fnExactDifferentialOf", plainKeys := false, apart := false }
def FnExactDifferentialOfSaid : Prop := fnExactDifferentialOfRow.holds Try.pinned (OpenSpec.ofChange fnExactDifferentialOfSpec)

/-- ITS FALSE NEIGHBOUR: 'it returns false'. Refute it at one input. -/
def fnExactDifferentialOfWrong : ChangeSpec := { name := "fnExactDifferentialOf", fn := fun _ => fun
  | [d1, d2, d3] => { results := [.lit (.bool false)], args := [d1, d2, d3] }
  | _ => none }
def FnExactDifferentialOfWrongFalsely : Prop := fnExactDifferentialOfRow.holds Try.pinned (OpenSpec.ofChange fnExactDifferentialOfWrong)

/-- 'laws.FnExactEulerNumber': WHATEVER THE INPUT: true; the input reads as it did. -/
def fnExactEulerNumberSpec : ChangeSpec := { name := "fnExactEulerNumber", fn := fun _ => fun
  | [d] => { results := [.lit (.bool true)], args := [d] }
  | _ => none }
def fnExactEulerNumberRow : OpenClaim := { program := "ytpdkfidmmjlmnaa", sum := "9312127edae83ab29b215ce5fe44388ca7c2fcdbda33e5f79bfe888ea4c279d7", func := "loop.example/g01273/laws.FnExactEulerNumber", spec := "fnExactEulerNumber", plainKeys := false, apart := false }
def FnExactEulerNumberSaid : Prop := fnExactEulerNumberRow.holds Try.pinned (OpenSpec.ofChange fnExactEulerNumberSpec)

/-- ITS FALSE NEIGHBOUR: 'it returns false'. Refute it at one input. -/
def fnExactEulerNumberWrong : ChangeSpec := { name := "fnExactEulerNumber", fn := fun _ => fun
  | [d] => { results := [.lit (.bool false)], args := [d] }
  | _ => none }
def FnExactEulerNumberWrongFalsely : Prop := fnExactEulerNumberRow.holds Try.pinned (OpenSpec.ofChange fnExactEulerNumberWrong)

/-- 'laws.FnExactCyclesOf': WHATEVER THE INPUT: true; the input reads as it did. -/
def fnExactCyclesOfSpec : ChangeSpec := { name := "fnExactCyclesOf", fn := fun _ => fun
  | [d1, d2] => { results := [.lit (.bool true)], args := [d1, d2] }
  | _ => none }
def fnExactCyclesOfRow : OpenClaim := { program := "ytpdkfidmmjlmnaa", sum := "9312127edae83ab29b215ce5fe44388ca7c2fcdbda33e5f79bfe888ea4c279d7", func := "loop.example/g01273/laws.FnExactCyclesOf", spec := "fnExactCyclesOf", inPlace := ["slices.overlaps[loop.example/g01273/impl.vector]"], unfollowed := true, recurses := true, plainKeys := false, apart := false }
def FnExactCyclesOfSaid : Prop := fnExactCyclesOfRow.holds Try.pinned (OpenSpec.ofChange fnExactCyclesOfSpec)

/-- ITS FALSE NEIGHBOUR: 'it returns false'. Refute it at one input. -/
def fnExactCyclesOfWrong : ChangeSpec := { name := "fnExactCyclesOf", fn := fun _ => fun
  | [d1, d2] => { results := [.lit (.bool false)], args := [d1, d2] }
  | _ => none }
def FnExactCyclesOfWrongFalsely : Prop := fnExactCyclesOfRow.holds Try.pinned (OpenSpec.ofChange fnExactCyclesOfWrong)

/-- 'laws.FnExactBoundariesOf': WHATEVER THE INPUT: true; the input reads as it did. -/
def fnExactBoundariesOfSpec : ChangeSpec := { name := "fnExactBoundariesOf", fn := fun _ => fun
  | [d1, d2] => { results := [.lit (.bool true)], args := [d1, d2] }
  | _ => none }
def fnExactBoundariesOfRow : OpenClaim := { program := "ytpdkfidmmjlmnaa", sum := "9312127edae83ab29b215ce5fe44388ca7c2fcdbda33e5f79bfe888ea4c279d7", func := "loop.example/g01273/laws.FnExactBoundariesOf", spec := "fnExactBoundariesOf", inPlace := ["slices.overlaps[loop.example/g01273/impl.vector]"], unfollowed := true, recurses := true, plainKeys := false, apart := false }
def FnExactBoundariesOfSaid : Prop := fnExactBoundariesOfRow.holds Try.pinned (OpenSpec.ofChange fnExactBoundariesOfSpec)

/-- ITS FALSE NEIGHBOUR: 'it returns false'. Refute it at one input. -/
def fnExactBoundariesOfWrong : ChangeSpec := { name := "fnExactBoundariesOf", fn := fun _ => fun
  | [d1, d2] => { results := [.lit (.bool false)], args := [d1, d2] }
  | _ => none }
def FnExactBoundariesOfWrongFalsely : Prop := fnExactBoundariesOfRow.holds Try.pinned (OpenSpec.ofChange fnExactBoundariesOfWrong)

/-- 'laws.FnExactHomologyList': WHATEVER THE INPUT: true; the input reads as it did. -/
def fnExactHomologyListSpec : ChangeSpec := { name := "fnExactHomologyList", fn := fun _ => fun
  | [d1, d2] => { results := [.lit (.bool true)], args := [d1, d2] }
  | _ => none }
def fnExactHomologyListRow : OpenClaim := { program := "ytpdkfidmmjlmnaa", sum := "9312127edae83ab29b215ce5fe44388ca7c2fcdbda33e5f79bfe888ea4c279d7", func := "loop.example/g01273/laws.FnExactHomologyList", spec := "fnExactHomologyList", inPlace := ["slices.overlaps[loop.example/g01273/impl.vector]"], unfollowed := true, recurses := true, plainKeys := false, apart := false }
def FnExactHomologyListSaid : Prop := fnExactHomologyListRow.holds Try.pinned (OpenSpec.ofChange fnExactHomologyListSpec)

/-- ITS FALSE NEIGHBOUR: 'it returns false'. Refute it at one input. -/
def fnExactHomologyListWrong : ChangeSpec := { name := "fnExactHomologyList", fn := fun _ => fun
  | [d1, d2] => { results := [.lit (.bool false)], args := [d1, d2] }
  | _ => none }
def FnExactHomologyListWrongFalsely : Prop := fnExactHomologyListRow.holds Try.pinned (OpenSpec.ofChange fnExactHomologyListWrong)

/-- 'laws.FnExactIsExactAt': WHATEVER THE INPUT: true; the input reads as it did. -/
def fnExactIsExactAtSpec : ChangeSpec := { name := "fnExactIsExactAt", fn := fun _ => fun
  | [d1, d2] => { results := [.lit (.bool true)], args := [d1, d2] }
  | _ => none }
def fnExactIsExactAtRow : OpenClaim := { program := "ytpdkfidmmjlmnaa", sum := "9312127edae83ab29b215ce5fe44388ca7c2fcdbda33e5f79bfe888ea4c279d7", func := "loop.example/g01273/laws.FnExactIsExactAt", spec := "fnExactIsExactAt", inPlace := ["slices.overlaps[loop.example/g01273/impl.vector]"], plainKeys := false, apart := false }
def FnExactIsExactAtSaid : Prop := fnExactIsExactAtRow.holds Try.pinned (OpenSpec.ofChange fnExactIsExactAtSpec)

/-- ITS FALSE NEIGHBOUR: 'it returns false'. Refute it at one input. -/
def fnExactIsExactAtWrong : ChangeSpec := { name := "fnExactIsExactAt", fn := fun _ => fun
  | [d1, d2] => { results := [.lit (.bool false)], args := [d1, d2] }
  | _ => none }
def FnExactIsExactAtWrongFalsely : Prop := fnExactIsExactAtRow.holds Try.pinned (OpenSpec.ofChange fnExactIsExactAtWrong)

/-- 'laws.FnExactReduceRows': WHATEVER THE INPUT: true; the input reads as it did. -/
def fnExactReduceRowsSpec : ChangeSpec := { name := "fnExactReduceRows", fn := fun _ => fun
  | [d1, d2, d3] => { results := [.lit (.bool true)], args := [d1, d2, d3] }
  | _ => none }
def fnExactReduceRowsRow : OpenClaim := { program := "ytpdkfidmmjlmnaa", sum := "9312127edae83ab29b215ce5fe44388ca7c2fcdbda33e5f79bfe888ea4c279d7", func := "loop.example/g01273/laws.FnExactReduceRows", spec := "fnExactReduceRows", inPlace := ["slices.overlaps[loop.example/g01273/impl.vector]"], plainKeys := false, apart := false }
def FnExactReduceRowsSaid : Prop := fnExactReduceRowsRow.holds Try.pinned (OpenSpec.ofChange fnExactReduceRowsSpec)

/-- ITS FALSE NEIGHBOUR: 'it returns false'. Refute it at one input. -/
def fnExactReduceRowsWrong : ChangeSpec := { name := "fnExactReduceRows", fn := fun _ => fun
  | [d1, d2, d3] => { results := [.lit (.bool false)], args := [d1, d2, d3] }
  | _ => none }
def FnExactReduceRowsWrongFalsely : Prop := fnExactReduceRowsRow.holds Try.pinned (OpenSpec.ofChange fnExactReduceRowsWrong)

/-- 'laws.FnExactSumOfSpaces': WHATEVER THE INPUT: true; the input reads as it did. -/
def fnExactSumOfSpacesSpec : ChangeSpec := { name := "fnExactSumOfSpaces", fn := fun _ => fun
  | [d1, d2, d3, d4] => { results := [.lit (.bool true)], args := [d1, d2, d3, d4] }
  | _ => none }
def fnExactSumOfSpacesRow : OpenClaim := { program := "ytpdkfidmmjlmnaa", sum := "9312127edae83ab29b215ce5fe44388ca7c2fcdbda33e5f79bfe888ea4c279d7", func := "loop.example/g01273/laws.FnExactSumOfSpaces", spec := "fnExactSumOfSpaces", inPlace := ["slices.overlaps[loop.example/g01273/impl.vector]"], plainKeys := false, apart := false }
def FnExactSumOfSpacesSaid : Prop := fnExactSumOfSpacesRow.holds Try.pinned (OpenSpec.ofChange fnExactSumOfSpacesSpec)

/-- ITS FALSE NEIGHBOUR: 'it returns false'. Refute it at one input. -/
def fnExactSumOfSpacesWrong : ChangeSpec := { name := "fnExactSumOfSpaces", fn := fun _ => fun
  | [d1, d2, d3, d4] => { results := [.lit (.bool false)], args := [d1, d2, d3, d4] }
  | _ => none }
def FnExactSumOfSpacesWrongFalsely : Prop := fnExactSumOfSpacesRow.holds Try.pinned (OpenSpec.ofChange fnExactSumOfSpacesWrong)

/-- 'laws.FnExactMeetOfSpaces': WHATEVER THE INPUT: true; the input reads as it did. -/
def fnExactMeetOfSpacesSpec : ChangeSpec := { name := "fnExactMeetOfSpaces", fn := fun _ => fun
  | [d1, d2, d3, d4] => { results := [.lit (.bool true)], args := [d1, d2, d3, d4] }
  | _ => none }
def fnExactMeetOfSpacesRow : OpenClaim := { program := "ytpdkfidmmjlmnaa", sum := "9312127edae83ab29b215ce5fe44388ca7c2fcdbda33e5f79bfe888ea4c279d7", func := "loop.example/g01273/laws.FnExactMeetOfSpaces", spec := "fnExactMeetOfSpaces", inPlace := ["slices.overlaps[loop.example/g01273/impl.vector]"], plainKeys := false, apart := false }
def FnExactMeetOfSpacesSaid : Prop := fnExactMeetOfSpacesRow.holds Try.pinned (OpenSpec.ofChange fnExactMeetOfSpacesSpec)

/-- ITS FALSE NEIGHBOUR: 'it returns false'. Refute it at one input. -/
def fnExactMeetOfSpacesWrong : ChangeSpec := { name := "fnExactMeetOfSpaces", fn := fun _ => fun
  | [d1, d2, d3, d4] => { results := [.lit (.bool false)], args := [d1, d2, d3, d4] }
  | _ => none }
def FnExactMeetOfSpacesWrongFalsely : Prop := fnExactMeetOfSpacesRow.holds Try.pinned (OpenSpec.ofChange fnExactMeetOfSpacesWrong)

/-- 'laws.FnExactAddComplexes': WHATEVER THE INPUT: true; the input reads as it did. -/
def fnExactAddComplexesSpec : ChangeSpec := { name := "fnExactAddComplexes", fn := fun _ => fun
  | [d1, d2] => { results := [.lit (.bool true)], args := [d1, d2] }
  | _ => none }
def fnExactAddComplexesRow : OpenClaim := { program := "ytpdkfidmmjlmnaa", sum := "9312127edae83ab29b215ce5fe44388ca7c2fcdbda33e5f79bfe888ea4c279d7", func := "loop.example/g01273/laws.FnExactAddComplexes", spec := "fnExactAddComplexes", plainKeys := false, apart := false }
def FnExactAddComplexesSaid : Prop := fnExactAddComplexesRow.holds Try.pinned (OpenSpec.ofChange fnExactAddComplexesSpec)

/-- ITS FALSE NEIGHBOUR: 'it returns false'. Refute it at one input. -/
def fnExactAddComplexesWrong : ChangeSpec := { name := "fnExactAddComplexes", fn := fun _ => fun
  | [d1, d2] => { results := [.lit (.bool false)], args := [d1, d2] }
  | _ => none }
def FnExactAddComplexesWrongFalsely : Prop := fnExactAddComplexesRow.holds Try.pinned (OpenSpec.ofChange fnExactAddComplexesWrong)

/-- 'laws.FnExactShiftComplex': WHATEVER THE INPUT: true; the input reads as it did. -/
def fnExactShiftComplexSpec : ChangeSpec := { name := "fnExactShiftComplex", fn := fun _ => fun
  | [d1, d2] => { results := [.lit (.bool true)], args := [d1, d2] }
  | _ => none }
def fnExactShiftComplexRow : OpenClaim := { program := "ytpdkfidmmjlmnaa", sum := "9312127edae83ab29b215ce5fe44388ca7c2fcdbda33e5f79bfe888ea4c279d7", func := "loop.example/g01273/laws.FnExactShiftComplex", spec := "fnExactShiftComplex", plainKeys := false, apart := false }
def FnExactShiftComplexSaid : Prop := fnExactShiftComplexRow.holds Try.pinned (OpenSpec.ofChange fnExactShiftComplexSpec)

/-- ITS FALSE NEIGHBOUR: 'it returns false'. Refute it at one input. -/
def fnExactShiftComplexWrong : ChangeSpec := { name := "fnExactShiftComplex", fn := fun _ => fun
  | [d1, d2] => { results := [.lit (.bool false)], args := [d1, d2] }
  | _ => none }
def FnExactShiftComplexWrongFalsely : Prop := fnExactShiftComplexRow.holds Try.pinned (OpenSpec.ofChange fnExactShiftComplexWrong)

/-- 'laws.FnExactDualComplex': WHATEVER THE INPUT: true; the input reads as it did. -/
def fnExactDualComplexSpec : ChangeSpec := { name := "fnExactDualComplex", fn := fun _ => fun
  | [d] => { results := [.lit (.bool true)], args := [d] }
  | _ => none }
def fnExactDualComplexRow : OpenClaim := { program := "ytpdkfidmmjlmnaa", sum := "9312127edae83ab29b215ce5fe44388ca7c2fcdbda33e5f79bfe888ea4c279d7", func := "loop.example/g01273/laws.FnExactDualComplex", spec := "fnExactDualComplex", plainKeys := false, apart := false }
def FnExactDualComplexSaid : Prop := fnExactDualComplexRow.holds Try.pinned (OpenSpec.ofChange fnExactDualComplexSpec)

/-- ITS FALSE NEIGHBOUR: 'it returns false'. Refute it at one input. -/
def fnExactDualComplexWrong : ChangeSpec := { name := "fnExactDualComplex", fn := fun _ => fun
  | [d] => { results := [.lit (.bool false)], args := [d] }
  | _ => none }
def FnExactDualComplexWrongFalsely : Prop := fnExactDualComplexRow.holds Try.pinned (OpenSpec.ofChange fnExactDualComplexWrong)

/-- 'laws.FnExactTensorDims': WHATEVER THE INPUT: true; the input reads as it did. -/
def fnExactTensorDimsSpec : ChangeSpec := { name := "fnExactTensorDims", fn := fun _ => fun
  | [d1, d2] => { results := [.lit (.bool true)], args := [d1, d2] }
  | _ => none }
def fnExactTensorDimsRow : OpenClaim := { program := "ytpdkfidmmjlmnaa", sum := "9312127edae83ab29b215ce5fe44388ca7c2fcdbda33e5f79bfe888ea4c279d7", func := "loop.example/g01273/laws.FnExactTensorDims", spec := "fnExactTensorDims", unfollowed := true, recurses := true, plainKeys := false, apart := false }
def FnExactTensorDimsSaid : Prop := fnExactTensorDimsRow.holds Try.pinned (OpenSpec.ofChange fnExactTensorDimsSpec)

/-- ITS FALSE NEIGHBOUR: 'it returns false'. Refute it at one input. -/
def fnExactTensorDimsWrong : ChangeSpec := { name := "fnExactTensorDims", fn := fun _ => fun
  | [d1, d2] => { results := [.lit (.bool false)], args := [d1, d2] }
  | _ => none }
def FnExactTensorDimsWrongFalsely : Prop := fnExactTensorDimsRow.holds Try.pinned (OpenSpec.ofChange fnExactTensorDimsWrong)

/-- 'laws.FnExactPlaceOfPair': WHATEVER THE INPUT: true; the input reads as it did. -/
def fnExactPlaceOfPairSpec : ChangeSpec := { name := "fnExactPlaceOfPair", fn := fun _ => fun
  | [d1, d2, d3, d4, d5, d6] => { results := [.lit (.bool true)], args := [d1, d2, d3, d4, d5, d6] }
  | _ => none }
def fnExactPlaceOfPairRow : OpenClaim := { program := "ytpdkfidmmjlmnaa", sum := "9312127edae83ab29b215ce5fe44388ca7c2fcdbda33e5f79bfe888ea4c279d7", func := "loop.example/g01273/laws.FnExactPlaceOfPair", spec := "fnExactPlaceOfPair", plainKeys := false, apart := false }
def FnExactPlaceOfPairSaid : Prop := fnExactPlaceOfPairRow.holds Try.pinned (OpenSpec.ofChange fnExactPlaceOfPairSpec)

/-- ITS FALSE NEIGHBOUR: 'it returns false'. Refute it at one input. -/
def fnExactPlaceOfPairWrong : ChangeSpec := { name := "fnExactPlaceOfPair", fn := fun _ => fun
  | [d1, d2, d3, d4, d5, d6] => { results := [.lit (.bool false)], args := [d1, d2, d3, d4, d5, d6] }
  | _ => none }
def FnExactPlaceOfPairWrongFalsely : Prop := fnExactPlaceOfPairRow.holds Try.pinned (OpenSpec.ofChange fnExactPlaceOfPairWrong)

/-- 'laws.FnExactKuennethNumber': WHATEVER THE INPUT: true; the input reads as it did. -/
def fnExactKuennethNumberSpec : ChangeSpec := { name := "fnExactKuennethNumber", fn := fun _ => fun
  | [d1, d2, d3] => { results := [.lit (.bool true)], args := [d1, d2, d3] }
  | _ => none }
def fnExactKuennethNumberRow : OpenClaim := { program := "ytpdkfidmmjlmnaa", sum := "9312127edae83ab29b215ce5fe44388ca7c2fcdbda33e5f79bfe888ea4c279d7", func := "loop.example/g01273/laws.FnExactKuennethNumber", spec := "fnExactKuennethNumber", inPlace := ["slices.overlaps[loop.example/g01273/impl.vector]"], unfollowed := true, recurses := true, plainKeys := false, apart := false }
def FnExactKuennethNumberSaid : Prop := fnExactKuennethNumberRow.holds Try.pinned (OpenSpec.ofChange fnExactKuennethNumberSpec)

/-- ITS FALSE NEIGHBOUR: 'it returns false'. Refute it at one input. -/
def fnExactKuennethNumberWrong : ChangeSpec := { name := "fnExactKuennethNumber", fn := fun _ => fun
  | [d1, d2, d3] => { results := [.lit (.bool false)], args := [d1, d2, d3] }
  | _ => none }
def FnExactKuennethNumberWrongFalsely : Prop := fnExactKuennethNumberRow.holds Try.pinned (OpenSpec.ofChange fnExactKuennethNumberWrong)

/-- 'laws.FnExactSphereComplex': WHATEVER THE INPUT: true; the input reads as it did. -/
def fnExactSphereComplexSpec : ChangeSpec := { name := "fnExactSphereComplex", fn := fun _ => fun
  | [d1, d2] => { results := [.lit (.bool true)], args := [d1, d2] }
  | _ => none }
def fnExactSphereComplexRow : OpenClaim := { program := "ytpdkfidmmjlmnaa", sum := "9312127edae83ab29b215ce5fe44388ca7c2fcdbda33e5f79bfe888ea4c279d7", func := "loop.example/g01273/laws.FnExactSphereComplex", spec := "fnExactSphereComplex", plainKeys := false, apart := false }
def FnExactSphereComplexSaid : Prop := fnExactSphereComplexRow.holds Try.pinned (OpenSpec.ofChange fnExactSphereComplexSpec)

/-- ITS FALSE NEIGHBOUR: 'it returns false'. Refute it at one input. -/
def fnExactSphereComplexWrong : ChangeSpec := { name := "fnExactSphereComplex", fn := fun _ => fun
  | [d1, d2] => { results := [.lit (.bool false)], args := [d1, d2] }
  | _ => none }
def FnExactSphereComplexWrongFalsely : Prop := fnExactSphereComplexRow.holds Try.pinned (OpenSpec.ofChange fnExactSphereComplexWrong)

/-- 'laws.FnExactIdentityMap': WHATEVER THE INPUT: true; the input reads as it did. -/
def fnExactIdentityMapSpec : ChangeSpec := { name := "fnExactIdentityMap", fn := fun _ => fun
  | [d] => { results := [.lit (.bool true)], args := [d] }
  | _ => none }
def fnExactIdentityMapRow : OpenClaim := { program := "ytpdkfidmmjlmnaa", sum := "9312127edae83ab29b215ce5fe44388ca7c2fcdbda33e5f79bfe888ea4c279d7", func := "loop.example/g01273/laws.FnExactIdentityMap", spec := "fnExactIdentityMap", plainKeys := false, apart := false }
def FnExactIdentityMapSaid : Prop := fnExactIdentityMapRow.holds Try.pinned (OpenSpec.ofChange fnExactIdentityMapSpec)

/-- ITS FALSE NEIGHBOUR: 'it returns false'. Refute it at one input. -/
def fnExactIdentityMapWrong : ChangeSpec := { name := "fnExactIdentityMap", fn := fun _ => fun
  | [d] => { results := [.lit (.bool false)], args := [d] }
  | _ => none }
def FnExactIdentityMapWrongFalsely : Prop := fnExactIdentityMapRow.holds Try.pinned (OpenSpec.ofChange fnExactIdentityMapWrong)

/-- 'laws.FnExactZeroFamily': WHATEVER THE INPUT: true; the input reads as it did. -/
def fnExactZeroFamilySpec : ChangeSpec := { name := "fnExactZeroFamily", fn := fun _ => fun
  | [d1, d2, d3] => { results := [.lit (.bool true)], args := [d1, d2, d3] }
  | _ => none }
def fnExactZeroFamilyRow : OpenClaim := { program := "ytpdkfidmmjlmnaa", sum := "9312127edae83ab29b215ce5fe44388ca7c2fcdbda33e5f79bfe888ea4c279d7", func := "loop.example/g01273/laws.FnExactZeroFamily", spec := "fnExactZeroFamily", plainKeys := false, apart := false }
def FnExactZeroFamilySaid : Prop := fnExactZeroFamilyRow.holds Try.pinned (OpenSpec.ofChange fnExactZeroFamilySpec)

/-- ITS FALSE NEIGHBOUR: 'it returns false'. Refute it at one input. -/
def fnExactZeroFamilyWrong : ChangeSpec := { name := "fnExactZeroFamily", fn := fun _ => fun
  | [d1, d2, d3] => { results := [.lit (.bool false)], args := [d1, d2, d3] }
  | _ => none }
def FnExactZeroFamilyWrongFalsely : Prop := fnExactZeroFamilyRow.holds Try.pinned (OpenSpec.ofChange fnExactZeroFamilyWrong)

/-- 'laws.FnExactPowerComplex': WHATEVER THE INPUT: true; the input reads as it did. -/
def fnExactPowerComplexSpec : ChangeSpec := { name := "fnExactPowerComplex", fn := fun _ => fun
  | [d1, d2] => { results := [.lit (.bool true)], args := [d1, d2] }
  | _ => none }
def fnExactPowerComplexRow : OpenClaim := { program := "ytpdkfidmmjlmnaa", sum := "9312127edae83ab29b215ce5fe44388ca7c2fcdbda33e5f79bfe888ea4c279d7", func := "loop.example/g01273/laws.FnExactPowerComplex", spec := "fnExactPowerComplex", unfollowed := true, recurses := true, plainKeys := false, apart := false }
def FnExactPowerComplexSaid : Prop := fnExactPowerComplexRow.holds Try.pinned (OpenSpec.ofChange fnExactPowerComplexSpec)

/-- ITS FALSE NEIGHBOUR: 'it returns false'. Refute it at one input. -/
def fnExactPowerComplexWrong : ChangeSpec := { name := "fnExactPowerComplex", fn := fun _ => fun
  | [d1, d2] => { results := [.lit (.bool false)], args := [d1, d2] }
  | _ => none }
def FnExactPowerComplexWrongFalsely : Prop := fnExactPowerComplexRow.holds Try.pinned (OpenSpec.ofChange fnExactPowerComplexWrong)

/- THE SECOND FORM. 'bulk': how many values and letters a reading holds, each counted each time it is reached (what is shared counts as often as it is met; a slice's spare places count too). A statement '..UptoSaid' is the law's where the arguments, and the package variables that the reading takes, are together of bulk at most 1048576: NARROWER than '..Said'. Prove '..Said' where nothing that the law and all that it calls make is longer than what came in: it says more and counts as full. Else prove '..UptoSaid'. A law counts once. -/
mutual
def uptoBulk {H : Type} : DataW H → Nat
  | .lit (.string bytes) => bytes.length + 1
  | .lit _ => 1
  | .nil => 1
  | .ptr d => uptoBulk d + 1
  | .slice elems spare => uptoBulkAll elems + uptoBulkAll spare + 1
  | .agg parts => uptoBulkAll parts + 1
  | .iface _ d => uptoBulk d + 1
  | .map entries => uptoBulkEntries entries + 1
  | .held _ => 1
def uptoBulkAll {H : Type} : List (DataW H) → Nat
  | [] => 0
  | d :: r => uptoBulk d + uptoBulkAll r
def uptoBulkEntries {H : Type} : List (Lit × DataW H) → Nat
  | [] => 0
  | x :: r => uptoBulkEntry x + uptoBulkEntries r
def uptoBulkEntry {H : Type} : Lit × DataW H → Nat
  | (.string bytes, d) => bytes.length + uptoBulk d + 1
  | (_, d) => uptoBulk d + 1
 end
def uptoSmall : (H : Type) → List (DataW H) → Bool := fun _ ds => decide (uptoBulkAll ds ≤ 1048576)
def OpenSpec.upto (s : _root_.Go.ChangeSpec) : _root_.Go.OpenSpec := { _root_.Go.OpenSpec.ofChange s with cond := some uptoSmall }

/-- 'laws.FnExactIsComplex', WHERE WHAT IT READS IS OF BULK AT MOST 1048576: true; the input reads as it did. -/
def fnExactIsComplexUptoRow : OpenClaim := { program := "ytpdkfidmmjlmnaa", sum := "9312127edae83ab29b215ce5fe44388ca7c2fcdbda33e5f79bfe888ea4c279d7", func := "loop.example/g01273/laws.FnExactIsComplex", spec := "fnExactIsComplex", plainKeys := false, apart := false, narrowed := true }
def FnExactIsComplexUptoSaid : Prop := fnExactIsComplexUptoRow.holds Try.pinned (OpenSpec.upto fnExactIsComplexSpec)

/-- 'laws.FnExactDifferentialOf', WHERE WHAT IT READS IS OF BULK AT MOST 1048576: true; the input reads as it did. -/
def fnExactDifferentialOfUptoRow : OpenClaim := { program := "ytpdkfidmmjlmnaa", sum := "9312127edae83ab29b215ce5fe44388ca7c2fcdbda33e5f79bfe888ea4c279d7", func := "loop.example/g01273/laws.FnExactDifferentialOf", spec := "fnExactDifferentialOf", plainKeys := false, apart := false, narrowed := true }
def FnExactDifferentialOfUptoSaid : Prop := fnExactDifferentialOfUptoRow.holds Try.pinned (OpenSpec.upto fnExactDifferentialOfSpec)

/-- 'laws.FnExactEulerNumber', WHERE WHAT IT READS IS OF BULK AT MOST 1048576: true; the input reads as it did. -/
def fnExactEulerNumberUptoRow : OpenClaim := { program := "ytpdkfidmmjlmnaa", sum := "9312127edae83ab29b215ce5fe44388ca7c2fcdbda33e5f79bfe888ea4c279d7", func := "loop.example/g01273/laws.FnExactEulerNumber", spec := "fnExactEulerNumber", plainKeys := false, apart := false, narrowed := true }
def FnExactEulerNumberUptoSaid : Prop := fnExactEulerNumberUptoRow.holds Try.pinned (OpenSpec.upto fnExactEulerNumberSpec)

/-- 'laws.FnExactCyclesOf', WHERE WHAT IT READS IS OF BULK AT MOST 1048576: true; the input reads as it did. -/
def fnExactCyclesOfUptoRow : OpenClaim := { program := "ytpdkfidmmjlmnaa", sum := "9312127edae83ab29b215ce5fe44388ca7c2fcdbda33e5f79bfe888ea4c279d7", func := "loop.example/g01273/laws.FnExactCyclesOf", spec := "fnExactCyclesOf", inPlace := ["slices.overlaps[loop.example/g01273/impl.vector]"], unfollowed := true, recurses := true, plainKeys := false, apart := false, narrowed := true }
def FnExactCyclesOfUptoSaid : Prop := fnExactCyclesOfUptoRow.holds Try.pinned (OpenSpec.upto fnExactCyclesOfSpec)

/-- 'laws.FnExactBoundariesOf', WHERE WHAT IT READS IS OF BULK AT MOST 1048576: true; the input reads as it did. -/
def fnExactBoundariesOfUptoRow : OpenClaim := { program := "ytpdkfidmmjlmnaa", sum := "9312127edae83ab29b215ce5fe44388ca7c2fcdbda33e5f79bfe888ea4c279d7", func := "loop.example/g01273/laws.FnExactBoundariesOf", spec := "fnExactBoundariesOf", inPlace := ["slices.overlaps[loop.example/g01273/impl.vector]"], unfollowed := true, recurses := true, plainKeys := false, apart := false, narrowed := true }
def FnExactBoundariesOfUptoSaid : Prop := fnExactBoundariesOfUptoRow.holds Try.pinned (OpenSpec.upto fnExactBoundariesOfSpec)

/-- 'laws.FnExactHomologyList', WHERE WHAT IT READS IS OF BULK AT MOST 1048576: true; the input reads as it did. -/
def fnExactHomologyListUptoRow : OpenClaim := { program := "ytpdkfidmmjlmnaa", sum := "9312127edae83ab29b215ce5fe44388ca7c2fcdbda33e5f79bfe888ea4c279d7", func := "loop.example/g01273/laws.FnExactHomologyList", spec := "fnExactHomologyList", inPlace := ["slices.overlaps[loop.example/g01273/impl.vector]"], unfollowed := true, recurses := true, plainKeys := false, apart := false, narrowed := true }
def FnExactHomologyListUptoSaid : Prop := fnExactHomologyListUptoRow.holds Try.pinned (OpenSpec.upto fnExactHomologyListSpec)

/-- 'laws.FnExactIsExactAt', WHERE WHAT IT READS IS OF BULK AT MOST 1048576: true; the input reads as it did. -/
def fnExactIsExactAtUptoRow : OpenClaim := { program := "ytpdkfidmmjlmnaa", sum := "9312127edae83ab29b215ce5fe44388ca7c2fcdbda33e5f79bfe888ea4c279d7", func := "loop.example/g01273/laws.FnExactIsExactAt", spec := "fnExactIsExactAt", inPlace := ["slices.overlaps[loop.example/g01273/impl.vector]"], plainKeys := false, apart := false, narrowed := true }
def FnExactIsExactAtUptoSaid : Prop := fnExactIsExactAtUptoRow.holds Try.pinned (OpenSpec.upto fnExactIsExactAtSpec)

/-- 'laws.FnExactReduceRows', WHERE WHAT IT READS IS OF BULK AT MOST 1048576: true; the input reads as it did. -/
def fnExactReduceRowsUptoRow : OpenClaim := { program := "ytpdkfidmmjlmnaa", sum := "9312127edae83ab29b215ce5fe44388ca7c2fcdbda33e5f79bfe888ea4c279d7", func := "loop.example/g01273/laws.FnExactReduceRows", spec := "fnExactReduceRows", inPlace := ["slices.overlaps[loop.example/g01273/impl.vector]"], plainKeys := false, apart := false, narrowed := true }
def FnExactReduceRowsUptoSaid : Prop := fnExactReduceRowsUptoRow.holds Try.pinned (OpenSpec.upto fnExactReduceRowsSpec)

/-- 'laws.FnExactSumOfSpaces', WHERE WHAT IT READS IS OF BULK AT MOST 1048576: true; the input reads as it did. -/
def fnExactSumOfSpacesUptoRow : OpenClaim := { program := "ytpdkfidmmjlmnaa", sum := "9312127edae83ab29b215ce5fe44388ca7c2fcdbda33e5f79bfe888ea4c279d7", func := "loop.example/g01273/laws.FnExactSumOfSpaces", spec := "fnExactSumOfSpaces", inPlace := ["slices.overlaps[loop.example/g01273/impl.vector]"], plainKeys := false, apart := false, narrowed := true }
def FnExactSumOfSpacesUptoSaid : Prop := fnExactSumOfSpacesUptoRow.holds Try.pinned (OpenSpec.upto fnExactSumOfSpacesSpec)

/-- 'laws.FnExactMeetOfSpaces', WHERE WHAT IT READS IS OF BULK AT MOST 1048576: true; the input reads as it did. -/
def fnExactMeetOfSpacesUptoRow : OpenClaim := { program := "ytpdkfidmmjlmnaa", sum := "9312127edae83ab29b215ce5fe44388ca7c2fcdbda33e5f79bfe888ea4c279d7", func := "loop.example/g01273/laws.FnExactMeetOfSpaces", spec := "fnExactMeetOfSpaces", inPlace := ["slices.overlaps[loop.example/g01273/impl.vector]"], plainKeys := false, apart := false, narrowed := true }
def FnExactMeetOfSpacesUptoSaid : Prop := fnExactMeetOfSpacesUptoRow.holds Try.pinned (OpenSpec.upto fnExactMeetOfSpacesSpec)

/-- 'laws.FnExactAddComplexes', WHERE WHAT IT READS IS OF BULK AT MOST 1048576: true; the input reads as it did. -/
def fnExactAddComplexesUptoRow : OpenClaim := { program := "ytpdkfidmmjlmnaa", sum := "9312127edae83ab29b215ce5fe44388ca7c2fcdbda33e5f79bfe888ea4c279d7", func := "loop.example/g01273/laws.FnExactAddComplexes", spec := "fnExactAddComplexes", plainKeys := false, apart := false, narrowed := true }
def FnExactAddComplexesUptoSaid : Prop := fnExactAddComplexesUptoRow.holds Try.pinned (OpenSpec.upto fnExactAddComplexesSpec)

/-- 'laws.FnExactShiftComplex', WHERE WHAT IT READS IS OF BULK AT MOST 1048576: true; the input reads as it did. -/
def fnExactShiftComplexUptoRow : OpenClaim := { program := "ytpdkfidmmjlmnaa", sum := "9312127edae83ab29b215ce5fe44388ca7c2fcdbda33e5f79bfe888ea4c279d7", func := "loop.example/g01273/laws.FnExactShiftComplex", spec := "fnExactShiftComplex", plainKeys := false, apart := false, narrowed := true }
def FnExactShiftComplexUptoSaid : Prop := fnExactShiftComplexUptoRow.holds Try.pinned (OpenSpec.upto fnExactShiftComplexSpec)

/-- 'laws.FnExactDualComplex', WHERE WHAT IT READS IS OF BULK AT MOST 1048576: true; the input reads as it did. -/
def fnExactDualComplexUptoRow : OpenClaim := { program := "ytpdkfidmmjlmnaa", sum := "9312127edae83ab29b215ce5fe44388ca7c2fcdbda33e5f79bfe888ea4c279d7", func := "loop.example/g01273/laws.FnExactDualComplex", spec := "fnExactDualComplex", plainKeys := false, apart := false, narrowed := true }
def FnExactDualComplexUptoSaid : Prop := fnExactDualComplexUptoRow.holds Try.pinned (OpenSpec.upto fnExactDualComplexSpec)

/-- 'laws.FnExactTensorDims', WHERE WHAT IT READS IS OF BULK AT MOST 1048576: true; the input reads as it did. -/
def fnExactTensorDimsUptoRow : OpenClaim := { program := "ytpdkfidmmjlmnaa", sum := "9312127edae83ab29b215ce5fe44388ca7c2fcdbda33e5f79bfe888ea4c279d7", func := "loop.example/g01273/laws.FnExactTensorDims", spec := "fnExactTensorDims", unfollowed := true, recurses := true, plainKeys := false, apart := false, narrowed := true }
def FnExactTensorDimsUptoSaid : Prop := fnExactTensorDimsUptoRow.holds Try.pinned (OpenSpec.upto fnExactTensorDimsSpec)

/-- 'laws.FnExactPlaceOfPair', WHERE WHAT IT READS IS OF BULK AT MOST 1048576: true; the input reads as it did. -/
def fnExactPlaceOfPairUptoRow : OpenClaim := { program := "ytpdkfidmmjlmnaa", sum := "9312127edae83ab29b215ce5fe44388ca7c2fcdbda33e5f79bfe888ea4c279d7", func := "loop.example/g01273/laws.FnExactPlaceOfPair", spec := "fnExactPlaceOfPair", plainKeys := false, apart := false, narrowed := true }
def FnExactPlaceOfPairUptoSaid : Prop := fnExactPlaceOfPairUptoRow.holds Try.pinned (OpenSpec.upto fnExactPlaceOfPairSpec)

/-- 'laws.FnExactKuennethNumber', WHERE WHAT IT READS IS OF BULK AT MOST 1048576: true; the input reads as it did. -/
def fnExactKuennethNumberUptoRow : OpenClaim := { program := "ytpdkfidmmjlmnaa", sum := "9312127edae83ab29b215ce5fe44388ca7c2fcdbda33e5f79bfe888ea4c279d7", func := "loop.example/g01273/laws.FnExactKuennethNumber", spec := "fnExactKuennethNumber", inPlace := ["slices.overlaps[loop.example/g01273/impl.vector]"], unfollowed := true, recurses := true, plainKeys := false, apart := false, narrowed := true }
def FnExactKuennethNumberUptoSaid : Prop := fnExactKuennethNumberUptoRow.holds Try.pinned (OpenSpec.upto fnExactKuennethNumberSpec)

/-- 'laws.FnExactSphereComplex', WHERE WHAT IT READS IS OF BULK AT MOST 1048576: true; the input reads as it did. -/
def fnExactSphereComplexUptoRow : OpenClaim := { program := "ytpdkfidmmjlmnaa", sum := "9312127edae83ab29b215ce5fe44388ca7c2fcdbda33e5f79bfe888ea4c279d7", func := "loop.example/g01273/laws.FnExactSphereComplex", spec := "fnExactSphereComplex", plainKeys := false, apart := false, narrowed := true }
def FnExactSphereComplexUptoSaid : Prop := fnExactSphereComplexUptoRow.holds Try.pinned (OpenSpec.upto fnExactSphereComplexSpec)

/-- 'laws.FnExactIdentityMap', WHERE WHAT IT READS IS OF BULK AT MOST 1048576: true; the input reads as it did. -/
def fnExactIdentityMapUptoRow : OpenClaim := { program := "ytpdkfidmmjlmnaa", sum := "9312127edae83ab29b215ce5fe44388ca7c2fcdbda33e5f79bfe888ea4c279d7", func := "loop.example/g01273/laws.FnExactIdentityMap", spec := "fnExactIdentityMap", plainKeys := false, apart := false, narrowed := true }
def FnExactIdentityMapUptoSaid : Prop := fnExactIdentityMapUptoRow.holds Try.pinned (OpenSpec.upto fnExactIdentityMapSpec)

/-- 'laws.FnExactZeroFamily', WHERE WHAT IT READS IS OF BULK AT MOST 1048576: true; the input reads as it did. -/
def fnExactZeroFamilyUptoRow : OpenClaim := { program := "ytpdkfidmmjlmnaa", sum := "9312127edae83ab29b215ce5fe44388ca7c2fcdbda33e5f79bfe888ea4c279d7", func := "loop.example/g01273/laws.FnExactZeroFamily", spec := "fnExactZeroFamily", plainKeys := false, apart := false, narrowed := true }
def FnExactZeroFamilyUptoSaid : Prop := fnExactZeroFamilyUptoRow.holds Try.pinned (OpenSpec.upto fnExactZeroFamilySpec)

/-- 'laws.FnExactPowerComplex', WHERE WHAT IT READS IS OF BULK AT MOST 1048576: true; the input reads as it did. -/
def fnExactPowerComplexUptoRow : OpenClaim := { program := "ytpdkfidmmjlmnaa", sum := "9312127edae83ab29b215ce5fe44388ca7c2fcdbda33e5f79bfe888ea4c279d7", func := "loop.example/g01273/laws.FnExactPowerComplex", spec := "fnExactPowerComplex", unfollowed := true, recurses := true, plainKeys := false, apart := false, narrowed := true }
def FnExactPowerComplexUptoSaid : Prop := fnExactPowerComplexUptoRow.holds Try.pinned (OpenSpec.upto fnExactPowerComplexSpec)

end Rows
end Go.Proofs.Ytpdkfidmmjlmnaa
