/-
  No cell of these rows narrows 'for every input' (looked for: loops, veiled, ifaces, maps, wideKeys, modest, calm, conditions, laid).
  DERIVED. THE GIVEN ROWS OF THIS SEAT. 12 by the template 'for every input the law returns true; each argument reads behind the call as it read before'; 0 by the template 'total and deterministic' (their statements: YtiokagnolbddlaaTotals.lean).
  GIVEN WITH THE SEED: the statements are not yours to turn. If you find one false, say at which input.
  Laid BY PROGRAM, IN A SANDBOX (cutbox-rows.mjs): the forced cells as the released guide's own fill.sh prints them over the translation 670b818f2a2b5f2e… (all of the seat's roots in one cut). By AI agents, Wed Nov 11 2026. No macro, syntax, notation, axiom, sorry.
-/
import Derived.Test.YtiokagnolbddlaaChecked
import GoSem.Claim
import GoSem.ClaimJoined
import GoSem.ClaimMapViews
import Derived.JoinedTies
import Derived.KernelRfl
namespace Go.Proofs.Ytiokagnolbddlaa
/- THE CELL 'sum', in the pinned program and in every row, IS THE sha256 OF THE DUMP (.gsa) THAT YtiokagnolbddlaaProg.lean LOADS. Nothing in Lean hashes anything: it is a label: what it is worth is what the hold of that sum in a sandbox is worth. -/
noncomputable def Try.pinned : Pinned := { name := "ytiokagnolbddlaa", sum := "670b818f2a2b5f2eb3b1fb3de0964b5f2e349253040b0806cd42283c6f3c3892", checked := Try.checked }
namespace Rows
def none {H : Type} : Left H := { results := [], args := [] }

/-- 'laws.FnExactLensComplex': WHATEVER THE INPUT: true; the input reads as it did. -/
def fnExactLensComplexSpec : ChangeSpec := { name := "fnExactLensComplex", fn := fun _ => fun
  | [d1, d2] => { results := [.lit (.bool true)], args := [d1, d2] }
  | _ => none }
def fnExactLensComplexRow : OpenClaim := { program := "ytiokagnolbddlaa", sum := "670b818f2a2b5f2eb3b1fb3de0964b5f2e349253040b0806cd42283c6f3c3892", func := "loop.example/g01273/laws.FnExactLensComplex", spec := "fnExactLensComplex", plainKeys := false, apart := false }
def FnExactLensComplexSaid : Prop := fnExactLensComplexRow.holds Try.pinned (OpenSpec.ofChange fnExactLensComplexSpec)

/-- ITS FALSE NEIGHBOUR: 'it returns false'. Refute it at one input. -/
def fnExactLensComplexWrong : ChangeSpec := { name := "fnExactLensComplex", fn := fun _ => fun
  | [d1, d2] => { results := [.lit (.bool false)], args := [d1, d2] }
  | _ => none }
def FnExactLensComplexWrongFalsely : Prop := fnExactLensComplexRow.holds Try.pinned (OpenSpec.ofChange fnExactLensComplexWrong)

/-- 'laws.FnExactIsWhole': WHATEVER THE INPUT: true; the input reads as it did. -/
def fnExactIsWholeSpec : ChangeSpec := { name := "fnExactIsWhole", fn := fun _ => fun
  | [d] => { results := [.lit (.bool true)], args := [d] }
  | _ => none }
def fnExactIsWholeRow : OpenClaim := { program := "ytiokagnolbddlaa", sum := "670b818f2a2b5f2eb3b1fb3de0964b5f2e349253040b0806cd42283c6f3c3892", func := "loop.example/g01273/laws.FnExactIsWhole", spec := "fnExactIsWhole", plainKeys := false, apart := false }
def FnExactIsWholeSaid : Prop := fnExactIsWholeRow.holds Try.pinned (OpenSpec.ofChange fnExactIsWholeSpec)

/-- ITS FALSE NEIGHBOUR: 'it returns false'. Refute it at one input. -/
def fnExactIsWholeWrong : ChangeSpec := { name := "fnExactIsWhole", fn := fun _ => fun
  | [d] => { results := [.lit (.bool false)], args := [d] }
  | _ => none }
def FnExactIsWholeWrongFalsely : Prop := fnExactIsWholeRow.holds Try.pinned (OpenSpec.ofChange fnExactIsWholeWrong)

/-- 'laws.FnExactDualWhole': WHATEVER THE INPUT: true; the input reads as it did. -/
def fnExactDualWholeSpec : ChangeSpec := { name := "fnExactDualWhole", fn := fun _ => fun
  | [d] => { results := [.lit (.bool true)], args := [d] }
  | _ => none }
def fnExactDualWholeRow : OpenClaim := { program := "ytiokagnolbddlaa", sum := "670b818f2a2b5f2eb3b1fb3de0964b5f2e349253040b0806cd42283c6f3c3892", func := "loop.example/g01273/laws.FnExactDualWhole", spec := "fnExactDualWhole", plainKeys := false, apart := false }
def FnExactDualWholeSaid : Prop := fnExactDualWholeRow.holds Try.pinned (OpenSpec.ofChange fnExactDualWholeSpec)

/-- ITS FALSE NEIGHBOUR: 'it returns false'. Refute it at one input. -/
def fnExactDualWholeWrong : ChangeSpec := { name := "fnExactDualWhole", fn := fun _ => fun
  | [d] => { results := [.lit (.bool false)], args := [d] }
  | _ => none }
def FnExactDualWholeWrongFalsely : Prop := fnExactDualWholeRow.holds Try.pinned (OpenSpec.ofChange fnExactDualWholeWrong)

/-- 'laws.FnExactReduceModulo': WHATEVER THE INPUT: true; the input reads as it did. -/
def fnExactReduceModuloSpec : ChangeSpec := { name := "fnExactReduceModulo", fn := fun _ => fun
  | [d1, d2] => { results := [.lit (.bool true)], args := [d1, d2] }
  | _ => none }
def fnExactReduceModuloRow : OpenClaim := { program := "ytiokagnolbddlaa", sum := "670b818f2a2b5f2eb3b1fb3de0964b5f2e349253040b0806cd42283c6f3c3892", func := "loop.example/g01273/laws.FnExactReduceModulo", spec := "fnExactReduceModulo", plainKeys := false, apart := false }
def FnExactReduceModuloSaid : Prop := fnExactReduceModuloRow.holds Try.pinned (OpenSpec.ofChange fnExactReduceModuloSpec)

/-- ITS FALSE NEIGHBOUR: 'it returns false'. Refute it at one input. -/
def fnExactReduceModuloWrong : ChangeSpec := { name := "fnExactReduceModulo", fn := fun _ => fun
  | [d1, d2] => { results := [.lit (.bool false)], args := [d1, d2] }
  | _ => none }
def FnExactReduceModuloWrongFalsely : Prop := fnExactReduceModuloRow.holds Try.pinned (OpenSpec.ofChange fnExactReduceModuloWrong)

/-- 'laws.FnExactIsDouble': WHATEVER THE INPUT: true; the input reads as it did. -/
def fnExactIsDoubleSpec : ChangeSpec := { name := "fnExactIsDouble", fn := fun _ => fun
  | [d] => { results := [.lit (.bool true)], args := [d] }
  | _ => none }
def fnExactIsDoubleRow : OpenClaim := { program := "ytiokagnolbddlaa", sum := "670b818f2a2b5f2eb3b1fb3de0964b5f2e349253040b0806cd42283c6f3c3892", func := "loop.example/g01273/laws.FnExactIsDouble", spec := "fnExactIsDouble", unfollowed := true, recurses := true, plainKeys := false, apart := false }
def FnExactIsDoubleSaid : Prop := fnExactIsDoubleRow.holds Try.pinned (OpenSpec.ofChange fnExactIsDoubleSpec)

/-- ITS FALSE NEIGHBOUR: 'it returns false'. Refute it at one input. -/
def fnExactIsDoubleWrong : ChangeSpec := { name := "fnExactIsDouble", fn := fun _ => fun
  | [d] => { results := [.lit (.bool false)], args := [d] }
  | _ => none }
def FnExactIsDoubleWrongFalsely : Prop := fnExactIsDoubleRow.holds Try.pinned (OpenSpec.ofChange fnExactIsDoubleWrong)

/-- 'laws.FnExactDoubleEuler': WHATEVER THE INPUT: true; the input reads as it did. -/
def fnExactDoubleEulerSpec : ChangeSpec := { name := "fnExactDoubleEuler", fn := fun _ => fun
  | [d] => { results := [.lit (.bool true)], args := [d] }
  | _ => none }
def fnExactDoubleEulerRow : OpenClaim := { program := "ytiokagnolbddlaa", sum := "670b818f2a2b5f2eb3b1fb3de0964b5f2e349253040b0806cd42283c6f3c3892", func := "loop.example/g01273/laws.FnExactDoubleEuler", spec := "fnExactDoubleEuler", unfollowed := true, recurses := true, plainKeys := false, apart := false }
def FnExactDoubleEulerSaid : Prop := fnExactDoubleEulerRow.holds Try.pinned (OpenSpec.ofChange fnExactDoubleEulerSpec)

/-- ITS FALSE NEIGHBOUR: 'it returns false'. Refute it at one input. -/
def fnExactDoubleEulerWrong : ChangeSpec := { name := "fnExactDoubleEuler", fn := fun _ => fun
  | [d] => { results := [.lit (.bool false)], args := [d] }
  | _ => none }
def FnExactDoubleEulerWrongFalsely : Prop := fnExactDoubleEulerRow.holds Try.pinned (OpenSpec.ofChange fnExactDoubleEulerWrong)

/-- 'laws.FnExactTransposeDouble': WHATEVER THE INPUT: true; the input reads as it did. -/
def fnExactTransposeDoubleSpec : ChangeSpec := { name := "fnExactTransposeDouble", fn := fun _ => fun
  | [d] => { results := [.lit (.bool true)], args := [d] }
  | _ => none }
def fnExactTransposeDoubleRow : OpenClaim := { program := "ytiokagnolbddlaa", sum := "670b818f2a2b5f2eb3b1fb3de0964b5f2e349253040b0806cd42283c6f3c3892", func := "loop.example/g01273/laws.FnExactTransposeDouble", spec := "fnExactTransposeDouble", unfollowed := true, recurses := true, plainKeys := false, apart := false }
def FnExactTransposeDoubleSaid : Prop := fnExactTransposeDoubleRow.holds Try.pinned (OpenSpec.ofChange fnExactTransposeDoubleSpec)

/-- ITS FALSE NEIGHBOUR: 'it returns false'. Refute it at one input. -/
def fnExactTransposeDoubleWrong : ChangeSpec := { name := "fnExactTransposeDouble", fn := fun _ => fun
  | [d] => { results := [.lit (.bool false)], args := [d] }
  | _ => none }
def FnExactTransposeDoubleWrongFalsely : Prop := fnExactTransposeDoubleRow.holds Try.pinned (OpenSpec.ofChange fnExactTransposeDoubleWrong)

/-- 'laws.FnExactPairVectors': WHATEVER THE INPUT: true; the input reads as it did. -/
def fnExactPairVectorsSpec : ChangeSpec := { name := "fnExactPairVectors", fn := fun _ => fun
  | [d1, d2, d3, d4, d5, d6] => { results := [.lit (.bool true)], args := [d1, d2, d3, d4, d5, d6] }
  | _ => none }
def fnExactPairVectorsRow : OpenClaim := { program := "ytiokagnolbddlaa", sum := "670b818f2a2b5f2eb3b1fb3de0964b5f2e349253040b0806cd42283c6f3c3892", func := "loop.example/g01273/laws.FnExactPairVectors", spec := "fnExactPairVectors", plainKeys := false, apart := false }
def FnExactPairVectorsSaid : Prop := fnExactPairVectorsRow.holds Try.pinned (OpenSpec.ofChange fnExactPairVectorsSpec)

/-- ITS FALSE NEIGHBOUR: 'it returns false'. Refute it at one input. -/
def fnExactPairVectorsWrong : ChangeSpec := { name := "fnExactPairVectors", fn := fun _ => fun
  | [d1, d2, d3, d4, d5, d6] => { results := [.lit (.bool false)], args := [d1, d2, d3, d4, d5, d6] }
  | _ => none }
def FnExactPairVectorsWrongFalsely : Prop := fnExactPairVectorsRow.holds Try.pinned (OpenSpec.ofChange fnExactPairVectorsWrong)

/-- 'laws.FnExactTensorComplexes': WHATEVER THE INPUT: true; the input reads as it did. -/
def fnExactTensorComplexesSpec : ChangeSpec := { name := "fnExactTensorComplexes", fn := fun _ => fun
  | [d1, d2] => { results := [.lit (.bool true)], args := [d1, d2] }
  | _ => none }
def fnExactTensorComplexesRow : OpenClaim := { program := "ytiokagnolbddlaa", sum := "670b818f2a2b5f2eb3b1fb3de0964b5f2e349253040b0806cd42283c6f3c3892", func := "loop.example/g01273/laws.FnExactTensorComplexes", spec := "fnExactTensorComplexes", unfollowed := true, recurses := true, plainKeys := false, apart := false }
def FnExactTensorComplexesSaid : Prop := fnExactTensorComplexesRow.holds Try.pinned (OpenSpec.ofChange fnExactTensorComplexesSpec)

/-- ITS FALSE NEIGHBOUR: 'it returns false'. Refute it at one input. -/
def fnExactTensorComplexesWrong : ChangeSpec := { name := "fnExactTensorComplexes", fn := fun _ => fun
  | [d1, d2] => { results := [.lit (.bool false)], args := [d1, d2] }
  | _ => none }
def FnExactTensorComplexesWrongFalsely : Prop := fnExactTensorComplexesRow.holds Try.pinned (OpenSpec.ofChange fnExactTensorComplexesWrong)

/-- 'laws.FnExactSwapFamily': WHATEVER THE INPUT: true; the input reads as it did. -/
def fnExactSwapFamilySpec : ChangeSpec := { name := "fnExactSwapFamily", fn := fun _ => fun
  | [d1, d2] => { results := [.lit (.bool true)], args := [d1, d2] }
  | _ => none }
def fnExactSwapFamilyRow : OpenClaim := { program := "ytiokagnolbddlaa", sum := "670b818f2a2b5f2eb3b1fb3de0964b5f2e349253040b0806cd42283c6f3c3892", func := "loop.example/g01273/laws.FnExactSwapFamily", spec := "fnExactSwapFamily", unfollowed := true, recurses := true, plainKeys := false, apart := false }
def FnExactSwapFamilySaid : Prop := fnExactSwapFamilyRow.holds Try.pinned (OpenSpec.ofChange fnExactSwapFamilySpec)

/-- ITS FALSE NEIGHBOUR: 'it returns false'. Refute it at one input. -/
def fnExactSwapFamilyWrong : ChangeSpec := { name := "fnExactSwapFamily", fn := fun _ => fun
  | [d1, d2] => { results := [.lit (.bool false)], args := [d1, d2] }
  | _ => none }
def FnExactSwapFamilyWrongFalsely : Prop := fnExactSwapFamilyRow.holds Try.pinned (OpenSpec.ofChange fnExactSwapFamilyWrong)

/-- 'laws.FnExactPowerComplex': WHATEVER THE INPUT: true; the input reads as it did. -/
def fnExactPowerComplexSpec : ChangeSpec := { name := "fnExactPowerComplex", fn := fun _ => fun
  | [d1, d2] => { results := [.lit (.bool true)], args := [d1, d2] }
  | _ => none }
def fnExactPowerComplexRow : OpenClaim := { program := "ytiokagnolbddlaa", sum := "670b818f2a2b5f2eb3b1fb3de0964b5f2e349253040b0806cd42283c6f3c3892", func := "loop.example/g01273/laws.FnExactPowerComplex", spec := "fnExactPowerComplex", unfollowed := true, recurses := true, plainKeys := false, apart := false }
def FnExactPowerComplexSaid : Prop := fnExactPowerComplexRow.holds Try.pinned (OpenSpec.ofChange fnExactPowerComplexSpec)

/-- ITS FALSE NEIGHBOUR: 'it returns false'. Refute it at one input. -/
def fnExactPowerComplexWrong : ChangeSpec := { name := "fnExactPowerComplex", fn := fun _ => fun
  | [d1, d2] => { results := [.lit (.bool false)], args := [d1, d2] }
  | _ => none }
def FnExactPowerComplexWrongFalsely : Prop := fnExactPowerComplexRow.holds Try.pinned (OpenSpec.ofChange fnExactPowerComplexWrong)

/-- 'laws.FnExactPartOf': WHATEVER THE INPUT: true; the input reads as it did. -/
def fnExactPartOfSpec : ChangeSpec := { name := "fnExactPartOf", fn := fun _ => fun
  | [d1, d2] => { results := [.lit (.bool true)], args := [d1, d2] }
  | _ => none }
def fnExactPartOfRow : OpenClaim := { program := "ytiokagnolbddlaa", sum := "670b818f2a2b5f2eb3b1fb3de0964b5f2e349253040b0806cd42283c6f3c3892", func := "loop.example/g01273/laws.FnExactPartOf", spec := "fnExactPartOf", plainKeys := false, apart := false }
def FnExactPartOfSaid : Prop := fnExactPartOfRow.holds Try.pinned (OpenSpec.ofChange fnExactPartOfSpec)

/-- ITS FALSE NEIGHBOUR: 'it returns false'. Refute it at one input. -/
def fnExactPartOfWrong : ChangeSpec := { name := "fnExactPartOf", fn := fun _ => fun
  | [d1, d2] => { results := [.lit (.bool false)], args := [d1, d2] }
  | _ => none }
def FnExactPartOfWrongFalsely : Prop := fnExactPartOfRow.holds Try.pinned (OpenSpec.ofChange fnExactPartOfWrong)

/- THE SECOND FORM. 'bulk': how many values and letters a reading holds, each counted each time it is reached (what is shared counts as often as it is met; a slice's spare places count too). A statement '..UptoSaid' is the law's where the arguments, and the package variables that the reading takes, are together of bulk at most 1048576: NARROWER than '..Said'. Prove '..Said' where nothing that the law and all that it calls make is longer than what came in: it says more and counts as full. Else prove '..UptoSaid'. A law counts once. -/
mutual
def uptoBulk {H : Type} : DataW H → Nat
  | .lit (.string bytes) => bytes.length + 1
  | .lit _ => 1
  | .nil => 1
  | .ptr d => uptoBulk d + 1
  | .slice elems spare => uptoBulkAll elems + uptoBulkAll spare + 1
  | .agg parts => uptoBulkAll parts + 1
  | .iface _ d => uptoBulk d + 1
  | .map entries => uptoBulkEntries entries + 1
  | .held _ => 1
def uptoBulkAll {H : Type} : List (DataW H) → Nat
  | [] => 0
  | d :: r => uptoBulk d + uptoBulkAll r
def uptoBulkEntries {H : Type} : List (Lit × DataW H) → Nat
  | [] => 0
  | x :: r => uptoBulkEntry x + uptoBulkEntries r
def uptoBulkEntry {H : Type} : Lit × DataW H → Nat
  | (.string bytes, d) => bytes.length + uptoBulk d + 1
  | (_, d) => uptoBulk d + 1
 end
def uptoSmall : (H : Type) → List (DataW H) → Bool := fun _ ds => decide (uptoBulkAll ds ≤ 1048576)
def OpenSpec.upto (s : _root_.Go.ChangeSpec) : _root_.Go.OpenSpec := { _root_.Go.OpenSpec.ofChange s with cond := some uptoSmall }

/-- 'laws.FnExactLensComplex', WHERE WHAT IT READS IS OF BULK AT MOST 1048576: true; the input reads as it did. -/
def fnExactLensComplexUptoRow : OpenClaim := { program := "ytiokagnolbddlaa", sum := "670b818f2a2b5f2eb3b1fb3de0964b5f2e349253040b0806cd42283c6f3c3892", func := "loop.example/g01273/laws.FnExactLensComplex", spec := "fnExactLensComplex", plainKeys := false, apart := false, narrowed := true }
def FnExactLensComplexUptoSaid : Prop := fnExactLensComplexUptoRow.holds Try.pinned (OpenSpec.upto fnExactLensComplexSpec)

/-- 'laws.FnExactIsWhole', WHERE WHAT IT READS IS OF BULK AT MOST 1048576: true; the input reads as it did. -/
def fnExactIsWholeUptoRow : OpenClaim := { program := "ytiokagnolbddlaa", sum := "670b818f2a2b5f2eb3b1fb3de0964b5f2e349253040b0806cd42283c6f3c3892", func := "loop.example/g01273/laws.FnExactIsWhole", spec := "fnExactIsWhole", plainKeys := false, apart := false, narrowed := true }
def FnExactIsWholeUptoSaid : Prop := fnExactIsWholeUptoRow.holds Try.pinned (OpenSpec.upto fnExactIsWholeSpec)

/-- 'laws.FnExactDualWhole', WHERE WHAT IT READS IS OF BULK AT MOST 1048576: true; the input reads as it did. -/
def fnExactDualWholeUptoRow : OpenClaim := { program := "ytiokagnolbddlaa", sum := "670b818f2a2b5f2eb3b1fb3de0964b5f2e349253040b0806cd42283c6f3c3892", func := "loop.example/g01273/laws.FnExactDualWhole", spec := "fnExactDualWhole", plainKeys := false, apart := false, narrowed := true }
def FnExactDualWholeUptoSaid : Prop := fnExactDualWholeUptoRow.holds Try.pinned (OpenSpec.upto fnExactDualWholeSpec)

/-- 'laws.FnExactReduceModulo', WHERE WHAT IT READS IS OF BULK AT MOST 1048576: true; the input reads as it did. -/
def fnExactReduceModuloUptoRow : OpenClaim := { program := "ytiokagnolbddlaa", sum := "670b818f2a2b5f2eb3b1fb3de0964b5f2e349253040b0806cd42283c6f3c3892", func := "loop.example/g01273/laws.FnExactReduceModulo", spec := "fnExactReduceModulo", plainKeys := false, apart := false, narrowed := true }
def FnExactReduceModuloUptoSaid : Prop := fnExactReduceModuloUptoRow.holds Try.pinned (OpenSpec.upto fnExactReduceModuloSpec)

/-- 'laws.FnExactIsDouble', WHERE WHAT IT READS IS OF BULK AT MOST 1048576: true; the input reads as it did. -/
def fnExactIsDoubleUptoRow : OpenClaim := { program := "ytiokagnolbddlaa", sum := "670b818f2a2b5f2eb3b1fb3de0964b5f2e349253040b0806cd42283c6f3c3892", func := "loop.example/g01273/laws.FnExactIsDouble", spec := "fnExactIsDouble", unfollowed := true, recurses := true, plainKeys := false, apart := false, narrowed := true }
def FnExactIsDoubleUptoSaid : Prop := fnExactIsDoubleUptoRow.holds Try.pinned (OpenSpec.upto fnExactIsDoubleSpec)

/-- 'laws.FnExactDoubleEuler', WHERE WHAT IT READS IS OF BULK AT MOST 1048576: true; the input reads as it did. -/
def fnExactDoubleEulerUptoRow : OpenClaim := { program := "ytiokagnolbddlaa", sum := "670b818f2a2b5f2eb3b1fb3de0964b5f2e349253040b0806cd42283c6f3c3892", func := "loop.example/g01273/laws.FnExactDoubleEuler", spec := "fnExactDoubleEuler", unfollowed := true, recurses := true, plainKeys := false, apart := false, narrowed := true }
def FnExactDoubleEulerUptoSaid : Prop := fnExactDoubleEulerUptoRow.holds Try.pinned (OpenSpec.upto fnExactDoubleEulerSpec)

/-- 'laws.FnExactTransposeDouble', WHERE WHAT IT READS IS OF BULK AT MOST 1048576: true; the input reads as it did. -/
def fnExactTransposeDoubleUptoRow : OpenClaim := { program := "ytiokagnolbddlaa", sum := "670b818f2a2b5f2eb3b1fb3de0964b5f2e349253040b0806cd42283c6f3c3892", func := "loop.example/g01273/laws.FnExactTransposeDouble", spec := "fnExactTransposeDouble", unfollowed := true, recurses := true, plainKeys := false, apart := false, narrowed := true }
def FnExactTransposeDoubleUptoSaid : Prop := fnExactTransposeDoubleUptoRow.holds Try.pinned (OpenSpec.upto fnExactTransposeDoubleSpec)

/-- 'laws.FnExactPairVectors', WHERE WHAT IT READS IS OF BULK AT MOST 1048576: true; the input reads as it did. -/
def fnExactPairVectorsUptoRow : OpenClaim := { program := "ytiokagnolbddlaa", sum := "670b818f2a2b5f2eb3b1fb3de0964b5f2e349253040b0806cd42283c6f3c3892", func := "loop.example/g01273/laws.FnExactPairVectors", spec := "fnExactPairVectors", plainKeys := false, apart := false, narrowed := true }
def FnExactPairVectorsUptoSaid : Prop := fnExactPairVectorsUptoRow.holds Try.pinned (OpenSpec.upto fnExactPairVectorsSpec)

/-- 'laws.FnExactTensorComplexes', WHERE WHAT IT READS IS OF BULK AT MOST 1048576: true; the input reads as it did. -/
def fnExactTensorComplexesUptoRow : OpenClaim := { program := "ytiokagnolbddlaa", sum := "670b818f2a2b5f2eb3b1fb3de0964b5f2e349253040b0806cd42283c6f3c3892", func := "loop.example/g01273/laws.FnExactTensorComplexes", spec := "fnExactTensorComplexes", unfollowed := true, recurses := true, plainKeys := false, apart := false, narrowed := true }
def FnExactTensorComplexesUptoSaid : Prop := fnExactTensorComplexesUptoRow.holds Try.pinned (OpenSpec.upto fnExactTensorComplexesSpec)

/-- 'laws.FnExactSwapFamily', WHERE WHAT IT READS IS OF BULK AT MOST 1048576: true; the input reads as it did. -/
def fnExactSwapFamilyUptoRow : OpenClaim := { program := "ytiokagnolbddlaa", sum := "670b818f2a2b5f2eb3b1fb3de0964b5f2e349253040b0806cd42283c6f3c3892", func := "loop.example/g01273/laws.FnExactSwapFamily", spec := "fnExactSwapFamily", unfollowed := true, recurses := true, plainKeys := false, apart := false, narrowed := true }
def FnExactSwapFamilyUptoSaid : Prop := fnExactSwapFamilyUptoRow.holds Try.pinned (OpenSpec.upto fnExactSwapFamilySpec)

/-- 'laws.FnExactPowerComplex', WHERE WHAT IT READS IS OF BULK AT MOST 1048576: true; the input reads as it did. -/
def fnExactPowerComplexUptoRow : OpenClaim := { program := "ytiokagnolbddlaa", sum := "670b818f2a2b5f2eb3b1fb3de0964b5f2e349253040b0806cd42283c6f3c3892", func := "loop.example/g01273/laws.FnExactPowerComplex", spec := "fnExactPowerComplex", unfollowed := true, recurses := true, plainKeys := false, apart := false, narrowed := true }
def FnExactPowerComplexUptoSaid : Prop := fnExactPowerComplexUptoRow.holds Try.pinned (OpenSpec.upto fnExactPowerComplexSpec)

/-- 'laws.FnExactPartOf', WHERE WHAT IT READS IS OF BULK AT MOST 1048576: true; the input reads as it did. -/
def fnExactPartOfUptoRow : OpenClaim := { program := "ytiokagnolbddlaa", sum := "670b818f2a2b5f2eb3b1fb3de0964b5f2e349253040b0806cd42283c6f3c3892", func := "loop.example/g01273/laws.FnExactPartOf", spec := "fnExactPartOf", plainKeys := false, apart := false, narrowed := true }
def FnExactPartOfUptoSaid : Prop := fnExactPartOfUptoRow.holds Try.pinned (OpenSpec.upto fnExactPartOfSpec)

end Rows
end Go.Proofs.Ytiokagnolbddlaa
