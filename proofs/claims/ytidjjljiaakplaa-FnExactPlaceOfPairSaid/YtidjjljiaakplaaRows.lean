/-
  No cell of these rows narrows 'for every input' (looked for: loops, veiled, ifaces, maps, wideKeys, modest, calm, conditions, laid).
  DERIVED. THE GIVEN ROWS OF THIS SEAT. 10 by the template 'for every input the law returns true; each argument reads behind the call as it read before'; 0 by the template 'total and deterministic' (their statements: YtidjjljiaakplaaTotals.lean).
  GIVEN WITH THE SEED: the statements are not yours to turn. If you find one false, say at which input.
  Laid BY PROGRAM, IN A SANDBOX (cutbox-rows.mjs): the forced cells as the released guide's own fill.sh prints them over the translation 3b90bdd6e03cd143… (all of the seat's roots in one cut). By AI agents, Wed Nov 11 2026. No macro, syntax, notation, axiom, sorry.
-/
import Derived.Test.YtidjjljiaakplaaChecked
import GoSem.Claim
import GoSem.ClaimJoined
import GoSem.ClaimMapViews
import Derived.JoinedTies
import Derived.KernelRfl
namespace Go.Proofs.Ytidjjljiaakplaa
/- THE CELL 'sum', in the pinned program and in every row, IS THE sha256 OF THE DUMP (.gsa) THAT YtidjjljiaakplaaProg.lean LOADS. Nothing in Lean hashes anything: it is a label: what it is worth is what the hold of that sum in a sandbox is worth. -/
noncomputable def Try.pinned : Pinned := { name := "ytidjjljiaakplaa", sum := "3b90bdd6e03cd1437eba0e631f3c78174520716187949934c7963024ec1f5971", checked := Try.checked }
namespace Rows
def none {H : Type} : Left H := { results := [], args := [] }

/-- 'laws.FnExactAddFamilies': WHATEVER THE INPUT: true; the input reads as it did. -/
def fnExactAddFamiliesSpec : ChangeSpec := { name := "fnExactAddFamilies", fn := fun _ => fun
  | [d1, d2, d3, d4, d5] => { results := [.lit (.bool true)], args := [d1, d2, d3, d4, d5] }
  | _ => none }
def fnExactAddFamiliesRow : OpenClaim := { program := "ytidjjljiaakplaa", sum := "3b90bdd6e03cd1437eba0e631f3c78174520716187949934c7963024ec1f5971", func := "loop.example/g01273/laws.FnExactAddFamilies", spec := "fnExactAddFamilies", unfollowed := true, recurses := true, plainKeys := false, apart := false }
def FnExactAddFamiliesSaid : Prop := fnExactAddFamiliesRow.holds Try.pinned (OpenSpec.ofChange fnExactAddFamiliesSpec)

/-- ITS FALSE NEIGHBOUR: 'it returns false'. Refute it at one input. -/
def fnExactAddFamiliesWrong : ChangeSpec := { name := "fnExactAddFamilies", fn := fun _ => fun
  | [d1, d2, d3, d4, d5] => { results := [.lit (.bool false)], args := [d1, d2, d3, d4, d5] }
  | _ => none }
def FnExactAddFamiliesWrongFalsely : Prop := fnExactAddFamiliesRow.holds Try.pinned (OpenSpec.ofChange fnExactAddFamiliesWrong)

/-- 'laws.FnExactComposeFamilies': WHATEVER THE INPUT: true; the input reads as it did. -/
def fnExactComposeFamiliesSpec : ChangeSpec := { name := "fnExactComposeFamilies", fn := fun _ => fun
  | [d1, d2, d3, d4, d5] => { results := [.lit (.bool true)], args := [d1, d2, d3, d4, d5] }
  | _ => none }
def fnExactComposeFamiliesRow : OpenClaim := { program := "ytidjjljiaakplaa", sum := "3b90bdd6e03cd1437eba0e631f3c78174520716187949934c7963024ec1f5971", func := "loop.example/g01273/laws.FnExactComposeFamilies", spec := "fnExactComposeFamilies", unfollowed := true, recurses := true, plainKeys := false, apart := false }
def FnExactComposeFamiliesSaid : Prop := fnExactComposeFamiliesRow.holds Try.pinned (OpenSpec.ofChange fnExactComposeFamiliesSpec)

/-- ITS FALSE NEIGHBOUR: 'it returns false'. Refute it at one input. -/
def fnExactComposeFamiliesWrong : ChangeSpec := { name := "fnExactComposeFamilies", fn := fun _ => fun
  | [d1, d2, d3, d4, d5] => { results := [.lit (.bool false)], args := [d1, d2, d3, d4, d5] }
  | _ => none }
def FnExactComposeFamiliesWrongFalsely : Prop := fnExactComposeFamiliesRow.holds Try.pinned (OpenSpec.ofChange fnExactComposeFamiliesWrong)

/-- 'laws.FnExactPageDifferential': WHATEVER THE INPUT: true; the input reads as it did. -/
def fnExactPageDifferentialSpec : ChangeSpec := { name := "fnExactPageDifferential", fn := fun _ => fun
  | [d1, d2, d3, d4] => { results := [.lit (.bool true)], args := [d1, d2, d3, d4] }
  | _ => none }
def fnExactPageDifferentialRow : OpenClaim := { program := "ytidjjljiaakplaa", sum := "3b90bdd6e03cd1437eba0e631f3c78174520716187949934c7963024ec1f5971", func := "loop.example/g01273/laws.FnExactPageDifferential", spec := "fnExactPageDifferential", inPlace := ["slices.overlaps[loop.example/g01273/impl.vector]"], plainKeys := false, apart := false }
def FnExactPageDifferentialSaid : Prop := fnExactPageDifferentialRow.holds Try.pinned (OpenSpec.ofChange fnExactPageDifferentialSpec)

/-- ITS FALSE NEIGHBOUR: 'it returns false'. Refute it at one input. -/
def fnExactPageDifferentialWrong : ChangeSpec := { name := "fnExactPageDifferential", fn := fun _ => fun
  | [d1, d2, d3, d4] => { results := [.lit (.bool false)], args := [d1, d2, d3, d4] }
  | _ => none }
def FnExactPageDifferentialWrongFalsely : Prop := fnExactPageDifferentialRow.holds Try.pinned (OpenSpec.ofChange fnExactPageDifferentialWrong)

/-- 'laws.FnExactIsDouble': WHATEVER THE INPUT: true; the input reads as it did. -/
def fnExactIsDoubleSpec : ChangeSpec := { name := "fnExactIsDouble", fn := fun _ => fun
  | [d] => { results := [.lit (.bool true)], args := [d] }
  | _ => none }
def fnExactIsDoubleRow : OpenClaim := { program := "ytidjjljiaakplaa", sum := "3b90bdd6e03cd1437eba0e631f3c78174520716187949934c7963024ec1f5971", func := "loop.example/g01273/laws.FnExactIsDouble", spec := "fnExactIsDouble", unfollowed := true, recurses := true, plainKeys := false, apart := false }
def FnExactIsDoubleSaid : Prop := fnExactIsDoubleRow.holds Try.pinned (OpenSpec.ofChange fnExactIsDoubleSpec)

/-- ITS FALSE NEIGHBOUR: 'it returns false'. Refute it at one input. -/
def fnExactIsDoubleWrong : ChangeSpec := { name := "fnExactIsDouble", fn := fun _ => fun
  | [d] => { results := [.lit (.bool false)], args := [d] }
  | _ => none }
def FnExactIsDoubleWrongFalsely : Prop := fnExactIsDoubleRow.holds Try.pinned (OpenSpec.ofChange fnExactIsDoubleWrong)

/-- 'laws.FnExactDoubleEuler': WHATEVER THE INPUT: true; the input reads as it did. -/
def fnExactDoubleEulerSpec : ChangeSpec := { name := "fnExactDoubleEuler", fn := fun _ => fun
  | [d] => { results := [.lit (.bool true)], args := [d] }
  | _ => none }
def fnExactDoubleEulerRow : OpenClaim := { program := "ytidjjljiaakplaa", sum := "3b90bdd6e03cd1437eba0e631f3c78174520716187949934c7963024ec1f5971", func := "loop.example/g01273/laws.FnExactDoubleEuler", spec := "fnExactDoubleEuler", unfollowed := true, recurses := true, plainKeys := false, apart := false }
def FnExactDoubleEulerSaid : Prop := fnExactDoubleEulerRow.holds Try.pinned (OpenSpec.ofChange fnExactDoubleEulerSpec)

/-- ITS FALSE NEIGHBOUR: 'it returns false'. Refute it at one input. -/
def fnExactDoubleEulerWrong : ChangeSpec := { name := "fnExactDoubleEuler", fn := fun _ => fun
  | [d] => { results := [.lit (.bool false)], args := [d] }
  | _ => none }
def FnExactDoubleEulerWrongFalsely : Prop := fnExactDoubleEulerRow.holds Try.pinned (OpenSpec.ofChange fnExactDoubleEulerWrong)

/-- 'laws.FnExactPartOf': WHATEVER THE INPUT: true; the input reads as it did. -/
def fnExactPartOfSpec : ChangeSpec := { name := "fnExactPartOf", fn := fun _ => fun
  | [d1, d2] => { results := [.lit (.bool true)], args := [d1, d2] }
  | _ => none }
def fnExactPartOfRow : OpenClaim := { program := "ytidjjljiaakplaa", sum := "3b90bdd6e03cd1437eba0e631f3c78174520716187949934c7963024ec1f5971", func := "loop.example/g01273/laws.FnExactPartOf", spec := "fnExactPartOf", plainKeys := false, apart := false }
def FnExactPartOfSaid : Prop := fnExactPartOfRow.holds Try.pinned (OpenSpec.ofChange fnExactPartOfSpec)

/-- ITS FALSE NEIGHBOUR: 'it returns false'. Refute it at one input. -/
def fnExactPartOfWrong : ChangeSpec := { name := "fnExactPartOf", fn := fun _ => fun
  | [d1, d2] => { results := [.lit (.bool false)], args := [d1, d2] }
  | _ => none }
def FnExactPartOfWrongFalsely : Prop := fnExactPartOfRow.holds Try.pinned (OpenSpec.ofChange fnExactPartOfWrong)

/-- 'laws.FnExactPlaceOfPair': WHATEVER THE INPUT: true; the input reads as it did. -/
def fnExactPlaceOfPairSpec : ChangeSpec := { name := "fnExactPlaceOfPair", fn := fun _ => fun
  | [d1, d2, d3, d4, d5, d6] => { results := [.lit (.bool true)], args := [d1, d2, d3, d4, d5, d6] }
  | _ => none }
def fnExactPlaceOfPairRow : OpenClaim := { program := "ytidjjljiaakplaa", sum := "3b90bdd6e03cd1437eba0e631f3c78174520716187949934c7963024ec1f5971", func := "loop.example/g01273/laws.FnExactPlaceOfPair", spec := "fnExactPlaceOfPair", plainKeys := false, apart := false }
def FnExactPlaceOfPairSaid : Prop := fnExactPlaceOfPairRow.holds Try.pinned (OpenSpec.ofChange fnExactPlaceOfPairSpec)

/-- ITS FALSE NEIGHBOUR: 'it returns false'. Refute it at one input. -/
def fnExactPlaceOfPairWrong : ChangeSpec := { name := "fnExactPlaceOfPair", fn := fun _ => fun
  | [d1, d2, d3, d4, d5, d6] => { results := [.lit (.bool false)], args := [d1, d2, d3, d4, d5, d6] }
  | _ => none }
def FnExactPlaceOfPairWrongFalsely : Prop := fnExactPlaceOfPairRow.holds Try.pinned (OpenSpec.ofChange fnExactPlaceOfPairWrong)

/-- 'laws.FnExactPairVectors': WHATEVER THE INPUT: true; the input reads as it did. -/
def fnExactPairVectorsSpec : ChangeSpec := { name := "fnExactPairVectors", fn := fun _ => fun
  | [d1, d2, d3, d4, d5, d6] => { results := [.lit (.bool true)], args := [d1, d2, d3, d4, d5, d6] }
  | _ => none }
def fnExactPairVectorsRow : OpenClaim := { program := "ytidjjljiaakplaa", sum := "3b90bdd6e03cd1437eba0e631f3c78174520716187949934c7963024ec1f5971", func := "loop.example/g01273/laws.FnExactPairVectors", spec := "fnExactPairVectors", plainKeys := false, apart := false }
def FnExactPairVectorsSaid : Prop := fnExactPairVectorsRow.holds Try.pinned (OpenSpec.ofChange fnExactPairVectorsSpec)

/-- ITS FALSE NEIGHBOUR: 'it returns false'. Refute it at one input. -/
def fnExactPairVectorsWrong : ChangeSpec := { name := "fnExactPairVectors", fn := fun _ => fun
  | [d1, d2, d3, d4, d5, d6] => { results := [.lit (.bool false)], args := [d1, d2, d3, d4, d5, d6] }
  | _ => none }
def FnExactPairVectorsWrongFalsely : Prop := fnExactPairVectorsRow.holds Try.pinned (OpenSpec.ofChange fnExactPairVectorsWrong)

/-- 'laws.FnExactTransposeDouble': WHATEVER THE INPUT: true; the input reads as it did. -/
def fnExactTransposeDoubleSpec : ChangeSpec := { name := "fnExactTransposeDouble", fn := fun _ => fun
  | [d] => { results := [.lit (.bool true)], args := [d] }
  | _ => none }
def fnExactTransposeDoubleRow : OpenClaim := { program := "ytidjjljiaakplaa", sum := "3b90bdd6e03cd1437eba0e631f3c78174520716187949934c7963024ec1f5971", func := "loop.example/g01273/laws.FnExactTransposeDouble", spec := "fnExactTransposeDouble", unfollowed := true, recurses := true, plainKeys := false, apart := false }
def FnExactTransposeDoubleSaid : Prop := fnExactTransposeDoubleRow.holds Try.pinned (OpenSpec.ofChange fnExactTransposeDoubleSpec)

/-- ITS FALSE NEIGHBOUR: 'it returns false'. Refute it at one input. -/
def fnExactTransposeDoubleWrong : ChangeSpec := { name := "fnExactTransposeDouble", fn := fun _ => fun
  | [d] => { results := [.lit (.bool false)], args := [d] }
  | _ => none }
def FnExactTransposeDoubleWrongFalsely : Prop := fnExactTransposeDoubleRow.holds Try.pinned (OpenSpec.ofChange fnExactTransposeDoubleWrong)

/-- 'laws.FnExactTensorComplexes': WHATEVER THE INPUT: true; the input reads as it did. -/
def fnExactTensorComplexesSpec : ChangeSpec := { name := "fnExactTensorComplexes", fn := fun _ => fun
  | [d1, d2] => { results := [.lit (.bool true)], args := [d1, d2] }
  | _ => none }
def fnExactTensorComplexesRow : OpenClaim := { program := "ytidjjljiaakplaa", sum := "3b90bdd6e03cd1437eba0e631f3c78174520716187949934c7963024ec1f5971", func := "loop.example/g01273/laws.FnExactTensorComplexes", spec := "fnExactTensorComplexes", unfollowed := true, recurses := true, plainKeys := false, apart := false }
def FnExactTensorComplexesSaid : Prop := fnExactTensorComplexesRow.holds Try.pinned (OpenSpec.ofChange fnExactTensorComplexesSpec)

/-- ITS FALSE NEIGHBOUR: 'it returns false'. Refute it at one input. -/
def fnExactTensorComplexesWrong : ChangeSpec := { name := "fnExactTensorComplexes", fn := fun _ => fun
  | [d1, d2] => { results := [.lit (.bool false)], args := [d1, d2] }
  | _ => none }
def FnExactTensorComplexesWrongFalsely : Prop := fnExactTensorComplexesRow.holds Try.pinned (OpenSpec.ofChange fnExactTensorComplexesWrong)

/- THE SECOND FORM. 'bulk': how many values and letters a reading holds, each counted each time it is reached (what is shared counts as often as it is met; a slice's spare places count too). A statement '..UptoSaid' is the law's where the arguments, and the package variables that the reading takes, are together of bulk at most 1048576: NARROWER than '..Said'. Prove '..Said' where nothing that the law and all that it calls make is longer than what came in: it says more and counts as full. Else prove '..UptoSaid'. A law counts once. -/
mutual
def uptoBulk {H : Type} : DataW H → Nat
  | .lit (.string bytes) => bytes.length + 1
  | .lit _ => 1
  | .nil => 1
  | .ptr d => uptoBulk d + 1
  | .slice elems spare => uptoBulkAll elems + uptoBulkAll spare + 1
  | .agg parts => uptoBulkAll parts + 1
  | .iface _ d => uptoBulk d + 1
  | .map entries => uptoBulkEntries entries + 1
  | .held _ => 1
def uptoBulkAll {H : Type} : List (DataW H) → Nat
  | [] => 0
  | d :: r => uptoBulk d + uptoBulkAll r
def uptoBulkEntries {H : Type} : List (Lit × DataW H) → Nat
  | [] => 0
  | x :: r => uptoBulkEntry x + uptoBulkEntries r
def uptoBulkEntry {H : Type} : Lit × DataW H → Nat
  | (.string bytes, d) => bytes.length + uptoBulk d + 1
  | (_, d) => uptoBulk d + 1
 end
def uptoSmall : (H : Type) → List (DataW H) → Bool := fun _ ds => decide (uptoBulkAll ds ≤ 1048576)
def OpenSpec.upto (s : _root_.Go.ChangeSpec) : _root_.Go.OpenSpec := { _root_.Go.OpenSpec.ofChange s with cond := some uptoSmall }

/-- 'laws.FnExactAddFamilies', WHERE WHAT IT READS IS OF BULK AT MOST 1048576: true; the input reads as it did. -/
def fnExactAddFamiliesUptoRow : OpenClaim := { program := "ytidjjljiaakplaa", sum := "3b90bdd6e03cd1437eba0e631f3c78174520716187949934c7963024ec1f5971", func := "loop.example/g01273/laws.FnExactAddFamilies", spec := "fnExactAddFamilies", unfollowed := true, recurses := true, plainKeys := false, apart := false, narrowed := true }
def FnExactAddFamiliesUptoSaid : Prop := fnExactAddFamiliesUptoRow.holds Try.pinned (OpenSpec.upto fnExactAddFamiliesSpec)

/-- 'laws.FnExactComposeFamilies', WHERE WHAT IT READS IS OF BULK AT MOST 1048576: true; the input reads as it did. -/
def fnExactComposeFamiliesUptoRow : OpenClaim := { program := "ytidjjljiaakplaa", sum := "3b90bdd6e03cd1437eba0e631f3c78174520716187949934c7963024ec1f5971", func := "loop.example/g01273/laws.FnExactComposeFamilies", spec := "fnExactComposeFamilies", unfollowed := true, recurses := true, plainKeys := false, apart := false, narrowed := true }
def FnExactComposeFamiliesUptoSaid : Prop := fnExactComposeFamiliesUptoRow.holds Try.pinned (OpenSpec.upto fnExactComposeFamiliesSpec)

/-- 'laws.FnExactPageDifferential', WHERE WHAT IT READS IS OF BULK AT MOST 1048576: true; the input reads as it did. -/
def fnExactPageDifferentialUptoRow : OpenClaim := { program := "ytidjjljiaakplaa", sum := "3b90bdd6e03cd1437eba0e631f3c78174520716187949934c7963024ec1f5971", func := "loop.example/g01273/laws.FnExactPageDifferential", spec := "fnExactPageDifferential", inPlace := ["slices.overlaps[loop.example/g01273/impl.vector]"], plainKeys := false, apart := false, narrowed := true }
def FnExactPageDifferentialUptoSaid : Prop := fnExactPageDifferentialUptoRow.holds Try.pinned (OpenSpec.upto fnExactPageDifferentialSpec)

/-- 'laws.FnExactIsDouble', WHERE WHAT IT READS IS OF BULK AT MOST 1048576: true; the input reads as it did. -/
def fnExactIsDoubleUptoRow : OpenClaim := { program := "ytidjjljiaakplaa", sum := "3b90bdd6e03cd1437eba0e631f3c78174520716187949934c7963024ec1f5971", func := "loop.example/g01273/laws.FnExactIsDouble", spec := "fnExactIsDouble", unfollowed := true, recurses := true, plainKeys := false, apart := false, narrowed := true }
def FnExactIsDoubleUptoSaid : Prop := fnExactIsDoubleUptoRow.holds Try.pinned (OpenSpec.upto fnExactIsDoubleSpec)

/-- 'laws.FnExactDoubleEuler', WHERE WHAT IT READS IS OF BULK AT MOST 1048576: true; the input reads as it did. -/
def fnExactDoubleEulerUptoRow : OpenClaim := { program := "ytidjjljiaakplaa", sum := "3b90bdd6e03cd1437eba0e631f3c78174520716187949934c7963024ec1f5971", func := "loop.example/g01273/laws.FnExactDoubleEuler", spec := "fnExactDoubleEuler", unfollowed := true, recurses := true, plainKeys := false, apart := false, narrowed := true }
def FnExactDoubleEulerUptoSaid : Prop := fnExactDoubleEulerUptoRow.holds Try.pinned (OpenSpec.upto fnExactDoubleEulerSpec)

/-- 'laws.FnExactPartOf', WHERE WHAT IT READS IS OF BULK AT MOST 1048576: true; the input reads as it did. -/
def fnExactPartOfUptoRow : OpenClaim := { program := "ytidjjljiaakplaa", sum := "3b90bdd6e03cd1437eba0e631f3c78174520716187949934c7963024ec1f5971", func := "loop.example/g01273/laws.FnExactPartOf", spec := "fnExactPartOf", plainKeys := false, apart := false, narrowed := true }
def FnExactPartOfUptoSaid : Prop := fnExactPartOfUptoRow.holds Try.pinned (OpenSpec.upto fnExactPartOfSpec)

/-- 'laws.FnExactPlaceOfPair', WHERE WHAT IT READS IS OF BULK AT MOST 1048576: true; the input reads as it did. -/
def fnExactPlaceOfPairUptoRow : OpenClaim := { program := "ytidjjljiaakplaa", sum := "3b90bdd6e03cd1437eba0e631f3c78174520716187949934c7963024ec1f5971", func := "loop.example/g01273/laws.FnExactPlaceOfPair", spec := "fnExactPlaceOfPair", plainKeys := false, apart := false, narrowed := true }
def FnExactPlaceOfPairUptoSaid : Prop := fnExactPlaceOfPairUptoRow.holds Try.pinned (OpenSpec.upto fnExactPlaceOfPairSpec)

/-- 'laws.FnExactPairVectors', WHERE WHAT IT READS IS OF BULK AT MOST 1048576: true; the input reads as it did. -/
def fnExactPairVectorsUptoRow : OpenClaim := { program := "ytidjjljiaakplaa", sum := "3b90bdd6e03cd1437eba0e631f3c78174520716187949934c7963024ec1f5971", func := "loop.example/g01273/laws.FnExactPairVectors", spec := "fnExactPairVectors", plainKeys := false, apart := false, narrowed := true }
def FnExactPairVectorsUptoSaid : Prop := fnExactPairVectorsUptoRow.holds Try.pinned (OpenSpec.upto fnExactPairVectorsSpec)

/-- 'laws.FnExactTransposeDouble', WHERE WHAT IT READS IS OF BULK AT MOST 1048576: true; the input reads as it did. -/
def fnExactTransposeDoubleUptoRow : OpenClaim := { program := "ytidjjljiaakplaa", sum := "3b90bdd6e03cd1437eba0e631f3c78174520716187949934c7963024ec1f5971", func := "loop.example/g01273/laws.FnExactTransposeDouble", spec := "fnExactTransposeDouble", unfollowed := true, recurses := true, plainKeys := false, apart := false, narrowed := true }
def FnExactTransposeDoubleUptoSaid : Prop := fnExactTransposeDoubleUptoRow.holds Try.pinned (OpenSpec.upto fnExactTransposeDoubleSpec)

/-- 'laws.FnExactTensorComplexes', WHERE WHAT IT READS IS OF BULK AT MOST 1048576: true; the input reads as it did. -/
def fnExactTensorComplexesUptoRow : OpenClaim := { program := "ytidjjljiaakplaa", sum := "3b90bdd6e03cd1437eba0e631f3c78174520716187949934c7963024ec1f5971", func := "loop.example/g01273/laws.FnExactTensorComplexes", spec := "fnExactTensorComplexes", unfollowed := true, recurses := true, plainKeys := false, apart := false, narrowed := true }
def FnExactTensorComplexesUptoSaid : Prop := fnExactTensorComplexesUptoRow.holds Try.pinned (OpenSpec.upto fnExactTensorComplexesSpec)

end Rows
end Go.Proofs.Ytidjjljiaakplaa
