/-
  No cell of these rows narrows 'for every input' (looked for: loops, veiled, ifaces, maps, wideKeys, modest, calm, conditions, laid).
  DERIVED. THE GIVEN ROWS OF THIS SEAT. 12 by the template 'for every input the law returns true; each argument reads behind the call as it read before'; 0 by the template 'total and deterministic' (their statements: YtfgceigbfiohoaaTotals.lean).
  GIVEN WITH THE SEED: the statements are not yours to turn. If you find one false, say at which input.
  Laid BY PROGRAM, IN A SANDBOX (cutbox-rows.mjs): the forced cells as the released guide's own fill.sh prints them over the translation 9f8d1248dd1401fc… (all of the seat's roots in one cut). By AI agents, Wed Nov 11 2026. No macro, syntax, notation, axiom, sorry.
-/
import Derived.Test.YtfgceigbfiohoaaChecked
import GoSem.Claim
import GoSem.ClaimJoined
import GoSem.ClaimMapViews
import Derived.JoinedTies
import Derived.KernelRfl
namespace Go.Proofs.Ytfgceigbfiohoaa
/- THE CELL 'sum', in the pinned program and in every row, IS THE sha256 OF THE DUMP (.gsa) THAT YtfgceigbfiohoaaProg.lean LOADS. Nothing in Lean hashes anything: it is a label: what it is worth is what the hold of that sum in a sandbox is worth. -/
noncomputable def Try.pinned : Pinned := { name := "ytfgceigbfiohoaa", sum := "9f8d1248dd1401fc2bdd6cea149f34f91903c944813cc71bde4b33542043687c", checked := Try.checked }
namespace Rows
def none {H : Type} : Left H := { results := [], args := [] }

/-- 'laws.FnExactUnitComplex': WHATEVER THE INPUT: true; the input reads as it did. -/
def fnExactUnitComplexSpec : ChangeSpec := { name := "fnExactUnitComplex", fn := fun _ => fun
  | [d] => { results := [.lit (.bool true)], args := [d] }
  | _ => none }
def fnExactUnitComplexRow : OpenClaim := { program := "ytfgceigbfiohoaa", sum := "9f8d1248dd1401fc2bdd6cea149f34f91903c944813cc71bde4b33542043687c", func := "loop.example/g01273/laws.FnExactUnitComplex", spec := "fnExactUnitComplex", plainKeys := false, apart := false }
def FnExactUnitComplexSaid : Prop := fnExactUnitComplexRow.holds Try.pinned (OpenSpec.ofChange fnExactUnitComplexSpec)

/-- ITS FALSE NEIGHBOUR: 'it returns false'. Refute it at one input. -/
def fnExactUnitComplexWrong : ChangeSpec := { name := "fnExactUnitComplex", fn := fun _ => fun
  | [d] => { results := [.lit (.bool false)], args := [d] }
  | _ => none }
def FnExactUnitComplexWrongFalsely : Prop := fnExactUnitComplexRow.holds Try.pinned (OpenSpec.ofChange fnExactUnitComplexWrong)

/-- 'laws.FnExactTensorDims': WHATEVER THE INPUT: true; the input reads as it did. -/
def fnExactTensorDimsSpec : ChangeSpec := { name := "fnExactTensorDims", fn := fun _ => fun
  | [d1, d2] => { results := [.lit (.bool true)], args := [d1, d2] }
  | _ => none }
def fnExactTensorDimsRow : OpenClaim := { program := "ytfgceigbfiohoaa", sum := "9f8d1248dd1401fc2bdd6cea149f34f91903c944813cc71bde4b33542043687c", func := "loop.example/g01273/laws.FnExactTensorDims", spec := "fnExactTensorDims", unfollowed := true, recurses := true, plainKeys := false, apart := false }
def FnExactTensorDimsSaid : Prop := fnExactTensorDimsRow.holds Try.pinned (OpenSpec.ofChange fnExactTensorDimsSpec)

/-- ITS FALSE NEIGHBOUR: 'it returns false'. Refute it at one input. -/
def fnExactTensorDimsWrong : ChangeSpec := { name := "fnExactTensorDims", fn := fun _ => fun
  | [d1, d2] => { results := [.lit (.bool false)], args := [d1, d2] }
  | _ => none }
def FnExactTensorDimsWrongFalsely : Prop := fnExactTensorDimsRow.holds Try.pinned (OpenSpec.ofChange fnExactTensorDimsWrong)

/-- 'laws.FnExactShiftComplex': WHATEVER THE INPUT: true; the input reads as it did. -/
def fnExactShiftComplexSpec : ChangeSpec := { name := "fnExactShiftComplex", fn := fun _ => fun
  | [d1, d2] => { results := [.lit (.bool true)], args := [d1, d2] }
  | _ => none }
def fnExactShiftComplexRow : OpenClaim := { program := "ytfgceigbfiohoaa", sum := "9f8d1248dd1401fc2bdd6cea149f34f91903c944813cc71bde4b33542043687c", func := "loop.example/g01273/laws.FnExactShiftComplex", spec := "fnExactShiftComplex", plainKeys := false, apart := false }
def FnExactShiftComplexSaid : Prop := fnExactShiftComplexRow.holds Try.pinned (OpenSpec.ofChange fnExactShiftComplexSpec)

/-- ITS FALSE NEIGHBOUR: 'it returns false'. Refute it at one input. -/
def fnExactShiftComplexWrong : ChangeSpec := { name := "fnExactShiftComplex", fn := fun _ => fun
  | [d1, d2] => { results := [.lit (.bool false)], args := [d1, d2] }
  | _ => none }
def FnExactShiftComplexWrongFalsely : Prop := fnExactShiftComplexRow.holds Try.pinned (OpenSpec.ofChange fnExactShiftComplexWrong)

/-- 'laws.FnExactSphereComplex': WHATEVER THE INPUT: true; the input reads as it did. -/
def fnExactSphereComplexSpec : ChangeSpec := { name := "fnExactSphereComplex", fn := fun _ => fun
  | [d1, d2] => { results := [.lit (.bool true)], args := [d1, d2] }
  | _ => none }
def fnExactSphereComplexRow : OpenClaim := { program := "ytfgceigbfiohoaa", sum := "9f8d1248dd1401fc2bdd6cea149f34f91903c944813cc71bde4b33542043687c", func := "loop.example/g01273/laws.FnExactSphereComplex", spec := "fnExactSphereComplex", plainKeys := false, apart := false }
def FnExactSphereComplexSaid : Prop := fnExactSphereComplexRow.holds Try.pinned (OpenSpec.ofChange fnExactSphereComplexSpec)

/-- ITS FALSE NEIGHBOUR: 'it returns false'. Refute it at one input. -/
def fnExactSphereComplexWrong : ChangeSpec := { name := "fnExactSphereComplex", fn := fun _ => fun
  | [d1, d2] => { results := [.lit (.bool false)], args := [d1, d2] }
  | _ => none }
def FnExactSphereComplexWrongFalsely : Prop := fnExactSphereComplexRow.holds Try.pinned (OpenSpec.ofChange fnExactSphereComplexWrong)

/-- 'laws.FnExactKuennethNumber': WHATEVER THE INPUT: true; the input reads as it did. -/
def fnExactKuennethNumberSpec : ChangeSpec := { name := "fnExactKuennethNumber", fn := fun _ => fun
  | [d1, d2, d3] => { results := [.lit (.bool true)], args := [d1, d2, d3] }
  | _ => none }
def fnExactKuennethNumberRow : OpenClaim := { program := "ytfgceigbfiohoaa", sum := "9f8d1248dd1401fc2bdd6cea149f34f91903c944813cc71bde4b33542043687c", func := "loop.example/g01273/laws.FnExactKuennethNumber", spec := "fnExactKuennethNumber", inPlace := ["slices.overlaps[loop.example/g01273/impl.vector]"], unfollowed := true, recurses := true, plainKeys := false, apart := false }
def FnExactKuennethNumberSaid : Prop := fnExactKuennethNumberRow.holds Try.pinned (OpenSpec.ofChange fnExactKuennethNumberSpec)

/-- ITS FALSE NEIGHBOUR: 'it returns false'. Refute it at one input. -/
def fnExactKuennethNumberWrong : ChangeSpec := { name := "fnExactKuennethNumber", fn := fun _ => fun
  | [d1, d2, d3] => { results := [.lit (.bool false)], args := [d1, d2, d3] }
  | _ => none }
def FnExactKuennethNumberWrongFalsely : Prop := fnExactKuennethNumberRow.holds Try.pinned (OpenSpec.ofChange fnExactKuennethNumberWrong)

/-- 'laws.FnExactLastPage': WHATEVER THE INPUT: true; the input reads as it did. -/
def fnExactLastPageSpec : ChangeSpec := { name := "fnExactLastPage", fn := fun _ => fun
  | [d] => { results := [.lit (.bool true)], args := [d] }
  | _ => none }
def fnExactLastPageRow : OpenClaim := { program := "ytfgceigbfiohoaa", sum := "9f8d1248dd1401fc2bdd6cea149f34f91903c944813cc71bde4b33542043687c", func := "loop.example/g01273/laws.FnExactLastPage", spec := "fnExactLastPage", inPlace := ["slices.overlaps[loop.example/g01273/impl.vector]"], unfollowed := true, recurses := true, plainKeys := false, apart := false }
def FnExactLastPageSaid : Prop := fnExactLastPageRow.holds Try.pinned (OpenSpec.ofChange fnExactLastPageSpec)

/-- ITS FALSE NEIGHBOUR: 'it returns false'. Refute it at one input. -/
def fnExactLastPageWrong : ChangeSpec := { name := "fnExactLastPage", fn := fun _ => fun
  | [d] => { results := [.lit (.bool false)], args := [d] }
  | _ => none }
def FnExactLastPageWrongFalsely : Prop := fnExactLastPageRow.holds Try.pinned (OpenSpec.ofChange fnExactLastPageWrong)

/-- 'laws.FnExactPartOf': WHATEVER THE INPUT: true; the input reads as it did. -/
def fnExactPartOfSpec : ChangeSpec := { name := "fnExactPartOf", fn := fun _ => fun
  | [d1, d2] => { results := [.lit (.bool true)], args := [d1, d2] }
  | _ => none }
def fnExactPartOfRow : OpenClaim := { program := "ytfgceigbfiohoaa", sum := "9f8d1248dd1401fc2bdd6cea149f34f91903c944813cc71bde4b33542043687c", func := "loop.example/g01273/laws.FnExactPartOf", spec := "fnExactPartOf", plainKeys := false, apart := false }
def FnExactPartOfSaid : Prop := fnExactPartOfRow.holds Try.pinned (OpenSpec.ofChange fnExactPartOfSpec)

/-- ITS FALSE NEIGHBOUR: 'it returns false'. Refute it at one input. -/
def fnExactPartOfWrong : ChangeSpec := { name := "fnExactPartOf", fn := fun _ => fun
  | [d1, d2] => { results := [.lit (.bool false)], args := [d1, d2] }
  | _ => none }
def FnExactPartOfWrongFalsely : Prop := fnExactPartOfRow.holds Try.pinned (OpenSpec.ofChange fnExactPartOfWrong)

/-- 'laws.FnExactAddFamilies': WHATEVER THE INPUT: true; the input reads as it did. -/
def fnExactAddFamiliesSpec : ChangeSpec := { name := "fnExactAddFamilies", fn := fun _ => fun
  | [d1, d2, d3, d4, d5] => { results := [.lit (.bool true)], args := [d1, d2, d3, d4, d5] }
  | _ => none }
def fnExactAddFamiliesRow : OpenClaim := { program := "ytfgceigbfiohoaa", sum := "9f8d1248dd1401fc2bdd6cea149f34f91903c944813cc71bde4b33542043687c", func := "loop.example/g01273/laws.FnExactAddFamilies", spec := "fnExactAddFamilies", unfollowed := true, recurses := true, plainKeys := false, apart := false }
def FnExactAddFamiliesSaid : Prop := fnExactAddFamiliesRow.holds Try.pinned (OpenSpec.ofChange fnExactAddFamiliesSpec)

/-- ITS FALSE NEIGHBOUR: 'it returns false'. Refute it at one input. -/
def fnExactAddFamiliesWrong : ChangeSpec := { name := "fnExactAddFamilies", fn := fun _ => fun
  | [d1, d2, d3, d4, d5] => { results := [.lit (.bool false)], args := [d1, d2, d3, d4, d5] }
  | _ => none }
def FnExactAddFamiliesWrongFalsely : Prop := fnExactAddFamiliesRow.holds Try.pinned (OpenSpec.ofChange fnExactAddFamiliesWrong)

/-- 'laws.FnExactComposeFamilies': WHATEVER THE INPUT: true; the input reads as it did. -/
def fnExactComposeFamiliesSpec : ChangeSpec := { name := "fnExactComposeFamilies", fn := fun _ => fun
  | [d1, d2, d3, d4, d5] => { results := [.lit (.bool true)], args := [d1, d2, d3, d4, d5] }
  | _ => none }
def fnExactComposeFamiliesRow : OpenClaim := { program := "ytfgceigbfiohoaa", sum := "9f8d1248dd1401fc2bdd6cea149f34f91903c944813cc71bde4b33542043687c", func := "loop.example/g01273/laws.FnExactComposeFamilies", spec := "fnExactComposeFamilies", unfollowed := true, recurses := true, plainKeys := false, apart := false }
def FnExactComposeFamiliesSaid : Prop := fnExactComposeFamiliesRow.holds Try.pinned (OpenSpec.ofChange fnExactComposeFamiliesSpec)

/-- ITS FALSE NEIGHBOUR: 'it returns false'. Refute it at one input. -/
def fnExactComposeFamiliesWrong : ChangeSpec := { name := "fnExactComposeFamilies", fn := fun _ => fun
  | [d1, d2, d3, d4, d5] => { results := [.lit (.bool false)], args := [d1, d2, d3, d4, d5] }
  | _ => none }
def FnExactComposeFamiliesWrongFalsely : Prop := fnExactComposeFamiliesRow.holds Try.pinned (OpenSpec.ofChange fnExactComposeFamiliesWrong)

/-- 'laws.FnExactIsDouble': WHATEVER THE INPUT: true; the input reads as it did. -/
def fnExactIsDoubleSpec : ChangeSpec := { name := "fnExactIsDouble", fn := fun _ => fun
  | [d] => { results := [.lit (.bool true)], args := [d] }
  | _ => none }
def fnExactIsDoubleRow : OpenClaim := { program := "ytfgceigbfiohoaa", sum := "9f8d1248dd1401fc2bdd6cea149f34f91903c944813cc71bde4b33542043687c", func := "loop.example/g01273/laws.FnExactIsDouble", spec := "fnExactIsDouble", unfollowed := true, recurses := true, plainKeys := false, apart := false }
def FnExactIsDoubleSaid : Prop := fnExactIsDoubleRow.holds Try.pinned (OpenSpec.ofChange fnExactIsDoubleSpec)

/-- ITS FALSE NEIGHBOUR: 'it returns false'. Refute it at one input. -/
def fnExactIsDoubleWrong : ChangeSpec := { name := "fnExactIsDouble", fn := fun _ => fun
  | [d] => { results := [.lit (.bool false)], args := [d] }
  | _ => none }
def FnExactIsDoubleWrongFalsely : Prop := fnExactIsDoubleRow.holds Try.pinned (OpenSpec.ofChange fnExactIsDoubleWrong)

/-- 'laws.FnExactDoubleEuler': WHATEVER THE INPUT: true; the input reads as it did. -/
def fnExactDoubleEulerSpec : ChangeSpec := { name := "fnExactDoubleEuler", fn := fun _ => fun
  | [d] => { results := [.lit (.bool true)], args := [d] }
  | _ => none }
def fnExactDoubleEulerRow : OpenClaim := { program := "ytfgceigbfiohoaa", sum := "9f8d1248dd1401fc2bdd6cea149f34f91903c944813cc71bde4b33542043687c", func := "loop.example/g01273/laws.FnExactDoubleEuler", spec := "fnExactDoubleEuler", unfollowed := true, recurses := true, plainKeys := false, apart := false }
def FnExactDoubleEulerSaid : Prop := fnExactDoubleEulerRow.holds Try.pinned (OpenSpec.ofChange fnExactDoubleEulerSpec)

/-- ITS FALSE NEIGHBOUR: 'it returns false'. Refute it at one input. -/
def fnExactDoubleEulerWrong : ChangeSpec := { name := "fnExactDoubleEuler", fn := fun _ => fun
  | [d] => { results := [.lit (.bool false)], args := [d] }
  | _ => none }
def FnExactDoubleEulerWrongFalsely : Prop := fnExactDoubleEulerRow.holds Try.pinned (OpenSpec.ofChange fnExactDoubleEulerWrong)

/-- 'laws.FnExactDifferentialRank': WHATEVER THE INPUT: true; the input reads as it did. -/
def fnExactDifferentialRankSpec : ChangeSpec := { name := "fnExactDifferentialRank", fn := fun _ => fun
  | [d1, d2, d3, d4] => { results := [.lit (.bool true)], args := [d1, d2, d3, d4] }
  | _ => none }
def fnExactDifferentialRankRow : OpenClaim := { program := "ytfgceigbfiohoaa", sum := "9f8d1248dd1401fc2bdd6cea149f34f91903c944813cc71bde4b33542043687c", func := "loop.example/g01273/laws.FnExactDifferentialRank", spec := "fnExactDifferentialRank", inPlace := ["slices.overlaps[loop.example/g01273/impl.vector]"], plainKeys := false, apart := false }
def FnExactDifferentialRankSaid : Prop := fnExactDifferentialRankRow.holds Try.pinned (OpenSpec.ofChange fnExactDifferentialRankSpec)

/-- ITS FALSE NEIGHBOUR: 'it returns false'. Refute it at one input. -/
def fnExactDifferentialRankWrong : ChangeSpec := { name := "fnExactDifferentialRank", fn := fun _ => fun
  | [d1, d2, d3, d4] => { results := [.lit (.bool false)], args := [d1, d2, d3, d4] }
  | _ => none }
def FnExactDifferentialRankWrongFalsely : Prop := fnExactDifferentialRankRow.holds Try.pinned (OpenSpec.ofChange fnExactDifferentialRankWrong)

/- THE SECOND FORM. 'bulk': how many values and letters a reading holds, each counted each time it is reached (what is shared counts as often as it is met; a slice's spare places count too). A statement '..UptoSaid' is the law's where the arguments, and the package variables that the reading takes, are together of bulk at most 1048576: NARROWER than '..Said'. Prove '..Said' where nothing that the law and all that it calls make is longer than what came in: it says more and counts as full. Else prove '..UptoSaid'. A law counts once. -/
mutual
def uptoBulk {H : Type} : DataW H → Nat
  | .lit (.string bytes) => bytes.length + 1
  | .lit _ => 1
  | .nil => 1
  | .ptr d => uptoBulk d + 1
  | .slice elems spare => uptoBulkAll elems + uptoBulkAll spare + 1
  | .agg parts => uptoBulkAll parts + 1
  | .iface _ d => uptoBulk d + 1
  | .map entries => uptoBulkEntries entries + 1
  | .held _ => 1
def uptoBulkAll {H : Type} : List (DataW H) → Nat
  | [] => 0
  | d :: r => uptoBulk d + uptoBulkAll r
def uptoBulkEntries {H : Type} : List (Lit × DataW H) → Nat
  | [] => 0
  | x :: r => uptoBulkEntry x + uptoBulkEntries r
def uptoBulkEntry {H : Type} : Lit × DataW H → Nat
  | (.string bytes, d) => bytes.length + uptoBulk d + 1
  | (_, d) => uptoBulk d + 1
 end
def uptoSmall : (H : Type) → List (DataW H) → Bool := fun _ ds => decide (uptoBulkAll ds ≤ 1048576)
def OpenSpec.upto (s : _root_.Go.ChangeSpec) : _root_.Go.OpenSpec := { _root_.Go.OpenSpec.ofChange s with cond := some uptoSmall }

/-- 'laws.FnExactUnitComplex', WHERE WHAT IT READS IS OF BULK AT MOST 1048576: true; the input reads as it did. -/
def fnExactUnitComplexUptoRow : OpenClaim := { program := "ytfgceigbfiohoaa", sum := "9f8d1248dd1401fc2bdd6cea149f34f91903c944813cc71bde4b33542043687c", func := "loop.example/g01273/laws.FnExactUnitComplex", spec := "fnExactUnitComplex", plainKeys := false, apart := false, narrowed := true }
def FnExactUnitComplexUptoSaid : Prop := fnExactUnitComplexUptoRow.holds Try.pinned (OpenSpec.upto fnExactUnitComplexSpec)

/-- 'laws.FnExactTensorDims', WHERE WHAT IT READS IS OF BULK AT MOST 1048576: true; the input reads as it did. -/
def fnExactTensorDimsUptoRow : OpenClaim := { program := "ytfgceigbfiohoaa", sum := "9f8d1248dd1401fc2bdd6cea149f34f91903c944813cc71bde4b33542043687c", func := "loop.example/g01273/laws.FnExactTensorDims", spec := "fnExactTensorDims", unfollowed := true, recurses := true, plainKeys := false, apart := false, narrowed := true }
def FnExactTensorDimsUptoSaid : Prop := fnExactTensorDimsUptoRow.holds Try.pinned (OpenSpec.upto fnExactTensorDimsSpec)

/-- 'laws.FnExactShiftComplex', WHERE WHAT IT READS IS OF BULK AT MOST 1048576: true; the input reads as it did. -/
def fnExactShiftComplexUptoRow : OpenClaim := { program := "ytfgceigbfiohoaa", sum := "9f8d1248dd1401fc2bdd6cea149f34f91903c944813cc71bde4b33542043687c", func := "loop.example/g01273/laws.FnExactShiftComplex", spec := "fnExactShiftComplex", plainKeys := false, apart := false, narrowed := true }
def FnExactShiftComplexUptoSaid : Prop := fnExactShiftComplexUptoRow.holds Try.pinned (OpenSpec.upto fnExactShiftComplexSpec)

/-- 'laws.FnExactSphereComplex', WHERE WHAT IT READS IS OF BULK AT MOST 1048576: true; the input reads as it did. -/
def fnExactSphereComplexUptoRow : OpenClaim := { program := "ytfgceigbfiohoaa", sum := "9f8d1248dd1401fc2bdd6cea149f34f91903c944813cc71bde4b33542043687c", func := "loop.example/g01273/laws.FnExactSphereComplex", spec := "fnExactSphereComplex", plainKeys := false, apart := false, narrowed := true }
def FnExactSphereComplexUptoSaid : Prop := fnExactSphereComplexUptoRow.holds Try.pinned (OpenSpec.upto fnExactSphereComplexSpec)

/-- 'laws.FnExactKuennethNumber', WHERE WHAT IT READS IS OF BULK AT MOST 1048576: true; the input reads as it did. -/
def fnExactKuennethNumberUptoRow : OpenClaim := { program := "ytfgceigbfiohoaa", sum := "9f8d1248dd1401fc2bdd6cea149f34f91903c944813cc71bde4b33542043687c", func := "loop.example/g01273/laws.FnExactKuennethNumber", spec := "fnExactKuennethNumber", inPlace := ["slices.overlaps[loop.example/g01273/impl.vector]"], unfollowed := true, recurses := true, plainKeys := false, apart := false, narrowed := true }
def FnExactKuennethNumberUptoSaid : Prop := fnExactKuennethNumberUptoRow.holds Try.pinned (OpenSpec.upto fnExactKuennethNumberSpec)

/-- 'laws.FnExactLastPage', WHERE WHAT IT READS IS OF BULK AT MOST 1048576: true; the input reads as it did. -/
def fnExactLastPageUptoRow : OpenClaim := { program := "ytfgceigbfiohoaa", sum := "9f8d1248dd1401fc2bdd6cea149f34f91903c944813cc71bde4b33542043687c", func := "loop.example/g01273/laws.FnExactLastPage", spec := "fnExactLastPage", inPlace := ["slices.overlaps[loop.example/g01273/impl.vector]"], unfollowed := true, recurses := true, plainKeys := false, apart := false, narrowed := true }
def FnExactLastPageUptoSaid : Prop := fnExactLastPageUptoRow.holds Try.pinned (OpenSpec.upto fnExactLastPageSpec)

/-- 'laws.FnExactPartOf', WHERE WHAT IT READS IS OF BULK AT MOST 1048576: true; the input reads as it did. -/
def fnExactPartOfUptoRow : OpenClaim := { program := "ytfgceigbfiohoaa", sum := "9f8d1248dd1401fc2bdd6cea149f34f91903c944813cc71bde4b33542043687c", func := "loop.example/g01273/laws.FnExactPartOf", spec := "fnExactPartOf", plainKeys := false, apart := false, narrowed := true }
def FnExactPartOfUptoSaid : Prop := fnExactPartOfUptoRow.holds Try.pinned (OpenSpec.upto fnExactPartOfSpec)

/-- 'laws.FnExactAddFamilies', WHERE WHAT IT READS IS OF BULK AT MOST 1048576: true; the input reads as it did. -/
def fnExactAddFamiliesUptoRow : OpenClaim := { program := "ytfgceigbfiohoaa", sum := "9f8d1248dd1401fc2bdd6cea149f34f91903c944813cc71bde4b33542043687c", func := "loop.example/g01273/laws.FnExactAddFamilies", spec := "fnExactAddFamilies", unfollowed := true, recurses := true, plainKeys := false, apart := false, narrowed := true }
def FnExactAddFamiliesUptoSaid : Prop := fnExactAddFamiliesUptoRow.holds Try.pinned (OpenSpec.upto fnExactAddFamiliesSpec)

/-- 'laws.FnExactComposeFamilies', WHERE WHAT IT READS IS OF BULK AT MOST 1048576: true; the input reads as it did. -/
def fnExactComposeFamiliesUptoRow : OpenClaim := { program := "ytfgceigbfiohoaa", sum := "9f8d1248dd1401fc2bdd6cea149f34f91903c944813cc71bde4b33542043687c", func := "loop.example/g01273/laws.FnExactComposeFamilies", spec := "fnExactComposeFamilies", unfollowed := true, recurses := true, plainKeys := false, apart := false, narrowed := true }
def FnExactComposeFamiliesUptoSaid : Prop := fnExactComposeFamiliesUptoRow.holds Try.pinned (OpenSpec.upto fnExactComposeFamiliesSpec)

/-- 'laws.FnExactIsDouble', WHERE WHAT IT READS IS OF BULK AT MOST 1048576: true; the input reads as it did. -/
def fnExactIsDoubleUptoRow : OpenClaim := { program := "ytfgceigbfiohoaa", sum := "9f8d1248dd1401fc2bdd6cea149f34f91903c944813cc71bde4b33542043687c", func := "loop.example/g01273/laws.FnExactIsDouble", spec := "fnExactIsDouble", unfollowed := true, recurses := true, plainKeys := false, apart := false, narrowed := true }
def FnExactIsDoubleUptoSaid : Prop := fnExactIsDoubleUptoRow.holds Try.pinned (OpenSpec.upto fnExactIsDoubleSpec)

/-- 'laws.FnExactDoubleEuler', WHERE WHAT IT READS IS OF BULK AT MOST 1048576: true; the input reads as it did. -/
def fnExactDoubleEulerUptoRow : OpenClaim := { program := "ytfgceigbfiohoaa", sum := "9f8d1248dd1401fc2bdd6cea149f34f91903c944813cc71bde4b33542043687c", func := "loop.example/g01273/laws.FnExactDoubleEuler", spec := "fnExactDoubleEuler", unfollowed := true, recurses := true, plainKeys := false, apart := false, narrowed := true }
def FnExactDoubleEulerUptoSaid : Prop := fnExactDoubleEulerUptoRow.holds Try.pinned (OpenSpec.upto fnExactDoubleEulerSpec)

/-- 'laws.FnExactDifferentialRank', WHERE WHAT IT READS IS OF BULK AT MOST 1048576: true; the input reads as it did. -/
def fnExactDifferentialRankUptoRow : OpenClaim := { program := "ytfgceigbfiohoaa", sum := "9f8d1248dd1401fc2bdd6cea149f34f91903c944813cc71bde4b33542043687c", func := "loop.example/g01273/laws.FnExactDifferentialRank", spec := "fnExactDifferentialRank", inPlace := ["slices.overlaps[loop.example/g01273/impl.vector]"], plainKeys := false, apart := false, narrowed := true }
def FnExactDifferentialRankUptoSaid : Prop := fnExactDifferentialRankUptoRow.holds Try.pinned (OpenSpec.upto fnExactDifferentialRankSpec)

end Rows
end Go.Proofs.Ytfgceigbfiohoaa
