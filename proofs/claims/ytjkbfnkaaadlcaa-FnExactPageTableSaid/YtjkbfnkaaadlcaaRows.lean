/-
  No cell of these rows narrows 'for every input' (looked for: loops, veiled, ifaces, maps, wideKeys, modest, calm, conditions, laid).
  DERIVED. THE GIVEN ROWS OF THIS SEAT. 12 by the template 'for every input the law returns true; each argument reads behind the call as it read before'; 0 by the template 'total and deterministic' (their statements: YtjkbfnkaaadlcaaTotals.lean).
  GIVEN WITH THE SEED: the statements are not yours to turn. If you find one false, say at which input.
  Laid BY PROGRAM, IN A SANDBOX (cutbox-rows.mjs): the forced cells as the released guide's own fill.sh prints them over the translation 40db2475cdfc597d… (all of the seat's roots in one cut). By AI agents, Wed Nov 11 2026. No macro, syntax, notation, axiom, sorry.
-/
import Derived.Test.YtjkbfnkaaadlcaaChecked
import GoSem.Claim
import GoSem.ClaimJoined
import GoSem.ClaimMapViews
import Derived.JoinedTies
import Derived.KernelRfl
namespace Go.Proofs.Ytjkbfnkaaadlcaa
/- THE CELL 'sum', in the pinned program and in every row, IS THE sha256 OF THE DUMP (.gsa) THAT YtjkbfnkaaadlcaaProg.lean LOADS. Nothing in Lean hashes anything: it is a label: what it is worth is what the hold of that sum in a sandbox is worth. -/
noncomputable def Try.pinned : Pinned := { name := "ytjkbfnkaaadlcaa", sum := "40db2475cdfc597ddeb3871050a39aad86b5fdf531e76cd5e526a6161adf7053", checked := Try.checked }
namespace Rows
def none {H : Type} : Left H := { results := [], args := [] }

/-- 'laws.FnExactPageDifferential': WHATEVER THE INPUT: true; the input reads as it did. -/
def fnExactPageDifferentialSpec : ChangeSpec := { name := "fnExactPageDifferential", fn := fun _ => fun
  | [d1, d2, d3, d4] => { results := [.lit (.bool true)], args := [d1, d2, d3, d4] }
  | _ => none }
def fnExactPageDifferentialRow : OpenClaim := { program := "ytjkbfnkaaadlcaa", sum := "40db2475cdfc597ddeb3871050a39aad86b5fdf531e76cd5e526a6161adf7053", func := "loop.example/g01273/laws.FnExactPageDifferential", spec := "fnExactPageDifferential", inPlace := ["slices.overlaps[loop.example/g01273/impl.vector]"], plainKeys := false, apart := false }
def FnExactPageDifferentialSaid : Prop := fnExactPageDifferentialRow.holds Try.pinned (OpenSpec.ofChange fnExactPageDifferentialSpec)

/-- ITS FALSE NEIGHBOUR: 'it returns false'. Refute it at one input. -/
def fnExactPageDifferentialWrong : ChangeSpec := { name := "fnExactPageDifferential", fn := fun _ => fun
  | [d1, d2, d3, d4] => { results := [.lit (.bool false)], args := [d1, d2, d3, d4] }
  | _ => none }
def FnExactPageDifferentialWrongFalsely : Prop := fnExactPageDifferentialRow.holds Try.pinned (OpenSpec.ofChange fnExactPageDifferentialWrong)

/-- 'laws.FnExactPageTable': WHATEVER THE INPUT: true; the input reads as it did. -/
def fnExactPageTableSpec : ChangeSpec := { name := "fnExactPageTable", fn := fun _ => fun
  | [d1, d2] => { results := [.lit (.bool true)], args := [d1, d2] }
  | _ => none }
def fnExactPageTableRow : OpenClaim := { program := "ytjkbfnkaaadlcaa", sum := "40db2475cdfc597ddeb3871050a39aad86b5fdf531e76cd5e526a6161adf7053", func := "loop.example/g01273/laws.FnExactPageTable", spec := "fnExactPageTable", inPlace := ["slices.overlaps[loop.example/g01273/impl.vector]"], unfollowed := true, recurses := true, plainKeys := false, apart := false }
def FnExactPageTableSaid : Prop := fnExactPageTableRow.holds Try.pinned (OpenSpec.ofChange fnExactPageTableSpec)

/-- ITS FALSE NEIGHBOUR: 'it returns false'. Refute it at one input. -/
def fnExactPageTableWrong : ChangeSpec := { name := "fnExactPageTable", fn := fun _ => fun
  | [d1, d2] => { results := [.lit (.bool false)], args := [d1, d2] }
  | _ => none }
def FnExactPageTableWrongFalsely : Prop := fnExactPageTableRow.holds Try.pinned (OpenSpec.ofChange fnExactPageTableWrong)

/-- 'laws.FnExactDifferentialRank': WHATEVER THE INPUT: true; the input reads as it did. -/
def fnExactDifferentialRankSpec : ChangeSpec := { name := "fnExactDifferentialRank", fn := fun _ => fun
  | [d1, d2, d3, d4] => { results := [.lit (.bool true)], args := [d1, d2, d3, d4] }
  | _ => none }
def fnExactDifferentialRankRow : OpenClaim := { program := "ytjkbfnkaaadlcaa", sum := "40db2475cdfc597ddeb3871050a39aad86b5fdf531e76cd5e526a6161adf7053", func := "loop.example/g01273/laws.FnExactDifferentialRank", spec := "fnExactDifferentialRank", inPlace := ["slices.overlaps[loop.example/g01273/impl.vector]"], plainKeys := false, apart := false }
def FnExactDifferentialRankSaid : Prop := fnExactDifferentialRankRow.holds Try.pinned (OpenSpec.ofChange fnExactDifferentialRankSpec)

/-- ITS FALSE NEIGHBOUR: 'it returns false'. Refute it at one input. -/
def fnExactDifferentialRankWrong : ChangeSpec := { name := "fnExactDifferentialRank", fn := fun _ => fun
  | [d1, d2, d3, d4] => { results := [.lit (.bool false)], args := [d1, d2, d3, d4] }
  | _ => none }
def FnExactDifferentialRankWrongFalsely : Prop := fnExactDifferentialRankRow.holds Try.pinned (OpenSpec.ofChange fnExactDifferentialRankWrong)

/-- 'laws.FnExactPartOf': WHATEVER THE INPUT: true; the input reads as it did. -/
def fnExactPartOfSpec : ChangeSpec := { name := "fnExactPartOf", fn := fun _ => fun
  | [d1, d2] => { results := [.lit (.bool true)], args := [d1, d2] }
  | _ => none }
def fnExactPartOfRow : OpenClaim := { program := "ytjkbfnkaaadlcaa", sum := "40db2475cdfc597ddeb3871050a39aad86b5fdf531e76cd5e526a6161adf7053", func := "loop.example/g01273/laws.FnExactPartOf", spec := "fnExactPartOf", plainKeys := false, apart := false }
def FnExactPartOfSaid : Prop := fnExactPartOfRow.holds Try.pinned (OpenSpec.ofChange fnExactPartOfSpec)

/-- ITS FALSE NEIGHBOUR: 'it returns false'. Refute it at one input. -/
def fnExactPartOfWrong : ChangeSpec := { name := "fnExactPartOf", fn := fun _ => fun
  | [d1, d2] => { results := [.lit (.bool false)], args := [d1, d2] }
  | _ => none }
def FnExactPartOfWrongFalsely : Prop := fnExactPartOfRow.holds Try.pinned (OpenSpec.ofChange fnExactPartOfWrong)

/-- 'laws.FnExactDualComplex': WHATEVER THE INPUT: true; the input reads as it did. -/
def fnExactDualComplexSpec : ChangeSpec := { name := "fnExactDualComplex", fn := fun _ => fun
  | [d] => { results := [.lit (.bool true)], args := [d] }
  | _ => none }
def fnExactDualComplexRow : OpenClaim := { program := "ytjkbfnkaaadlcaa", sum := "40db2475cdfc597ddeb3871050a39aad86b5fdf531e76cd5e526a6161adf7053", func := "loop.example/g01273/laws.FnExactDualComplex", spec := "fnExactDualComplex", plainKeys := false, apart := false }
def FnExactDualComplexSaid : Prop := fnExactDualComplexRow.holds Try.pinned (OpenSpec.ofChange fnExactDualComplexSpec)

/-- ITS FALSE NEIGHBOUR: 'it returns false'. Refute it at one input. -/
def fnExactDualComplexWrong : ChangeSpec := { name := "fnExactDualComplex", fn := fun _ => fun
  | [d] => { results := [.lit (.bool false)], args := [d] }
  | _ => none }
def FnExactDualComplexWrongFalsely : Prop := fnExactDualComplexRow.holds Try.pinned (OpenSpec.ofChange fnExactDualComplexWrong)

/-- 'laws.FnExactShiftComplex': WHATEVER THE INPUT: true; the input reads as it did. -/
def fnExactShiftComplexSpec : ChangeSpec := { name := "fnExactShiftComplex", fn := fun _ => fun
  | [d1, d2] => { results := [.lit (.bool true)], args := [d1, d2] }
  | _ => none }
def fnExactShiftComplexRow : OpenClaim := { program := "ytjkbfnkaaadlcaa", sum := "40db2475cdfc597ddeb3871050a39aad86b5fdf531e76cd5e526a6161adf7053", func := "loop.example/g01273/laws.FnExactShiftComplex", spec := "fnExactShiftComplex", plainKeys := false, apart := false }
def FnExactShiftComplexSaid : Prop := fnExactShiftComplexRow.holds Try.pinned (OpenSpec.ofChange fnExactShiftComplexSpec)

/-- ITS FALSE NEIGHBOUR: 'it returns false'. Refute it at one input. -/
def fnExactShiftComplexWrong : ChangeSpec := { name := "fnExactShiftComplex", fn := fun _ => fun
  | [d1, d2] => { results := [.lit (.bool false)], args := [d1, d2] }
  | _ => none }
def FnExactShiftComplexWrongFalsely : Prop := fnExactShiftComplexRow.holds Try.pinned (OpenSpec.ofChange fnExactShiftComplexWrong)

/-- 'laws.FnExactAddComplexes': WHATEVER THE INPUT: true; the input reads as it did. -/
def fnExactAddComplexesSpec : ChangeSpec := { name := "fnExactAddComplexes", fn := fun _ => fun
  | [d1, d2] => { results := [.lit (.bool true)], args := [d1, d2] }
  | _ => none }
def fnExactAddComplexesRow : OpenClaim := { program := "ytjkbfnkaaadlcaa", sum := "40db2475cdfc597ddeb3871050a39aad86b5fdf531e76cd5e526a6161adf7053", func := "loop.example/g01273/laws.FnExactAddComplexes", spec := "fnExactAddComplexes", plainKeys := false, apart := false }
def FnExactAddComplexesSaid : Prop := fnExactAddComplexesRow.holds Try.pinned (OpenSpec.ofChange fnExactAddComplexesSpec)

/-- ITS FALSE NEIGHBOUR: 'it returns false'. Refute it at one input. -/
def fnExactAddComplexesWrong : ChangeSpec := { name := "fnExactAddComplexes", fn := fun _ => fun
  | [d1, d2] => { results := [.lit (.bool false)], args := [d1, d2] }
  | _ => none }
def FnExactAddComplexesWrongFalsely : Prop := fnExactAddComplexesRow.holds Try.pinned (OpenSpec.ofChange fnExactAddComplexesWrong)

/-- 'laws.FnExactZeroFamily': WHATEVER THE INPUT: true; the input reads as it did. -/
def fnExactZeroFamilySpec : ChangeSpec := { name := "fnExactZeroFamily", fn := fun _ => fun
  | [d1, d2, d3] => { results := [.lit (.bool true)], args := [d1, d2, d3] }
  | _ => none }
def fnExactZeroFamilyRow : OpenClaim := { program := "ytjkbfnkaaadlcaa", sum := "40db2475cdfc597ddeb3871050a39aad86b5fdf531e76cd5e526a6161adf7053", func := "loop.example/g01273/laws.FnExactZeroFamily", spec := "fnExactZeroFamily", plainKeys := false, apart := false }
def FnExactZeroFamilySaid : Prop := fnExactZeroFamilyRow.holds Try.pinned (OpenSpec.ofChange fnExactZeroFamilySpec)

/-- ITS FALSE NEIGHBOUR: 'it returns false'. Refute it at one input. -/
def fnExactZeroFamilyWrong : ChangeSpec := { name := "fnExactZeroFamily", fn := fun _ => fun
  | [d1, d2, d3] => { results := [.lit (.bool false)], args := [d1, d2, d3] }
  | _ => none }
def FnExactZeroFamilyWrongFalsely : Prop := fnExactZeroFamilyRow.holds Try.pinned (OpenSpec.ofChange fnExactZeroFamilyWrong)

/-- 'laws.FnExactIdentityMap': WHATEVER THE INPUT: true; the input reads as it did. -/
def fnExactIdentityMapSpec : ChangeSpec := { name := "fnExactIdentityMap", fn := fun _ => fun
  | [d] => { results := [.lit (.bool true)], args := [d] }
  | _ => none }
def fnExactIdentityMapRow : OpenClaim := { program := "ytjkbfnkaaadlcaa", sum := "40db2475cdfc597ddeb3871050a39aad86b5fdf531e76cd5e526a6161adf7053", func := "loop.example/g01273/laws.FnExactIdentityMap", spec := "fnExactIdentityMap", plainKeys := false, apart := false }
def FnExactIdentityMapSaid : Prop := fnExactIdentityMapRow.holds Try.pinned (OpenSpec.ofChange fnExactIdentityMapSpec)

/-- ITS FALSE NEIGHBOUR: 'it returns false'. Refute it at one input. -/
def fnExactIdentityMapWrong : ChangeSpec := { name := "fnExactIdentityMap", fn := fun _ => fun
  | [d] => { results := [.lit (.bool false)], args := [d] }
  | _ => none }
def FnExactIdentityMapWrongFalsely : Prop := fnExactIdentityMapRow.holds Try.pinned (OpenSpec.ofChange fnExactIdentityMapWrong)

/-- 'laws.FnExactApplyFamily': WHATEVER THE INPUT: true; the input reads as it did. -/
def fnExactApplyFamilySpec : ChangeSpec := { name := "fnExactApplyFamily", fn := fun _ => fun
  | [d1, d2, d3, d4, d5] => { results := [.lit (.bool true)], args := [d1, d2, d3, d4, d5] }
  | _ => none }
def fnExactApplyFamilyRow : OpenClaim := { program := "ytjkbfnkaaadlcaa", sum := "40db2475cdfc597ddeb3871050a39aad86b5fdf531e76cd5e526a6161adf7053", func := "loop.example/g01273/laws.FnExactApplyFamily", spec := "fnExactApplyFamily", plainKeys := false, apart := false }
def FnExactApplyFamilySaid : Prop := fnExactApplyFamilyRow.holds Try.pinned (OpenSpec.ofChange fnExactApplyFamilySpec)

/-- ITS FALSE NEIGHBOUR: 'it returns false'. Refute it at one input. -/
def fnExactApplyFamilyWrong : ChangeSpec := { name := "fnExactApplyFamily", fn := fun _ => fun
  | [d1, d2, d3, d4, d5] => { results := [.lit (.bool false)], args := [d1, d2, d3, d4, d5] }
  | _ => none }
def FnExactApplyFamilyWrongFalsely : Prop := fnExactApplyFamilyRow.holds Try.pinned (OpenSpec.ofChange fnExactApplyFamilyWrong)

/-- 'laws.FnExactAddFamilies': WHATEVER THE INPUT: true; the input reads as it did. -/
def fnExactAddFamiliesSpec : ChangeSpec := { name := "fnExactAddFamilies", fn := fun _ => fun
  | [d1, d2, d3, d4, d5] => { results := [.lit (.bool true)], args := [d1, d2, d3, d4, d5] }
  | _ => none }
def fnExactAddFamiliesRow : OpenClaim := { program := "ytjkbfnkaaadlcaa", sum := "40db2475cdfc597ddeb3871050a39aad86b5fdf531e76cd5e526a6161adf7053", func := "loop.example/g01273/laws.FnExactAddFamilies", spec := "fnExactAddFamilies", unfollowed := true, recurses := true, plainKeys := false, apart := false }
def FnExactAddFamiliesSaid : Prop := fnExactAddFamiliesRow.holds Try.pinned (OpenSpec.ofChange fnExactAddFamiliesSpec)

/-- ITS FALSE NEIGHBOUR: 'it returns false'. Refute it at one input. -/
def fnExactAddFamiliesWrong : ChangeSpec := { name := "fnExactAddFamilies", fn := fun _ => fun
  | [d1, d2, d3, d4, d5] => { results := [.lit (.bool false)], args := [d1, d2, d3, d4, d5] }
  | _ => none }
def FnExactAddFamiliesWrongFalsely : Prop := fnExactAddFamiliesRow.holds Try.pinned (OpenSpec.ofChange fnExactAddFamiliesWrong)

/-- 'laws.FnExactComposeFamilies': WHATEVER THE INPUT: true; the input reads as it did. -/
def fnExactComposeFamiliesSpec : ChangeSpec := { name := "fnExactComposeFamilies", fn := fun _ => fun
  | [d1, d2, d3, d4, d5] => { results := [.lit (.bool true)], args := [d1, d2, d3, d4, d5] }
  | _ => none }
def fnExactComposeFamiliesRow : OpenClaim := { program := "ytjkbfnkaaadlcaa", sum := "40db2475cdfc597ddeb3871050a39aad86b5fdf531e76cd5e526a6161adf7053", func := "loop.example/g01273/laws.FnExactComposeFamilies", spec := "fnExactComposeFamilies", unfollowed := true, recurses := true, plainKeys := false, apart := false }
def FnExactComposeFamiliesSaid : Prop := fnExactComposeFamiliesRow.holds Try.pinned (OpenSpec.ofChange fnExactComposeFamiliesSpec)

/-- ITS FALSE NEIGHBOUR: 'it returns false'. Refute it at one input. -/
def fnExactComposeFamiliesWrong : ChangeSpec := { name := "fnExactComposeFamilies", fn := fun _ => fun
  | [d1, d2, d3, d4, d5] => { results := [.lit (.bool false)], args := [d1, d2, d3, d4, d5] }
  | _ => none }
def FnExactComposeFamiliesWrongFalsely : Prop := fnExactComposeFamiliesRow.holds Try.pinned (OpenSpec.ofChange fnExactComposeFamiliesWrong)

/- THE SECOND FORM. 'bulk': how many values and letters a reading holds, each counted each time it is reached (what is shared counts as often as it is met; a slice's spare places count too). A statement '..UptoSaid' is the law's where the arguments, and the package variables that the reading takes, are together of bulk at most 1048576: NARROWER than '..Said'. Prove '..Said' where nothing that the law and all that it calls make is longer than what came in: it says more and counts as full. Else prove '..UptoSaid'. A law counts once. -/
mutual
def uptoBulk {H : Type} : DataW H → Nat
  | .lit (.string bytes) => bytes.length + 1
  | .lit _ => 1
  | .nil => 1
  | .ptr d => uptoBulk d + 1
  | .slice elems spare => uptoBulkAll elems + uptoBulkAll spare + 1
  | .agg parts => uptoBulkAll parts + 1
  | .iface _ d => uptoBulk d + 1
  | .map entries => uptoBulkEntries entries + 1
  | .held _ => 1
def uptoBulkAll {H : Type} : List (DataW H) → Nat
  | [] => 0
  | d :: r => uptoBulk d + uptoBulkAll r
def uptoBulkEntries {H : Type} : List (Lit × DataW H) → Nat
  | [] => 0
  | x :: r => uptoBulkEntry x + uptoBulkEntries r
def uptoBulkEntry {H : Type} : Lit × DataW H → Nat
  | (.string bytes, d) => bytes.length + uptoBulk d + 1
  | (_, d) => uptoBulk d + 1
 end
def uptoSmall : (H : Type) → List (DataW H) → Bool := fun _ ds => decide (uptoBulkAll ds ≤ 1048576)
def OpenSpec.upto (s : _root_.Go.ChangeSpec) : _root_.Go.OpenSpec := { _root_.Go.OpenSpec.ofChange s with cond := some uptoSmall }

/-- 'laws.FnExactPageDifferential', WHERE WHAT IT READS IS OF BULK AT MOST 1048576: true; the input reads as it did. -/
def fnExactPageDifferentialUptoRow : OpenClaim := { program := "ytjkbfnkaaadlcaa", sum := "40db2475cdfc597ddeb3871050a39aad86b5fdf531e76cd5e526a6161adf7053", func := "loop.example/g01273/laws.FnExactPageDifferential", spec := "fnExactPageDifferential", inPlace := ["slices.overlaps[loop.example/g01273/impl.vector]"], plainKeys := false, apart := false, narrowed := true }
def FnExactPageDifferentialUptoSaid : Prop := fnExactPageDifferentialUptoRow.holds Try.pinned (OpenSpec.upto fnExactPageDifferentialSpec)

/-- 'laws.FnExactPageTable', WHERE WHAT IT READS IS OF BULK AT MOST 1048576: true; the input reads as it did. -/
def fnExactPageTableUptoRow : OpenClaim := { program := "ytjkbfnkaaadlcaa", sum := "40db2475cdfc597ddeb3871050a39aad86b5fdf531e76cd5e526a6161adf7053", func := "loop.example/g01273/laws.FnExactPageTable", spec := "fnExactPageTable", inPlace := ["slices.overlaps[loop.example/g01273/impl.vector]"], unfollowed := true, recurses := true, plainKeys := false, apart := false, narrowed := true }
def FnExactPageTableUptoSaid : Prop := fnExactPageTableUptoRow.holds Try.pinned (OpenSpec.upto fnExactPageTableSpec)

/-- 'laws.FnExactDifferentialRank', WHERE WHAT IT READS IS OF BULK AT MOST 1048576: true; the input reads as it did. -/
def fnExactDifferentialRankUptoRow : OpenClaim := { program := "ytjkbfnkaaadlcaa", sum := "40db2475cdfc597ddeb3871050a39aad86b5fdf531e76cd5e526a6161adf7053", func := "loop.example/g01273/laws.FnExactDifferentialRank", spec := "fnExactDifferentialRank", inPlace := ["slices.overlaps[loop.example/g01273/impl.vector]"], plainKeys := false, apart := false, narrowed := true }
def FnExactDifferentialRankUptoSaid : Prop := fnExactDifferentialRankUptoRow.holds Try.pinned (OpenSpec.upto fnExactDifferentialRankSpec)

/-- 'laws.FnExactPartOf', WHERE WHAT IT READS IS OF BULK AT MOST 1048576: true; the input reads as it did. -/
def fnExactPartOfUptoRow : OpenClaim := { program := "ytjkbfnkaaadlcaa", sum := "40db2475cdfc597ddeb3871050a39aad86b5fdf531e76cd5e526a6161adf7053", func := "loop.example/g01273/laws.FnExactPartOf", spec := "fnExactPartOf", plainKeys := false, apart := false, narrowed := true }
def FnExactPartOfUptoSaid : Prop := fnExactPartOfUptoRow.holds Try.pinned (OpenSpec.upto fnExactPartOfSpec)

/-- 'laws.FnExactDualComplex', WHERE WHAT IT READS IS OF BULK AT MOST 1048576: true; the input reads as it did. -/
def fnExactDualComplexUptoRow : OpenClaim := { program := "ytjkbfnkaaadlcaa", sum := "40db2475cdfc597ddeb3871050a39aad86b5fdf531e76cd5e526a6161adf7053", func := "loop.example/g01273/laws.FnExactDualComplex", spec := "fnExactDualComplex", plainKeys := false, apart := false, narrowed := true }
def FnExactDualComplexUptoSaid : Prop := fnExactDualComplexUptoRow.holds Try.pinned (OpenSpec.upto fnExactDualComplexSpec)

/-- 'laws.FnExactShiftComplex', WHERE WHAT IT READS IS OF BULK AT MOST 1048576: true; the input reads as it did. -/
def fnExactShiftComplexUptoRow : OpenClaim := { program := "ytjkbfnkaaadlcaa", sum := "40db2475cdfc597ddeb3871050a39aad86b5fdf531e76cd5e526a6161adf7053", func := "loop.example/g01273/laws.FnExactShiftComplex", spec := "fnExactShiftComplex", plainKeys := false, apart := false, narrowed := true }
def FnExactShiftComplexUptoSaid : Prop := fnExactShiftComplexUptoRow.holds Try.pinned (OpenSpec.upto fnExactShiftComplexSpec)

/-- 'laws.FnExactAddComplexes', WHERE WHAT IT READS IS OF BULK AT MOST 1048576: true; the input reads as it did. -/
def fnExactAddComplexesUptoRow : OpenClaim := { program := "ytjkbfnkaaadlcaa", sum := "40db2475cdfc597ddeb3871050a39aad86b5fdf531e76cd5e526a6161adf7053", func := "loop.example/g01273/laws.FnExactAddComplexes", spec := "fnExactAddComplexes", plainKeys := false, apart := false, narrowed := true }
def FnExactAddComplexesUptoSaid : Prop := fnExactAddComplexesUptoRow.holds Try.pinned (OpenSpec.upto fnExactAddComplexesSpec)

/-- 'laws.FnExactZeroFamily', WHERE WHAT IT READS IS OF BULK AT MOST 1048576: true; the input reads as it did. -/
def fnExactZeroFamilyUptoRow : OpenClaim := { program := "ytjkbfnkaaadlcaa", sum := "40db2475cdfc597ddeb3871050a39aad86b5fdf531e76cd5e526a6161adf7053", func := "loop.example/g01273/laws.FnExactZeroFamily", spec := "fnExactZeroFamily", plainKeys := false, apart := false, narrowed := true }
def FnExactZeroFamilyUptoSaid : Prop := fnExactZeroFamilyUptoRow.holds Try.pinned (OpenSpec.upto fnExactZeroFamilySpec)

/-- 'laws.FnExactIdentityMap', WHERE WHAT IT READS IS OF BULK AT MOST 1048576: true; the input reads as it did. -/
def fnExactIdentityMapUptoRow : OpenClaim := { program := "ytjkbfnkaaadlcaa", sum := "40db2475cdfc597ddeb3871050a39aad86b5fdf531e76cd5e526a6161adf7053", func := "loop.example/g01273/laws.FnExactIdentityMap", spec := "fnExactIdentityMap", plainKeys := false, apart := false, narrowed := true }
def FnExactIdentityMapUptoSaid : Prop := fnExactIdentityMapUptoRow.holds Try.pinned (OpenSpec.upto fnExactIdentityMapSpec)

/-- 'laws.FnExactApplyFamily', WHERE WHAT IT READS IS OF BULK AT MOST 1048576: true; the input reads as it did. -/
def fnExactApplyFamilyUptoRow : OpenClaim := { program := "ytjkbfnkaaadlcaa", sum := "40db2475cdfc597ddeb3871050a39aad86b5fdf531e76cd5e526a6161adf7053", func := "loop.example/g01273/laws.FnExactApplyFamily", spec := "fnExactApplyFamily", plainKeys := false, apart := false, narrowed := true }
def FnExactApplyFamilyUptoSaid : Prop := fnExactApplyFamilyUptoRow.holds Try.pinned (OpenSpec.upto fnExactApplyFamilySpec)

/-- 'laws.FnExactAddFamilies', WHERE WHAT IT READS IS OF BULK AT MOST 1048576: true; the input reads as it did. -/
def fnExactAddFamiliesUptoRow : OpenClaim := { program := "ytjkbfnkaaadlcaa", sum := "40db2475cdfc597ddeb3871050a39aad86b5fdf531e76cd5e526a6161adf7053", func := "loop.example/g01273/laws.FnExactAddFamilies", spec := "fnExactAddFamilies", unfollowed := true, recurses := true, plainKeys := false, apart := false, narrowed := true }
def FnExactAddFamiliesUptoSaid : Prop := fnExactAddFamiliesUptoRow.holds Try.pinned (OpenSpec.upto fnExactAddFamiliesSpec)

/-- 'laws.FnExactComposeFamilies', WHERE WHAT IT READS IS OF BULK AT MOST 1048576: true; the input reads as it did. -/
def fnExactComposeFamiliesUptoRow : OpenClaim := { program := "ytjkbfnkaaadlcaa", sum := "40db2475cdfc597ddeb3871050a39aad86b5fdf531e76cd5e526a6161adf7053", func := "loop.example/g01273/laws.FnExactComposeFamilies", spec := "fnExactComposeFamilies", unfollowed := true, recurses := true, plainKeys := false, apart := false, narrowed := true }
def FnExactComposeFamiliesUptoSaid : Prop := fnExactComposeFamiliesUptoRow.holds Try.pinned (OpenSpec.upto fnExactComposeFamiliesSpec)

end Rows
end Go.Proofs.Ytjkbfnkaaadlcaa
