/-
  No cell of these rows narrows 'for every input' (looked for: loops, veiled, ifaces, maps, wideKeys, modest, calm, conditions, laid).
  DERIVED. THE GIVEN ROWS OF THIS SEAT. 12 by the template 'for every input the law returns true; each argument reads behind the call as it read before'; 0 by the template 'total and deterministic' (their statements: YtgclohjiaecgmaaTotals.lean).
  GIVEN WITH THE SEED: the statements are not yours to turn. If you find one false, say at which input.
  Laid BY PROGRAM, IN A SANDBOX (cutbox-rows.mjs): the forced cells as the released guide's own fill.sh prints them over the translation a639f6a712917221… (all of the seat's roots in one cut). By AI agents, Wed Nov 11 2026. No macro, syntax, notation, axiom, sorry.
-/
import Derived.Test.YtgclohjiaecgmaaChecked
import GoSem.Claim
import GoSem.ClaimJoined
import GoSem.ClaimMapViews
import Derived.JoinedTies
import Derived.KernelRfl
namespace Go.Proofs.Ytgclohjiaecgmaa
/- THE CELL 'sum', in the pinned program and in every row, IS THE sha256 OF THE DUMP (.gsa) THAT YtgclohjiaecgmaaProg.lean LOADS. Nothing in Lean hashes anything: it is a label: what it is worth is what the hold of that sum in a sandbox is worth. -/
noncomputable def Try.pinned : Pinned := { name := "ytgclohjiaecgmaa", sum := "a639f6a712917221ec0d5a0bae275d9908bdd9fc73373d2693949413bfae243c", checked := Try.checked }
namespace Rows
def none {H : Type} : Left H := { results := [], args := [] }

/-- 'laws.FnExactApproximateCycles': WHATEVER THE INPUT: true; the input reads as it did. -/
def fnExactApproximateCyclesSpec : ChangeSpec := { name := "fnExactApproximateCycles", fn := fun _ => fun
  | [d1, d2, d3, d4] => { results := [.lit (.bool true)], args := [d1, d2, d3, d4] }
  | _ => none }
def fnExactApproximateCyclesRow : OpenClaim := { program := "ytgclohjiaecgmaa", sum := "a639f6a712917221ec0d5a0bae275d9908bdd9fc73373d2693949413bfae243c", func := "loop.example/g01273/laws.FnExactApproximateCycles", spec := "fnExactApproximateCycles", inPlace := ["slices.overlaps[loop.example/g01273/impl.vector]"], unfollowed := true, recurses := true, plainKeys := false, apart := false }
def FnExactApproximateCyclesSaid : Prop := fnExactApproximateCyclesRow.holds Try.pinned (OpenSpec.ofChange fnExactApproximateCyclesSpec)

/-- ITS FALSE NEIGHBOUR: 'it returns false'. Refute it at one input. -/
def fnExactApproximateCyclesWrong : ChangeSpec := { name := "fnExactApproximateCycles", fn := fun _ => fun
  | [d1, d2, d3, d4] => { results := [.lit (.bool false)], args := [d1, d2, d3, d4] }
  | _ => none }
def FnExactApproximateCyclesWrongFalsely : Prop := fnExactApproximateCyclesRow.holds Try.pinned (OpenSpec.ofChange fnExactApproximateCyclesWrong)

/-- 'laws.FnExactBottomOf': WHATEVER THE INPUT: true; the input reads as it did. -/
def fnExactBottomOfSpec : ChangeSpec := { name := "fnExactBottomOf", fn := fun _ => fun
  | [d1, d2, d3, d4] => { results := [.lit (.bool true)], args := [d1, d2, d3, d4] }
  | _ => none }
def fnExactBottomOfRow : OpenClaim := { program := "ytgclohjiaecgmaa", sum := "a639f6a712917221ec0d5a0bae275d9908bdd9fc73373d2693949413bfae243c", func := "loop.example/g01273/laws.FnExactBottomOf", spec := "fnExactBottomOf", inPlace := ["slices.overlaps[loop.example/g01273/impl.vector]"], unfollowed := true, recurses := true, plainKeys := false, apart := false }
def FnExactBottomOfSaid : Prop := fnExactBottomOfRow.holds Try.pinned (OpenSpec.ofChange fnExactBottomOfSpec)

/-- ITS FALSE NEIGHBOUR: 'it returns false'. Refute it at one input. -/
def fnExactBottomOfWrong : ChangeSpec := { name := "fnExactBottomOf", fn := fun _ => fun
  | [d1, d2, d3, d4] => { results := [.lit (.bool false)], args := [d1, d2, d3, d4] }
  | _ => none }
def FnExactBottomOfWrongFalsely : Prop := fnExactBottomOfRow.holds Try.pinned (OpenSpec.ofChange fnExactBottomOfWrong)

/-- 'laws.FnExactPageNumber': WHATEVER THE INPUT: true; the input reads as it did. -/
def fnExactPageNumberSpec : ChangeSpec := { name := "fnExactPageNumber", fn := fun _ => fun
  | [d1, d2, d3, d4] => { results := [.lit (.bool true)], args := [d1, d2, d3, d4] }
  | _ => none }
def fnExactPageNumberRow : OpenClaim := { program := "ytgclohjiaecgmaa", sum := "a639f6a712917221ec0d5a0bae275d9908bdd9fc73373d2693949413bfae243c", func := "loop.example/g01273/laws.FnExactPageNumber", spec := "fnExactPageNumber", inPlace := ["slices.overlaps[loop.example/g01273/impl.vector]"], plainKeys := false, apart := false }
def FnExactPageNumberSaid : Prop := fnExactPageNumberRow.holds Try.pinned (OpenSpec.ofChange fnExactPageNumberSpec)

/-- ITS FALSE NEIGHBOUR: 'it returns false'. Refute it at one input. -/
def fnExactPageNumberWrong : ChangeSpec := { name := "fnExactPageNumber", fn := fun _ => fun
  | [d1, d2, d3, d4] => { results := [.lit (.bool false)], args := [d1, d2, d3, d4] }
  | _ => none }
def FnExactPageNumberWrongFalsely : Prop := fnExactPageNumberRow.holds Try.pinned (OpenSpec.ofChange fnExactPageNumberWrong)

/-- 'laws.FnExactPageBasis': WHATEVER THE INPUT: true; the input reads as it did. -/
def fnExactPageBasisSpec : ChangeSpec := { name := "fnExactPageBasis", fn := fun _ => fun
  | [d1, d2, d3, d4] => { results := [.lit (.bool true)], args := [d1, d2, d3, d4] }
  | _ => none }
def fnExactPageBasisRow : OpenClaim := { program := "ytgclohjiaecgmaa", sum := "a639f6a712917221ec0d5a0bae275d9908bdd9fc73373d2693949413bfae243c", func := "loop.example/g01273/laws.FnExactPageBasis", spec := "fnExactPageBasis", inPlace := ["slices.overlaps[loop.example/g01273/impl.vector]"], unfollowed := true, recurses := true, plainKeys := false, apart := false }
def FnExactPageBasisSaid : Prop := fnExactPageBasisRow.holds Try.pinned (OpenSpec.ofChange fnExactPageBasisSpec)

/-- ITS FALSE NEIGHBOUR: 'it returns false'. Refute it at one input. -/
def fnExactPageBasisWrong : ChangeSpec := { name := "fnExactPageBasis", fn := fun _ => fun
  | [d1, d2, d3, d4] => { results := [.lit (.bool false)], args := [d1, d2, d3, d4] }
  | _ => none }
def FnExactPageBasisWrongFalsely : Prop := fnExactPageBasisRow.holds Try.pinned (OpenSpec.ofChange fnExactPageBasisWrong)

/-- 'laws.FnExactLimitNumber': WHATEVER THE INPUT: true; the input reads as it did. -/
def fnExactLimitNumberSpec : ChangeSpec := { name := "fnExactLimitNumber", fn := fun _ => fun
  | [d1, d2, d3] => { results := [.lit (.bool true)], args := [d1, d2, d3] }
  | _ => none }
def fnExactLimitNumberRow : OpenClaim := { program := "ytgclohjiaecgmaa", sum := "a639f6a712917221ec0d5a0bae275d9908bdd9fc73373d2693949413bfae243c", func := "loop.example/g01273/laws.FnExactLimitNumber", spec := "fnExactLimitNumber", inPlace := ["slices.overlaps[loop.example/g01273/impl.vector]"], plainKeys := false, apart := false }
def FnExactLimitNumberSaid : Prop := fnExactLimitNumberRow.holds Try.pinned (OpenSpec.ofChange fnExactLimitNumberSpec)

/-- ITS FALSE NEIGHBOUR: 'it returns false'. Refute it at one input. -/
def fnExactLimitNumberWrong : ChangeSpec := { name := "fnExactLimitNumber", fn := fun _ => fun
  | [d1, d2, d3] => { results := [.lit (.bool false)], args := [d1, d2, d3] }
  | _ => none }
def FnExactLimitNumberWrongFalsely : Prop := fnExactLimitNumberRow.holds Try.pinned (OpenSpec.ofChange fnExactLimitNumberWrong)

/-- 'laws.FnExactDifferentialRank': WHATEVER THE INPUT: true; the input reads as it did. -/
def fnExactDifferentialRankSpec : ChangeSpec := { name := "fnExactDifferentialRank", fn := fun _ => fun
  | [d1, d2, d3, d4] => { results := [.lit (.bool true)], args := [d1, d2, d3, d4] }
  | _ => none }
def fnExactDifferentialRankRow : OpenClaim := { program := "ytgclohjiaecgmaa", sum := "a639f6a712917221ec0d5a0bae275d9908bdd9fc73373d2693949413bfae243c", func := "loop.example/g01273/laws.FnExactDifferentialRank", spec := "fnExactDifferentialRank", inPlace := ["slices.overlaps[loop.example/g01273/impl.vector]"], plainKeys := false, apart := false }
def FnExactDifferentialRankSaid : Prop := fnExactDifferentialRankRow.holds Try.pinned (OpenSpec.ofChange fnExactDifferentialRankSpec)

/-- ITS FALSE NEIGHBOUR: 'it returns false'. Refute it at one input. -/
def fnExactDifferentialRankWrong : ChangeSpec := { name := "fnExactDifferentialRank", fn := fun _ => fun
  | [d1, d2, d3, d4] => { results := [.lit (.bool false)], args := [d1, d2, d3, d4] }
  | _ => none }
def FnExactDifferentialRankWrongFalsely : Prop := fnExactDifferentialRankRow.holds Try.pinned (OpenSpec.ofChange fnExactDifferentialRankWrong)

/-- 'laws.FnExactPageDifferential': WHATEVER THE INPUT: true; the input reads as it did. -/
def fnExactPageDifferentialSpec : ChangeSpec := { name := "fnExactPageDifferential", fn := fun _ => fun
  | [d1, d2, d3, d4] => { results := [.lit (.bool true)], args := [d1, d2, d3, d4] }
  | _ => none }
def fnExactPageDifferentialRow : OpenClaim := { program := "ytgclohjiaecgmaa", sum := "a639f6a712917221ec0d5a0bae275d9908bdd9fc73373d2693949413bfae243c", func := "loop.example/g01273/laws.FnExactPageDifferential", spec := "fnExactPageDifferential", inPlace := ["slices.overlaps[loop.example/g01273/impl.vector]"], plainKeys := false, apart := false }
def FnExactPageDifferentialSaid : Prop := fnExactPageDifferentialRow.holds Try.pinned (OpenSpec.ofChange fnExactPageDifferentialSpec)

/-- ITS FALSE NEIGHBOUR: 'it returns false'. Refute it at one input. -/
def fnExactPageDifferentialWrong : ChangeSpec := { name := "fnExactPageDifferential", fn := fun _ => fun
  | [d1, d2, d3, d4] => { results := [.lit (.bool false)], args := [d1, d2, d3, d4] }
  | _ => none }
def FnExactPageDifferentialWrongFalsely : Prop := fnExactPageDifferentialRow.holds Try.pinned (OpenSpec.ofChange fnExactPageDifferentialWrong)

/-- 'laws.FnExactPageTable': WHATEVER THE INPUT: true; the input reads as it did. -/
def fnExactPageTableSpec : ChangeSpec := { name := "fnExactPageTable", fn := fun _ => fun
  | [d1, d2] => { results := [.lit (.bool true)], args := [d1, d2] }
  | _ => none }
def fnExactPageTableRow : OpenClaim := { program := "ytgclohjiaecgmaa", sum := "a639f6a712917221ec0d5a0bae275d9908bdd9fc73373d2693949413bfae243c", func := "loop.example/g01273/laws.FnExactPageTable", spec := "fnExactPageTable", inPlace := ["slices.overlaps[loop.example/g01273/impl.vector]"], unfollowed := true, recurses := true, plainKeys := false, apart := false }
def FnExactPageTableSaid : Prop := fnExactPageTableRow.holds Try.pinned (OpenSpec.ofChange fnExactPageTableSpec)

/-- ITS FALSE NEIGHBOUR: 'it returns false'. Refute it at one input. -/
def fnExactPageTableWrong : ChangeSpec := { name := "fnExactPageTable", fn := fun _ => fun
  | [d1, d2] => { results := [.lit (.bool false)], args := [d1, d2] }
  | _ => none }
def FnExactPageTableWrongFalsely : Prop := fnExactPageTableRow.holds Try.pinned (OpenSpec.ofChange fnExactPageTableWrong)

/-- 'laws.FnExactDualComplex': WHATEVER THE INPUT: true; the input reads as it did. -/
def fnExactDualComplexSpec : ChangeSpec := { name := "fnExactDualComplex", fn := fun _ => fun
  | [d] => { results := [.lit (.bool true)], args := [d] }
  | _ => none }
def fnExactDualComplexRow : OpenClaim := { program := "ytgclohjiaecgmaa", sum := "a639f6a712917221ec0d5a0bae275d9908bdd9fc73373d2693949413bfae243c", func := "loop.example/g01273/laws.FnExactDualComplex", spec := "fnExactDualComplex", plainKeys := false, apart := false }
def FnExactDualComplexSaid : Prop := fnExactDualComplexRow.holds Try.pinned (OpenSpec.ofChange fnExactDualComplexSpec)

/-- ITS FALSE NEIGHBOUR: 'it returns false'. Refute it at one input. -/
def fnExactDualComplexWrong : ChangeSpec := { name := "fnExactDualComplex", fn := fun _ => fun
  | [d] => { results := [.lit (.bool false)], args := [d] }
  | _ => none }
def FnExactDualComplexWrongFalsely : Prop := fnExactDualComplexRow.holds Try.pinned (OpenSpec.ofChange fnExactDualComplexWrong)

/-- 'laws.FnExactShiftComplex': WHATEVER THE INPUT: true; the input reads as it did. -/
def fnExactShiftComplexSpec : ChangeSpec := { name := "fnExactShiftComplex", fn := fun _ => fun
  | [d1, d2] => { results := [.lit (.bool true)], args := [d1, d2] }
  | _ => none }
def fnExactShiftComplexRow : OpenClaim := { program := "ytgclohjiaecgmaa", sum := "a639f6a712917221ec0d5a0bae275d9908bdd9fc73373d2693949413bfae243c", func := "loop.example/g01273/laws.FnExactShiftComplex", spec := "fnExactShiftComplex", plainKeys := false, apart := false }
def FnExactShiftComplexSaid : Prop := fnExactShiftComplexRow.holds Try.pinned (OpenSpec.ofChange fnExactShiftComplexSpec)

/-- ITS FALSE NEIGHBOUR: 'it returns false'. Refute it at one input. -/
def fnExactShiftComplexWrong : ChangeSpec := { name := "fnExactShiftComplex", fn := fun _ => fun
  | [d1, d2] => { results := [.lit (.bool false)], args := [d1, d2] }
  | _ => none }
def FnExactShiftComplexWrongFalsely : Prop := fnExactShiftComplexRow.holds Try.pinned (OpenSpec.ofChange fnExactShiftComplexWrong)

/-- 'laws.FnExactAddComplexes': WHATEVER THE INPUT: true; the input reads as it did. -/
def fnExactAddComplexesSpec : ChangeSpec := { name := "fnExactAddComplexes", fn := fun _ => fun
  | [d1, d2] => { results := [.lit (.bool true)], args := [d1, d2] }
  | _ => none }
def fnExactAddComplexesRow : OpenClaim := { program := "ytgclohjiaecgmaa", sum := "a639f6a712917221ec0d5a0bae275d9908bdd9fc73373d2693949413bfae243c", func := "loop.example/g01273/laws.FnExactAddComplexes", spec := "fnExactAddComplexes", plainKeys := false, apart := false }
def FnExactAddComplexesSaid : Prop := fnExactAddComplexesRow.holds Try.pinned (OpenSpec.ofChange fnExactAddComplexesSpec)

/-- ITS FALSE NEIGHBOUR: 'it returns false'. Refute it at one input. -/
def fnExactAddComplexesWrong : ChangeSpec := { name := "fnExactAddComplexes", fn := fun _ => fun
  | [d1, d2] => { results := [.lit (.bool false)], args := [d1, d2] }
  | _ => none }
def FnExactAddComplexesWrongFalsely : Prop := fnExactAddComplexesRow.holds Try.pinned (OpenSpec.ofChange fnExactAddComplexesWrong)

/-- 'laws.FnExactPartOf': WHATEVER THE INPUT: true; the input reads as it did. -/
def fnExactPartOfSpec : ChangeSpec := { name := "fnExactPartOf", fn := fun _ => fun
  | [d1, d2] => { results := [.lit (.bool true)], args := [d1, d2] }
  | _ => none }
def fnExactPartOfRow : OpenClaim := { program := "ytgclohjiaecgmaa", sum := "a639f6a712917221ec0d5a0bae275d9908bdd9fc73373d2693949413bfae243c", func := "loop.example/g01273/laws.FnExactPartOf", spec := "fnExactPartOf", plainKeys := false, apart := false }
def FnExactPartOfSaid : Prop := fnExactPartOfRow.holds Try.pinned (OpenSpec.ofChange fnExactPartOfSpec)

/-- ITS FALSE NEIGHBOUR: 'it returns false'. Refute it at one input. -/
def fnExactPartOfWrong : ChangeSpec := { name := "fnExactPartOf", fn := fun _ => fun
  | [d1, d2] => { results := [.lit (.bool false)], args := [d1, d2] }
  | _ => none }
def FnExactPartOfWrongFalsely : Prop := fnExactPartOfRow.holds Try.pinned (OpenSpec.ofChange fnExactPartOfWrong)

/- THE SECOND FORM. 'bulk': how many values and letters a reading holds, each counted each time it is reached (what is shared counts as often as it is met; a slice's spare places count too). A statement '..UptoSaid' is the law's where the arguments, and the package variables that the reading takes, are together of bulk at most 1048576: NARROWER than '..Said'. Prove '..Said' where nothing that the law and all that it calls make is longer than what came in: it says more and counts as full. Else prove '..UptoSaid'. A law counts once. -/
mutual
def uptoBulk {H : Type} : DataW H → Nat
  | .lit (.string bytes) => bytes.length + 1
  | .lit _ => 1
  | .nil => 1
  | .ptr d => uptoBulk d + 1
  | .slice elems spare => uptoBulkAll elems + uptoBulkAll spare + 1
  | .agg parts => uptoBulkAll parts + 1
  | .iface _ d => uptoBulk d + 1
  | .map entries => uptoBulkEntries entries + 1
  | .held _ => 1
def uptoBulkAll {H : Type} : List (DataW H) → Nat
  | [] => 0
  | d :: r => uptoBulk d + uptoBulkAll r
def uptoBulkEntries {H : Type} : List (Lit × DataW H) → Nat
  | [] => 0
  | x :: r => uptoBulkEntry x + uptoBulkEntries r
def uptoBulkEntry {H : Type} : Lit × DataW H → Nat
  | (.string bytes, d) => bytes.length + uptoBulk d + 1
  | (_, d) => uptoBulk d + 1
 end
def uptoSmall : (H : Type) → List (DataW H) → Bool := fun _ ds => decide (uptoBulkAll ds ≤ 1048576)
def OpenSpec.upto (s : _root_.Go.ChangeSpec) : _root_.Go.OpenSpec := { _root_.Go.OpenSpec.ofChange s with cond := some uptoSmall }

/-- 'laws.FnExactApproximateCycles', WHERE WHAT IT READS IS OF BULK AT MOST 1048576: true; the input reads as it did. -/
def fnExactApproximateCyclesUptoRow : OpenClaim := { program := "ytgclohjiaecgmaa", sum := "a639f6a712917221ec0d5a0bae275d9908bdd9fc73373d2693949413bfae243c", func := "loop.example/g01273/laws.FnExactApproximateCycles", spec := "fnExactApproximateCycles", inPlace := ["slices.overlaps[loop.example/g01273/impl.vector]"], unfollowed := true, recurses := true, plainKeys := false, apart := false, narrowed := true }
def FnExactApproximateCyclesUptoSaid : Prop := fnExactApproximateCyclesUptoRow.holds Try.pinned (OpenSpec.upto fnExactApproximateCyclesSpec)

/-- 'laws.FnExactBottomOf', WHERE WHAT IT READS IS OF BULK AT MOST 1048576: true; the input reads as it did. -/
def fnExactBottomOfUptoRow : OpenClaim := { program := "ytgclohjiaecgmaa", sum := "a639f6a712917221ec0d5a0bae275d9908bdd9fc73373d2693949413bfae243c", func := "loop.example/g01273/laws.FnExactBottomOf", spec := "fnExactBottomOf", inPlace := ["slices.overlaps[loop.example/g01273/impl.vector]"], unfollowed := true, recurses := true, plainKeys := false, apart := false, narrowed := true }
def FnExactBottomOfUptoSaid : Prop := fnExactBottomOfUptoRow.holds Try.pinned (OpenSpec.upto fnExactBottomOfSpec)

/-- 'laws.FnExactPageNumber', WHERE WHAT IT READS IS OF BULK AT MOST 1048576: true; the input reads as it did. -/
def fnExactPageNumberUptoRow : OpenClaim := { program := "ytgclohjiaecgmaa", sum := "a639f6a712917221ec0d5a0bae275d9908bdd9fc73373d2693949413bfae243c", func := "loop.example/g01273/laws.FnExactPageNumber", spec := "fnExactPageNumber", inPlace := ["slices.overlaps[loop.example/g01273/impl.vector]"], plainKeys := false, apart := false, narrowed := true }
def FnExactPageNumberUptoSaid : Prop := fnExactPageNumberUptoRow.holds Try.pinned (OpenSpec.upto fnExactPageNumberSpec)

/-- 'laws.FnExactPageBasis', WHERE WHAT IT READS IS OF BULK AT MOST 1048576: true; the input reads as it did. -/
def fnExactPageBasisUptoRow : OpenClaim := { program := "ytgclohjiaecgmaa", sum := "a639f6a712917221ec0d5a0bae275d9908bdd9fc73373d2693949413bfae243c", func := "loop.example/g01273/laws.FnExactPageBasis", spec := "fnExactPageBasis", inPlace := ["slices.overlaps[loop.example/g01273/impl.vector]"], unfollowed := true, recurses := true, plainKeys := false, apart := false, narrowed := true }
def FnExactPageBasisUptoSaid : Prop := fnExactPageBasisUptoRow.holds Try.pinned (OpenSpec.upto fnExactPageBasisSpec)

/-- 'laws.FnExactLimitNumber', WHERE WHAT IT READS IS OF BULK AT MOST 1048576: true; the input reads as it did. -/
def fnExactLimitNumberUptoRow : OpenClaim := { program := "ytgclohjiaecgmaa", sum := "a639f6a712917221ec0d5a0bae275d9908bdd9fc73373d2693949413bfae243c", func := "loop.example/g01273/laws.FnExactLimitNumber", spec := "fnExactLimitNumber", inPlace := ["slices.overlaps[loop.example/g01273/impl.vector]"], plainKeys := false, apart := false, narrowed := true }
def FnExactLimitNumberUptoSaid : Prop := fnExactLimitNumberUptoRow.holds Try.pinned (OpenSpec.upto fnExactLimitNumberSpec)

/-- 'laws.FnExactDifferentialRank', WHERE WHAT IT READS IS OF BULK AT MOST 1048576: true; the input reads as it did. -/
def fnExactDifferentialRankUptoRow : OpenClaim := { program := "ytgclohjiaecgmaa", sum := "a639f6a712917221ec0d5a0bae275d9908bdd9fc73373d2693949413bfae243c", func := "loop.example/g01273/laws.FnExactDifferentialRank", spec := "fnExactDifferentialRank", inPlace := ["slices.overlaps[loop.example/g01273/impl.vector]"], plainKeys := false, apart := false, narrowed := true }
def FnExactDifferentialRankUptoSaid : Prop := fnExactDifferentialRankUptoRow.holds Try.pinned (OpenSpec.upto fnExactDifferentialRankSpec)

/-- 'laws.FnExactPageDifferential', WHERE WHAT IT READS IS OF BULK AT MOST 1048576: true; the input reads as it did. -/
def fnExactPageDifferentialUptoRow : OpenClaim := { program := "ytgclohjiaecgmaa", sum := "a639f6a712917221ec0d5a0bae275d9908bdd9fc73373d2693949413bfae243c", func := "loop.example/g01273/laws.FnExactPageDifferential", spec := "fnExactPageDifferential", inPlace := ["slices.overlaps[loop.example/g01273/impl.vector]"], plainKeys := false, apart := false, narrowed := true }
def FnExactPageDifferentialUptoSaid : Prop := fnExactPageDifferentialUptoRow.holds Try.pinned (OpenSpec.upto fnExactPageDifferentialSpec)

/-- 'laws.FnExactPageTable', WHERE WHAT IT READS IS OF BULK AT MOST 1048576: true; the input reads as it did. -/
def fnExactPageTableUptoRow : OpenClaim := { program := "ytgclohjiaecgmaa", sum := "a639f6a712917221ec0d5a0bae275d9908bdd9fc73373d2693949413bfae243c", func := "loop.example/g01273/laws.FnExactPageTable", spec := "fnExactPageTable", inPlace := ["slices.overlaps[loop.example/g01273/impl.vector]"], unfollowed := true, recurses := true, plainKeys := false, apart := false, narrowed := true }
def FnExactPageTableUptoSaid : Prop := fnExactPageTableUptoRow.holds Try.pinned (OpenSpec.upto fnExactPageTableSpec)

/-- 'laws.FnExactDualComplex', WHERE WHAT IT READS IS OF BULK AT MOST 1048576: true; the input reads as it did. -/
def fnExactDualComplexUptoRow : OpenClaim := { program := "ytgclohjiaecgmaa", sum := "a639f6a712917221ec0d5a0bae275d9908bdd9fc73373d2693949413bfae243c", func := "loop.example/g01273/laws.FnExactDualComplex", spec := "fnExactDualComplex", plainKeys := false, apart := false, narrowed := true }
def FnExactDualComplexUptoSaid : Prop := fnExactDualComplexUptoRow.holds Try.pinned (OpenSpec.upto fnExactDualComplexSpec)

/-- 'laws.FnExactShiftComplex', WHERE WHAT IT READS IS OF BULK AT MOST 1048576: true; the input reads as it did. -/
def fnExactShiftComplexUptoRow : OpenClaim := { program := "ytgclohjiaecgmaa", sum := "a639f6a712917221ec0d5a0bae275d9908bdd9fc73373d2693949413bfae243c", func := "loop.example/g01273/laws.FnExactShiftComplex", spec := "fnExactShiftComplex", plainKeys := false, apart := false, narrowed := true }
def FnExactShiftComplexUptoSaid : Prop := fnExactShiftComplexUptoRow.holds Try.pinned (OpenSpec.upto fnExactShiftComplexSpec)

/-- 'laws.FnExactAddComplexes', WHERE WHAT IT READS IS OF BULK AT MOST 1048576: true; the input reads as it did. -/
def fnExactAddComplexesUptoRow : OpenClaim := { program := "ytgclohjiaecgmaa", sum := "a639f6a712917221ec0d5a0bae275d9908bdd9fc73373d2693949413bfae243c", func := "loop.example/g01273/laws.FnExactAddComplexes", spec := "fnExactAddComplexes", plainKeys := false, apart := false, narrowed := true }
def FnExactAddComplexesUptoSaid : Prop := fnExactAddComplexesUptoRow.holds Try.pinned (OpenSpec.upto fnExactAddComplexesSpec)

/-- 'laws.FnExactPartOf', WHERE WHAT IT READS IS OF BULK AT MOST 1048576: true; the input reads as it did. -/
def fnExactPartOfUptoRow : OpenClaim := { program := "ytgclohjiaecgmaa", sum := "a639f6a712917221ec0d5a0bae275d9908bdd9fc73373d2693949413bfae243c", func := "loop.example/g01273/laws.FnExactPartOf", spec := "fnExactPartOf", plainKeys := false, apart := false, narrowed := true }
def FnExactPartOfUptoSaid : Prop := fnExactPartOfUptoRow.holds Try.pinned (OpenSpec.upto fnExactPartOfSpec)

end Rows
end Go.Proofs.Ytgclohjiaecgmaa
