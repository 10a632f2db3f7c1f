/-
  No cell of these rows narrows 'for every input' (looked for: loops, veiled, ifaces, maps, wideKeys, modest, calm, conditions, laid).
  DERIVED. THE GIVEN ROWS OF THIS SEAT. 18 by the template 'for every input the law returns true; each argument reads behind the call as it read before'; 0 by the template 'total and deterministic' (their statements: YtpdkfidmmjlmnabTotals.lean).
  GIVEN WITH THE SEED: the statements are not yours to turn. If you find one false, say at which input.
  Laid BY PROGRAM, IN A SANDBOX (cutbox-rows.mjs): the forced cells as the released guide's own fill.sh prints them over the translation 05869373bc89c7ef… (all of the seat's roots in one cut). By AI agents, Wed Nov 11 2026. No macro, syntax, notation, axiom, sorry.
-/
import Derived.Test.YtpdkfidmmjlmnabChecked
import GoSem.Claim
import GoSem.ClaimJoined
import GoSem.ClaimMapViews
import Derived.JoinedTies
import Derived.KernelRfl
namespace Go.Proofs.Ytpdkfidmmjlmnab
/- THE CELL 'sum', in the pinned program and in every row, IS THE sha256 OF THE DUMP (.gsa) THAT YtpdkfidmmjlmnabProg.lean LOADS. Nothing in Lean hashes anything: it is a label: what it is worth is what the hold of that sum in a sandbox is worth. -/
noncomputable def Try.pinned : Pinned := { name := "ytpdkfidmmjlmnab", sum := "05869373bc89c7ef4d64b6f30e8ed03281fbeb7c80ecf9a24912097e8d0b147c", checked := Try.checked }
namespace Rows
def none {H : Type} : Left H := { results := [], args := [] }

/-- 'laws.FnExactIsFiltered': WHATEVER THE INPUT: true; the input reads as it did. -/
def fnExactIsFilteredSpec : ChangeSpec := { name := "fnExactIsFiltered", fn := fun _ => fun
  | [d] => { results := [.lit (.bool true)], args := [d] }
  | _ => none }
def fnExactIsFilteredRow : OpenClaim := { program := "ytpdkfidmmjlmnab", sum := "05869373bc89c7ef4d64b6f30e8ed03281fbeb7c80ecf9a24912097e8d0b147c", func := "loop.example/g01273/laws.FnExactIsFiltered", spec := "fnExactIsFiltered", plainKeys := false, apart := false }
def FnExactIsFilteredSaid : Prop := fnExactIsFilteredRow.holds Try.pinned (OpenSpec.ofChange fnExactIsFilteredSpec)

/-- ITS FALSE NEIGHBOUR: 'it returns false'. Refute it at one input. -/
def fnExactIsFilteredWrong : ChangeSpec := { name := "fnExactIsFiltered", fn := fun _ => fun
  | [d] => { results := [.lit (.bool false)], args := [d] }
  | _ => none }
def FnExactIsFilteredWrongFalsely : Prop := fnExactIsFilteredRow.holds Try.pinned (OpenSpec.ofChange fnExactIsFilteredWrong)

/-- 'laws.FnExactApproximateCycles': WHATEVER THE INPUT: true; the input reads as it did. -/
def fnExactApproximateCyclesSpec : ChangeSpec := { name := "fnExactApproximateCycles", fn := fun _ => fun
  | [d1, d2, d3, d4] => { results := [.lit (.bool true)], args := [d1, d2, d3, d4] }
  | _ => none }
def fnExactApproximateCyclesRow : OpenClaim := { program := "ytpdkfidmmjlmnab", sum := "05869373bc89c7ef4d64b6f30e8ed03281fbeb7c80ecf9a24912097e8d0b147c", func := "loop.example/g01273/laws.FnExactApproximateCycles", spec := "fnExactApproximateCycles", inPlace := ["slices.overlaps[loop.example/g01273/impl.vector]"], unfollowed := true, recurses := true, plainKeys := false, apart := false }
def FnExactApproximateCyclesSaid : Prop := fnExactApproximateCyclesRow.holds Try.pinned (OpenSpec.ofChange fnExactApproximateCyclesSpec)

/-- ITS FALSE NEIGHBOUR: 'it returns false'. Refute it at one input. -/
def fnExactApproximateCyclesWrong : ChangeSpec := { name := "fnExactApproximateCycles", fn := fun _ => fun
  | [d1, d2, d3, d4] => { results := [.lit (.bool false)], args := [d1, d2, d3, d4] }
  | _ => none }
def FnExactApproximateCyclesWrongFalsely : Prop := fnExactApproximateCyclesRow.holds Try.pinned (OpenSpec.ofChange fnExactApproximateCyclesWrong)

/-- 'laws.FnExactBottomOf': WHATEVER THE INPUT: true; the input reads as it did. -/
def fnExactBottomOfSpec : ChangeSpec := { name := "fnExactBottomOf", fn := fun _ => fun
  | [d1, d2, d3, d4] => { results := [.lit (.bool true)], args := [d1, d2, d3, d4] }
  | _ => none }
def fnExactBottomOfRow : OpenClaim := { program := "ytpdkfidmmjlmnab", sum := "05869373bc89c7ef4d64b6f30e8ed03281fbeb7c80ecf9a24912097e8d0b147c", func := "loop.example/g01273/laws.FnExactBottomOf", spec := "fnExactBottomOf", inPlace := ["slices.overlaps[loop.example/g01273/impl.vector]"], unfollowed := true, recurses := true, plainKeys := false, apart := false }
def FnExactBottomOfSaid : Prop := fnExactBottomOfRow.holds Try.pinned (OpenSpec.ofChange fnExactBottomOfSpec)

/-- ITS FALSE NEIGHBOUR: 'it returns false'. Refute it at one input. -/
def fnExactBottomOfWrong : ChangeSpec := { name := "fnExactBottomOf", fn := fun _ => fun
  | [d1, d2, d3, d4] => { results := [.lit (.bool false)], args := [d1, d2, d3, d4] }
  | _ => none }
def FnExactBottomOfWrongFalsely : Prop := fnExactBottomOfRow.holds Try.pinned (OpenSpec.ofChange fnExactBottomOfWrong)

/-- 'laws.FnExactPageNumber': WHATEVER THE INPUT: true; the input reads as it did. -/
def fnExactPageNumberSpec : ChangeSpec := { name := "fnExactPageNumber", fn := fun _ => fun
  | [d1, d2, d3, d4] => { results := [.lit (.bool true)], args := [d1, d2, d3, d4] }
  | _ => none }
def fnExactPageNumberRow : OpenClaim := { program := "ytpdkfidmmjlmnab", sum := "05869373bc89c7ef4d64b6f30e8ed03281fbeb7c80ecf9a24912097e8d0b147c", func := "loop.example/g01273/laws.FnExactPageNumber", spec := "fnExactPageNumber", inPlace := ["slices.overlaps[loop.example/g01273/impl.vector]"], plainKeys := false, apart := false }
def FnExactPageNumberSaid : Prop := fnExactPageNumberRow.holds Try.pinned (OpenSpec.ofChange fnExactPageNumberSpec)

/-- ITS FALSE NEIGHBOUR: 'it returns false'. Refute it at one input. -/
def fnExactPageNumberWrong : ChangeSpec := { name := "fnExactPageNumber", fn := fun _ => fun
  | [d1, d2, d3, d4] => { results := [.lit (.bool false)], args := [d1, d2, d3, d4] }
  | _ => none }
def FnExactPageNumberWrongFalsely : Prop := fnExactPageNumberRow.holds Try.pinned (OpenSpec.ofChange fnExactPageNumberWrong)

/-- 'laws.FnExactPageTable': WHATEVER THE INPUT: true; the input reads as it did. -/
def fnExactPageTableSpec : ChangeSpec := { name := "fnExactPageTable", fn := fun _ => fun
  | [d1, d2] => { results := [.lit (.bool true)], args := [d1, d2] }
  | _ => none }
def fnExactPageTableRow : OpenClaim := { program := "ytpdkfidmmjlmnab", sum := "05869373bc89c7ef4d64b6f30e8ed03281fbeb7c80ecf9a24912097e8d0b147c", func := "loop.example/g01273/laws.FnExactPageTable", spec := "fnExactPageTable", inPlace := ["slices.overlaps[loop.example/g01273/impl.vector]"], unfollowed := true, recurses := true, plainKeys := false, apart := false }
def FnExactPageTableSaid : Prop := fnExactPageTableRow.holds Try.pinned (OpenSpec.ofChange fnExactPageTableSpec)

/-- ITS FALSE NEIGHBOUR: 'it returns false'. Refute it at one input. -/
def fnExactPageTableWrong : ChangeSpec := { name := "fnExactPageTable", fn := fun _ => fun
  | [d1, d2] => { results := [.lit (.bool false)], args := [d1, d2] }
  | _ => none }
def FnExactPageTableWrongFalsely : Prop := fnExactPageTableRow.holds Try.pinned (OpenSpec.ofChange fnExactPageTableWrong)

/-- 'laws.FnExactPageBasis': WHATEVER THE INPUT: true; the input reads as it did. -/
def fnExactPageBasisSpec : ChangeSpec := { name := "fnExactPageBasis", fn := fun _ => fun
  | [d1, d2, d3, d4] => { results := [.lit (.bool true)], args := [d1, d2, d3, d4] }
  | _ => none }
def fnExactPageBasisRow : OpenClaim := { program := "ytpdkfidmmjlmnab", sum := "05869373bc89c7ef4d64b6f30e8ed03281fbeb7c80ecf9a24912097e8d0b147c", func := "loop.example/g01273/laws.FnExactPageBasis", spec := "fnExactPageBasis", inPlace := ["slices.overlaps[loop.example/g01273/impl.vector]"], unfollowed := true, recurses := true, plainKeys := false, apart := false }
def FnExactPageBasisSaid : Prop := fnExactPageBasisRow.holds Try.pinned (OpenSpec.ofChange fnExactPageBasisSpec)

/-- ITS FALSE NEIGHBOUR: 'it returns false'. Refute it at one input. -/
def fnExactPageBasisWrong : ChangeSpec := { name := "fnExactPageBasis", fn := fun _ => fun
  | [d1, d2, d3, d4] => { results := [.lit (.bool false)], args := [d1, d2, d3, d4] }
  | _ => none }
def FnExactPageBasisWrongFalsely : Prop := fnExactPageBasisRow.holds Try.pinned (OpenSpec.ofChange fnExactPageBasisWrong)

/-- 'laws.FnExactPageDifferential': WHATEVER THE INPUT: true; the input reads as it did. -/
def fnExactPageDifferentialSpec : ChangeSpec := { name := "fnExactPageDifferential", fn := fun _ => fun
  | [d1, d2, d3, d4] => { results := [.lit (.bool true)], args := [d1, d2, d3, d4] }
  | _ => none }
def fnExactPageDifferentialRow : OpenClaim := { program := "ytpdkfidmmjlmnab", sum := "05869373bc89c7ef4d64b6f30e8ed03281fbeb7c80ecf9a24912097e8d0b147c", func := "loop.example/g01273/laws.FnExactPageDifferential", spec := "fnExactPageDifferential", inPlace := ["slices.overlaps[loop.example/g01273/impl.vector]"], plainKeys := false, apart := false }
def FnExactPageDifferentialSaid : Prop := fnExactPageDifferentialRow.holds Try.pinned (OpenSpec.ofChange fnExactPageDifferentialSpec)

/-- ITS FALSE NEIGHBOUR: 'it returns false'. Refute it at one input. -/
def fnExactPageDifferentialWrong : ChangeSpec := { name := "fnExactPageDifferential", fn := fun _ => fun
  | [d1, d2, d3, d4] => { results := [.lit (.bool false)], args := [d1, d2, d3, d4] }
  | _ => none }
def FnExactPageDifferentialWrongFalsely : Prop := fnExactPageDifferentialRow.holds Try.pinned (OpenSpec.ofChange fnExactPageDifferentialWrong)

/-- 'laws.FnExactDifferentialRank': WHATEVER THE INPUT: true; the input reads as it did. -/
def fnExactDifferentialRankSpec : ChangeSpec := { name := "fnExactDifferentialRank", fn := fun _ => fun
  | [d1, d2, d3, d4] => { results := [.lit (.bool true)], args := [d1, d2, d3, d4] }
  | _ => none }
def fnExactDifferentialRankRow : OpenClaim := { program := "ytpdkfidmmjlmnab", sum := "05869373bc89c7ef4d64b6f30e8ed03281fbeb7c80ecf9a24912097e8d0b147c", func := "loop.example/g01273/laws.FnExactDifferentialRank", spec := "fnExactDifferentialRank", inPlace := ["slices.overlaps[loop.example/g01273/impl.vector]"], plainKeys := false, apart := false }
def FnExactDifferentialRankSaid : Prop := fnExactDifferentialRankRow.holds Try.pinned (OpenSpec.ofChange fnExactDifferentialRankSpec)

/-- ITS FALSE NEIGHBOUR: 'it returns false'. Refute it at one input. -/
def fnExactDifferentialRankWrong : ChangeSpec := { name := "fnExactDifferentialRank", fn := fun _ => fun
  | [d1, d2, d3, d4] => { results := [.lit (.bool false)], args := [d1, d2, d3, d4] }
  | _ => none }
def FnExactDifferentialRankWrongFalsely : Prop := fnExactDifferentialRankRow.holds Try.pinned (OpenSpec.ofChange fnExactDifferentialRankWrong)

/-- 'laws.FnExactLimitNumber': WHATEVER THE INPUT: true; the input reads as it did. -/
def fnExactLimitNumberSpec : ChangeSpec := { name := "fnExactLimitNumber", fn := fun _ => fun
  | [d1, d2, d3] => { results := [.lit (.bool true)], args := [d1, d2, d3] }
  | _ => none }
def fnExactLimitNumberRow : OpenClaim := { program := "ytpdkfidmmjlmnab", sum := "05869373bc89c7ef4d64b6f30e8ed03281fbeb7c80ecf9a24912097e8d0b147c", func := "loop.example/g01273/laws.FnExactLimitNumber", spec := "fnExactLimitNumber", inPlace := ["slices.overlaps[loop.example/g01273/impl.vector]"], plainKeys := false, apart := false }
def FnExactLimitNumberSaid : Prop := fnExactLimitNumberRow.holds Try.pinned (OpenSpec.ofChange fnExactLimitNumberSpec)

/-- ITS FALSE NEIGHBOUR: 'it returns false'. Refute it at one input. -/
def fnExactLimitNumberWrong : ChangeSpec := { name := "fnExactLimitNumber", fn := fun _ => fun
  | [d1, d2, d3] => { results := [.lit (.bool false)], args := [d1, d2, d3] }
  | _ => none }
def FnExactLimitNumberWrongFalsely : Prop := fnExactLimitNumberRow.holds Try.pinned (OpenSpec.ofChange fnExactLimitNumberWrong)

/-- 'laws.FnExactApplyFamily': WHATEVER THE INPUT: true; the input reads as it did. -/
def fnExactApplyFamilySpec : ChangeSpec := { name := "fnExactApplyFamily", fn := fun _ => fun
  | [d1, d2, d3, d4, d5] => { results := [.lit (.bool true)], args := [d1, d2, d3, d4, d5] }
  | _ => none }
def fnExactApplyFamilyRow : OpenClaim := { program := "ytpdkfidmmjlmnab", sum := "05869373bc89c7ef4d64b6f30e8ed03281fbeb7c80ecf9a24912097e8d0b147c", func := "loop.example/g01273/laws.FnExactApplyFamily", spec := "fnExactApplyFamily", plainKeys := false, apart := false }
def FnExactApplyFamilySaid : Prop := fnExactApplyFamilyRow.holds Try.pinned (OpenSpec.ofChange fnExactApplyFamilySpec)

/-- ITS FALSE NEIGHBOUR: 'it returns false'. Refute it at one input. -/
def fnExactApplyFamilyWrong : ChangeSpec := { name := "fnExactApplyFamily", fn := fun _ => fun
  | [d1, d2, d3, d4, d5] => { results := [.lit (.bool false)], args := [d1, d2, d3, d4, d5] }
  | _ => none }
def FnExactApplyFamilyWrongFalsely : Prop := fnExactApplyFamilyRow.holds Try.pinned (OpenSpec.ofChange fnExactApplyFamilyWrong)

/-- 'laws.FnExactComposeFamilies': WHATEVER THE INPUT: true; the input reads as it did. -/
def fnExactComposeFamiliesSpec : ChangeSpec := { name := "fnExactComposeFamilies", fn := fun _ => fun
  | [d1, d2, d3, d4, d5] => { results := [.lit (.bool true)], args := [d1, d2, d3, d4, d5] }
  | _ => none }
def fnExactComposeFamiliesRow : OpenClaim := { program := "ytpdkfidmmjlmnab", sum := "05869373bc89c7ef4d64b6f30e8ed03281fbeb7c80ecf9a24912097e8d0b147c", func := "loop.example/g01273/laws.FnExactComposeFamilies", spec := "fnExactComposeFamilies", unfollowed := true, recurses := true, plainKeys := false, apart := false }
def FnExactComposeFamiliesSaid : Prop := fnExactComposeFamiliesRow.holds Try.pinned (OpenSpec.ofChange fnExactComposeFamiliesSpec)

/-- ITS FALSE NEIGHBOUR: 'it returns false'. Refute it at one input. -/
def fnExactComposeFamiliesWrong : ChangeSpec := { name := "fnExactComposeFamilies", fn := fun _ => fun
  | [d1, d2, d3, d4, d5] => { results := [.lit (.bool false)], args := [d1, d2, d3, d4, d5] }
  | _ => none }
def FnExactComposeFamiliesWrongFalsely : Prop := fnExactComposeFamiliesRow.holds Try.pinned (OpenSpec.ofChange fnExactComposeFamiliesWrong)

/-- 'laws.FnExactAddFamilies': WHATEVER THE INPUT: true; the input reads as it did. -/
def fnExactAddFamiliesSpec : ChangeSpec := { name := "fnExactAddFamilies", fn := fun _ => fun
  | [d1, d2, d3, d4, d5] => { results := [.lit (.bool true)], args := [d1, d2, d3, d4, d5] }
  | _ => none }
def fnExactAddFamiliesRow : OpenClaim := { program := "ytpdkfidmmjlmnab", sum := "05869373bc89c7ef4d64b6f30e8ed03281fbeb7c80ecf9a24912097e8d0b147c", func := "loop.example/g01273/laws.FnExactAddFamilies", spec := "fnExactAddFamilies", unfollowed := true, recurses := true, plainKeys := false, apart := false }
def FnExactAddFamiliesSaid : Prop := fnExactAddFamiliesRow.holds Try.pinned (OpenSpec.ofChange fnExactAddFamiliesSpec)

/-- ITS FALSE NEIGHBOUR: 'it returns false'. Refute it at one input. -/
def fnExactAddFamiliesWrong : ChangeSpec := { name := "fnExactAddFamilies", fn := fun _ => fun
  | [d1, d2, d3, d4, d5] => { results := [.lit (.bool false)], args := [d1, d2, d3, d4, d5] }
  | _ => none }
def FnExactAddFamiliesWrongFalsely : Prop := fnExactAddFamiliesRow.holds Try.pinned (OpenSpec.ofChange fnExactAddFamiliesWrong)

/-- 'laws.FnExactIsCouple': WHATEVER THE INPUT: true; the input reads as it did. -/
def fnExactIsCoupleSpec : ChangeSpec := { name := "fnExactIsCouple", fn := fun _ => fun
  | [d] => { results := [.lit (.bool true)], args := [d] }
  | _ => none }
def fnExactIsCoupleRow : OpenClaim := { program := "ytpdkfidmmjlmnab", sum := "05869373bc89c7ef4d64b6f30e8ed03281fbeb7c80ecf9a24912097e8d0b147c", func := "loop.example/g01273/laws.FnExactIsCouple", spec := "fnExactIsCouple", unfollowed := true, recurses := true, plainKeys := false, apart := false }
def FnExactIsCoupleSaid : Prop := fnExactIsCoupleRow.holds Try.pinned (OpenSpec.ofChange fnExactIsCoupleSpec)

/-- ITS FALSE NEIGHBOUR: 'it returns false'. Refute it at one input. -/
def fnExactIsCoupleWrong : ChangeSpec := { name := "fnExactIsCouple", fn := fun _ => fun
  | [d] => { results := [.lit (.bool false)], args := [d] }
  | _ => none }
def FnExactIsCoupleWrongFalsely : Prop := fnExactIsCoupleRow.holds Try.pinned (OpenSpec.ofChange fnExactIsCoupleWrong)

/-- 'laws.FnExactCoupleDifferential': WHATEVER THE INPUT: true; the input reads as it did. -/
def fnExactCoupleDifferentialSpec : ChangeSpec := { name := "fnExactCoupleDifferential", fn := fun _ => fun
  | [d] => { results := [.lit (.bool true)], args := [d] }
  | _ => none }
def fnExactCoupleDifferentialRow : OpenClaim := { program := "ytpdkfidmmjlmnab", sum := "05869373bc89c7ef4d64b6f30e8ed03281fbeb7c80ecf9a24912097e8d0b147c", func := "loop.example/g01273/laws.FnExactCoupleDifferential", spec := "fnExactCoupleDifferential", unfollowed := true, recurses := true, plainKeys := false, apart := false }
def FnExactCoupleDifferentialSaid : Prop := fnExactCoupleDifferentialRow.holds Try.pinned (OpenSpec.ofChange fnExactCoupleDifferentialSpec)

/-- ITS FALSE NEIGHBOUR: 'it returns false'. Refute it at one input. -/
def fnExactCoupleDifferentialWrong : ChangeSpec := { name := "fnExactCoupleDifferential", fn := fun _ => fun
  | [d] => { results := [.lit (.bool false)], args := [d] }
  | _ => none }
def FnExactCoupleDifferentialWrongFalsely : Prop := fnExactCoupleDifferentialRow.holds Try.pinned (OpenSpec.ofChange fnExactCoupleDifferentialWrong)

/-- 'laws.FnExactAddCouples': WHATEVER THE INPUT: true; the input reads as it did. -/
def fnExactAddCouplesSpec : ChangeSpec := { name := "fnExactAddCouples", fn := fun _ => fun
  | [d1, d2] => { results := [.lit (.bool true)], args := [d1, d2] }
  | _ => none }
def fnExactAddCouplesRow : OpenClaim := { program := "ytpdkfidmmjlmnab", sum := "05869373bc89c7ef4d64b6f30e8ed03281fbeb7c80ecf9a24912097e8d0b147c", func := "loop.example/g01273/laws.FnExactAddCouples", spec := "fnExactAddCouples", unfollowed := true, recurses := true, plainKeys := false, apart := false }
def FnExactAddCouplesSaid : Prop := fnExactAddCouplesRow.holds Try.pinned (OpenSpec.ofChange fnExactAddCouplesSpec)

/-- ITS FALSE NEIGHBOUR: 'it returns false'. Refute it at one input. -/
def fnExactAddCouplesWrong : ChangeSpec := { name := "fnExactAddCouples", fn := fun _ => fun
  | [d1, d2] => { results := [.lit (.bool false)], args := [d1, d2] }
  | _ => none }
def FnExactAddCouplesWrongFalsely : Prop := fnExactAddCouplesRow.holds Try.pinned (OpenSpec.ofChange fnExactAddCouplesWrong)

/-- 'laws.FnExactRanksOf': WHATEVER THE INPUT: true; the input reads as it did. -/
def fnExactRanksOfSpec : ChangeSpec := { name := "fnExactRanksOf", fn := fun _ => fun
  | [d] => { results := [.lit (.bool true)], args := [d] }
  | _ => none }
def fnExactRanksOfRow : OpenClaim := { program := "ytpdkfidmmjlmnab", sum := "05869373bc89c7ef4d64b6f30e8ed03281fbeb7c80ecf9a24912097e8d0b147c", func := "loop.example/g01273/laws.FnExactRanksOf", spec := "fnExactRanksOf", inPlace := ["slices.overlaps[loop.example/g01273/impl.vector]"], unfollowed := true, recurses := true, plainKeys := false, apart := false }
def FnExactRanksOfSaid : Prop := fnExactRanksOfRow.holds Try.pinned (OpenSpec.ofChange fnExactRanksOfSpec)

/-- ITS FALSE NEIGHBOUR: 'it returns false'. Refute it at one input. -/
def fnExactRanksOfWrong : ChangeSpec := { name := "fnExactRanksOf", fn := fun _ => fun
  | [d] => { results := [.lit (.bool false)], args := [d] }
  | _ => none }
def FnExactRanksOfWrongFalsely : Prop := fnExactRanksOfRow.holds Try.pinned (OpenSpec.ofChange fnExactRanksOfWrong)

/-- 'laws.FnExactPartOf': WHATEVER THE INPUT: true; the input reads as it did. -/
def fnExactPartOfSpec : ChangeSpec := { name := "fnExactPartOf", fn := fun _ => fun
  | [d1, d2] => { results := [.lit (.bool true)], args := [d1, d2] }
  | _ => none }
def fnExactPartOfRow : OpenClaim := { program := "ytpdkfidmmjlmnab", sum := "05869373bc89c7ef4d64b6f30e8ed03281fbeb7c80ecf9a24912097e8d0b147c", func := "loop.example/g01273/laws.FnExactPartOf", spec := "fnExactPartOf", plainKeys := false, apart := false }
def FnExactPartOfSaid : Prop := fnExactPartOfRow.holds Try.pinned (OpenSpec.ofChange fnExactPartOfSpec)

/-- ITS FALSE NEIGHBOUR: 'it returns false'. Refute it at one input. -/
def fnExactPartOfWrong : ChangeSpec := { name := "fnExactPartOf", fn := fun _ => fun
  | [d1, d2] => { results := [.lit (.bool false)], args := [d1, d2] }
  | _ => none }
def FnExactPartOfWrongFalsely : Prop := fnExactPartOfRow.holds Try.pinned (OpenSpec.ofChange fnExactPartOfWrong)

/-- 'laws.FnExactIsDesk': WHATEVER THE INPUT: true; the input reads as it did. -/
def fnExactIsDeskSpec : ChangeSpec := { name := "fnExactIsDesk", fn := fun _ => fun
  | [d] => { results := [.lit (.bool true)], args := [d] }
  | _ => none }
def fnExactIsDeskRow : OpenClaim := { program := "ytpdkfidmmjlmnab", sum := "05869373bc89c7ef4d64b6f30e8ed03281fbeb7c80ecf9a24912097e8d0b147c", func := "loop.example/g01273/laws.FnExactIsDesk", spec := "fnExactIsDesk", plainKeys := false, apart := false }
def FnExactIsDeskSaid : Prop := fnExactIsDeskRow.holds Try.pinned (OpenSpec.ofChange fnExactIsDeskSpec)

/-- ITS FALSE NEIGHBOUR: 'it returns false'. Refute it at one input. -/
def fnExactIsDeskWrong : ChangeSpec := { name := "fnExactIsDesk", fn := fun _ => fun
  | [d] => { results := [.lit (.bool false)], args := [d] }
  | _ => none }
def FnExactIsDeskWrongFalsely : Prop := fnExactIsDeskRow.holds Try.pinned (OpenSpec.ofChange fnExactIsDeskWrong)

/- THE SECOND FORM. 'bulk': how many values and letters a reading holds, each counted each time it is reached (what is shared counts as often as it is met; a slice's spare places count too). A statement '..UptoSaid' is the law's where the arguments, and the package variables that the reading takes, are together of bulk at most 1048576: NARROWER than '..Said'. Prove '..Said' where nothing that the law and all that it calls make is longer than what came in: it says more and counts as full. Else prove '..UptoSaid'. A law counts once. -/
mutual
def uptoBulk {H : Type} : DataW H → Nat
  | .lit (.string bytes) => bytes.length + 1
  | .lit _ => 1
  | .nil => 1
  | .ptr d => uptoBulk d + 1
  | .slice elems spare => uptoBulkAll elems + uptoBulkAll spare + 1
  | .agg parts => uptoBulkAll parts + 1
  | .iface _ d => uptoBulk d + 1
  | .map entries => uptoBulkEntries entries + 1
  | .held _ => 1
def uptoBulkAll {H : Type} : List (DataW H) → Nat
  | [] => 0
  | d :: r => uptoBulk d + uptoBulkAll r
def uptoBulkEntries {H : Type} : List (Lit × DataW H) → Nat
  | [] => 0
  | x :: r => uptoBulkEntry x + uptoBulkEntries r
def uptoBulkEntry {H : Type} : Lit × DataW H → Nat
  | (.string bytes, d) => bytes.length + uptoBulk d + 1
  | (_, d) => uptoBulk d + 1
 end
def uptoSmall : (H : Type) → List (DataW H) → Bool := fun _ ds => decide (uptoBulkAll ds ≤ 1048576)
def OpenSpec.upto (s : _root_.Go.ChangeSpec) : _root_.Go.OpenSpec := { _root_.Go.OpenSpec.ofChange s with cond := some uptoSmall }

/-- 'laws.FnExactIsFiltered', WHERE WHAT IT READS IS OF BULK AT MOST 1048576: true; the input reads as it did. -/
def fnExactIsFilteredUptoRow : OpenClaim := { program := "ytpdkfidmmjlmnab", sum := "05869373bc89c7ef4d64b6f30e8ed03281fbeb7c80ecf9a24912097e8d0b147c", func := "loop.example/g01273/laws.FnExactIsFiltered", spec := "fnExactIsFiltered", plainKeys := false, apart := false, narrowed := true }
def FnExactIsFilteredUptoSaid : Prop := fnExactIsFilteredUptoRow.holds Try.pinned (OpenSpec.upto fnExactIsFilteredSpec)

/-- 'laws.FnExactApproximateCycles', WHERE WHAT IT READS IS OF BULK AT MOST 1048576: true; the input reads as it did. -/
def fnExactApproximateCyclesUptoRow : OpenClaim := { program := "ytpdkfidmmjlmnab", sum := "05869373bc89c7ef4d64b6f30e8ed03281fbeb7c80ecf9a24912097e8d0b147c", func := "loop.example/g01273/laws.FnExactApproximateCycles", spec := "fnExactApproximateCycles", inPlace := ["slices.overlaps[loop.example/g01273/impl.vector]"], unfollowed := true, recurses := true, plainKeys := false, apart := false, narrowed := true }
def FnExactApproximateCyclesUptoSaid : Prop := fnExactApproximateCyclesUptoRow.holds Try.pinned (OpenSpec.upto fnExactApproximateCyclesSpec)

/-- 'laws.FnExactBottomOf', WHERE WHAT IT READS IS OF BULK AT MOST 1048576: true; the input reads as it did. -/
def fnExactBottomOfUptoRow : OpenClaim := { program := "ytpdkfidmmjlmnab", sum := "05869373bc89c7ef4d64b6f30e8ed03281fbeb7c80ecf9a24912097e8d0b147c", func := "loop.example/g01273/laws.FnExactBottomOf", spec := "fnExactBottomOf", inPlace := ["slices.overlaps[loop.example/g01273/impl.vector]"], unfollowed := true, recurses := true, plainKeys := false, apart := false, narrowed := true }
def FnExactBottomOfUptoSaid : Prop := fnExactBottomOfUptoRow.holds Try.pinned (OpenSpec.upto fnExactBottomOfSpec)

/-- 'laws.FnExactPageNumber', WHERE WHAT IT READS IS OF BULK AT MOST 1048576: true; the input reads as it did. -/
def fnExactPageNumberUptoRow : OpenClaim := { program := "ytpdkfidmmjlmnab", sum := "05869373bc89c7ef4d64b6f30e8ed03281fbeb7c80ecf9a24912097e8d0b147c", func := "loop.example/g01273/laws.FnExactPageNumber", spec := "fnExactPageNumber", inPlace := ["slices.overlaps[loop.example/g01273/impl.vector]"], plainKeys := false, apart := false, narrowed := true }
def FnExactPageNumberUptoSaid : Prop := fnExactPageNumberUptoRow.holds Try.pinned (OpenSpec.upto fnExactPageNumberSpec)

/-- 'laws.FnExactPageTable', WHERE WHAT IT READS IS OF BULK AT MOST 1048576: true; the input reads as it did. -/
def fnExactPageTableUptoRow : OpenClaim := { program := "ytpdkfidmmjlmnab", sum := "05869373bc89c7ef4d64b6f30e8ed03281fbeb7c80ecf9a24912097e8d0b147c", func := "loop.example/g01273/laws.FnExactPageTable", spec := "fnExactPageTable", inPlace := ["slices.overlaps[loop.example/g01273/impl.vector]"], unfollowed := true, recurses := true, plainKeys := false, apart := false, narrowed := true }
def FnExactPageTableUptoSaid : Prop := fnExactPageTableUptoRow.holds Try.pinned (OpenSpec.upto fnExactPageTableSpec)

/-- 'laws.FnExactPageBasis', WHERE WHAT IT READS IS OF BULK AT MOST 1048576: true; the input reads as it did. -/
def fnExactPageBasisUptoRow : OpenClaim := { program := "ytpdkfidmmjlmnab", sum := "05869373bc89c7ef4d64b6f30e8ed03281fbeb7c80ecf9a24912097e8d0b147c", func := "loop.example/g01273/laws.FnExactPageBasis", spec := "fnExactPageBasis", inPlace := ["slices.overlaps[loop.example/g01273/impl.vector]"], unfollowed := true, recurses := true, plainKeys := false, apart := false, narrowed := true }
def FnExactPageBasisUptoSaid : Prop := fnExactPageBasisUptoRow.holds Try.pinned (OpenSpec.upto fnExactPageBasisSpec)

/-- 'laws.FnExactPageDifferential', WHERE WHAT IT READS IS OF BULK AT MOST 1048576: true; the input reads as it did. -/
def fnExactPageDifferentialUptoRow : OpenClaim := { program := "ytpdkfidmmjlmnab", sum := "05869373bc89c7ef4d64b6f30e8ed03281fbeb7c80ecf9a24912097e8d0b147c", func := "loop.example/g01273/laws.FnExactPageDifferential", spec := "fnExactPageDifferential", inPlace := ["slices.overlaps[loop.example/g01273/impl.vector]"], plainKeys := false, apart := false, narrowed := true }
def FnExactPageDifferentialUptoSaid : Prop := fnExactPageDifferentialUptoRow.holds Try.pinned (OpenSpec.upto fnExactPageDifferentialSpec)

/-- 'laws.FnExactDifferentialRank', WHERE WHAT IT READS IS OF BULK AT MOST 1048576: true; the input reads as it did. -/
def fnExactDifferentialRankUptoRow : OpenClaim := { program := "ytpdkfidmmjlmnab", sum := "05869373bc89c7ef4d64b6f30e8ed03281fbeb7c80ecf9a24912097e8d0b147c", func := "loop.example/g01273/laws.FnExactDifferentialRank", spec := "fnExactDifferentialRank", inPlace := ["slices.overlaps[loop.example/g01273/impl.vector]"], plainKeys := false, apart := false, narrowed := true }
def FnExactDifferentialRankUptoSaid : Prop := fnExactDifferentialRankUptoRow.holds Try.pinned (OpenSpec.upto fnExactDifferentialRankSpec)

/-- 'laws.FnExactLimitNumber', WHERE WHAT IT READS IS OF BULK AT MOST 1048576: true; the input reads as it did. -/
def fnExactLimitNumberUptoRow : OpenClaim := { program := "ytpdkfidmmjlmnab", sum := "05869373bc89c7ef4d64b6f30e8ed03281fbeb7c80ecf9a24912097e8d0b147c", func := "loop.example/g01273/laws.FnExactLimitNumber", spec := "fnExactLimitNumber", inPlace := ["slices.overlaps[loop.example/g01273/impl.vector]"], plainKeys := false, apart := false, narrowed := true }
def FnExactLimitNumberUptoSaid : Prop := fnExactLimitNumberUptoRow.holds Try.pinned (OpenSpec.upto fnExactLimitNumberSpec)

/-- 'laws.FnExactApplyFamily', WHERE WHAT IT READS IS OF BULK AT MOST 1048576: true; the input reads as it did. -/
def fnExactApplyFamilyUptoRow : OpenClaim := { program := "ytpdkfidmmjlmnab", sum := "05869373bc89c7ef4d64b6f30e8ed03281fbeb7c80ecf9a24912097e8d0b147c", func := "loop.example/g01273/laws.FnExactApplyFamily", spec := "fnExactApplyFamily", plainKeys := false, apart := false, narrowed := true }
def FnExactApplyFamilyUptoSaid : Prop := fnExactApplyFamilyUptoRow.holds Try.pinned (OpenSpec.upto fnExactApplyFamilySpec)

/-- 'laws.FnExactComposeFamilies', WHERE WHAT IT READS IS OF BULK AT MOST 1048576: true; the input reads as it did. -/
def fnExactComposeFamiliesUptoRow : OpenClaim := { program := "ytpdkfidmmjlmnab", sum := "05869373bc89c7ef4d64b6f30e8ed03281fbeb7c80ecf9a24912097e8d0b147c", func := "loop.example/g01273/laws.FnExactComposeFamilies", spec := "fnExactComposeFamilies", unfollowed := true, recurses := true, plainKeys := false, apart := false, narrowed := true }
def FnExactComposeFamiliesUptoSaid : Prop := fnExactComposeFamiliesUptoRow.holds Try.pinned (OpenSpec.upto fnExactComposeFamiliesSpec)

/-- 'laws.FnExactAddFamilies', WHERE WHAT IT READS IS OF BULK AT MOST 1048576: true; the input reads as it did. -/
def fnExactAddFamiliesUptoRow : OpenClaim := { program := "ytpdkfidmmjlmnab", sum := "05869373bc89c7ef4d64b6f30e8ed03281fbeb7c80ecf9a24912097e8d0b147c", func := "loop.example/g01273/laws.FnExactAddFamilies", spec := "fnExactAddFamilies", unfollowed := true, recurses := true, plainKeys := false, apart := false, narrowed := true }
def FnExactAddFamiliesUptoSaid : Prop := fnExactAddFamiliesUptoRow.holds Try.pinned (OpenSpec.upto fnExactAddFamiliesSpec)

/-- 'laws.FnExactIsCouple', WHERE WHAT IT READS IS OF BULK AT MOST 1048576: true; the input reads as it did. -/
def fnExactIsCoupleUptoRow : OpenClaim := { program := "ytpdkfidmmjlmnab", sum := "05869373bc89c7ef4d64b6f30e8ed03281fbeb7c80ecf9a24912097e8d0b147c", func := "loop.example/g01273/laws.FnExactIsCouple", spec := "fnExactIsCouple", unfollowed := true, recurses := true, plainKeys := false, apart := false, narrowed := true }
def FnExactIsCoupleUptoSaid : Prop := fnExactIsCoupleUptoRow.holds Try.pinned (OpenSpec.upto fnExactIsCoupleSpec)

/-- 'laws.FnExactCoupleDifferential', WHERE WHAT IT READS IS OF BULK AT MOST 1048576: true; the input reads as it did. -/
def fnExactCoupleDifferentialUptoRow : OpenClaim := { program := "ytpdkfidmmjlmnab", sum := "05869373bc89c7ef4d64b6f30e8ed03281fbeb7c80ecf9a24912097e8d0b147c", func := "loop.example/g01273/laws.FnExactCoupleDifferential", spec := "fnExactCoupleDifferential", unfollowed := true, recurses := true, plainKeys := false, apart := false, narrowed := true }
def FnExactCoupleDifferentialUptoSaid : Prop := fnExactCoupleDifferentialUptoRow.holds Try.pinned (OpenSpec.upto fnExactCoupleDifferentialSpec)

/-- 'laws.FnExactAddCouples', WHERE WHAT IT READS IS OF BULK AT MOST 1048576: true; the input reads as it did. -/
def fnExactAddCouplesUptoRow : OpenClaim := { program := "ytpdkfidmmjlmnab", sum := "05869373bc89c7ef4d64b6f30e8ed03281fbeb7c80ecf9a24912097e8d0b147c", func := "loop.example/g01273/laws.FnExactAddCouples", spec := "fnExactAddCouples", unfollowed := true, recurses := true, plainKeys := false, apart := false, narrowed := true }
def FnExactAddCouplesUptoSaid : Prop := fnExactAddCouplesUptoRow.holds Try.pinned (OpenSpec.upto fnExactAddCouplesSpec)

/-- 'laws.FnExactRanksOf', WHERE WHAT IT READS IS OF BULK AT MOST 1048576: true; the input reads as it did. -/
def fnExactRanksOfUptoRow : OpenClaim := { program := "ytpdkfidmmjlmnab", sum := "05869373bc89c7ef4d64b6f30e8ed03281fbeb7c80ecf9a24912097e8d0b147c", func := "loop.example/g01273/laws.FnExactRanksOf", spec := "fnExactRanksOf", inPlace := ["slices.overlaps[loop.example/g01273/impl.vector]"], unfollowed := true, recurses := true, plainKeys := false, apart := false, narrowed := true }
def FnExactRanksOfUptoSaid : Prop := fnExactRanksOfUptoRow.holds Try.pinned (OpenSpec.upto fnExactRanksOfSpec)

/-- 'laws.FnExactPartOf', WHERE WHAT IT READS IS OF BULK AT MOST 1048576: true; the input reads as it did. -/
def fnExactPartOfUptoRow : OpenClaim := { program := "ytpdkfidmmjlmnab", sum := "05869373bc89c7ef4d64b6f30e8ed03281fbeb7c80ecf9a24912097e8d0b147c", func := "loop.example/g01273/laws.FnExactPartOf", spec := "fnExactPartOf", plainKeys := false, apart := false, narrowed := true }
def FnExactPartOfUptoSaid : Prop := fnExactPartOfUptoRow.holds Try.pinned (OpenSpec.upto fnExactPartOfSpec)

/-- 'laws.FnExactIsDesk', WHERE WHAT IT READS IS OF BULK AT MOST 1048576: true; the input reads as it did. -/
def fnExactIsDeskUptoRow : OpenClaim := { program := "ytpdkfidmmjlmnab", sum := "05869373bc89c7ef4d64b6f30e8ed03281fbeb7c80ecf9a24912097e8d0b147c", func := "loop.example/g01273/laws.FnExactIsDesk", spec := "fnExactIsDesk", plainKeys := false, apart := false, narrowed := true }
def FnExactIsDeskUptoSaid : Prop := fnExactIsDeskUptoRow.holds Try.pinned (OpenSpec.upto fnExactIsDeskSpec)

end Rows
end Go.Proofs.Ytpdkfidmmjlmnab
