/-
  No cell of these rows narrows 'for every input' (looked for: loops, veiled, ifaces, maps, wideKeys, modest, calm, conditions, laid).
  DERIVED. THE GIVEN ROWS OF THIS SEAT. 11 by the template 'for every input the law returns true; each argument reads behind the call as it read before'; 0 by the template 'total and deterministic' (their statements: YtaaficdlckcgkaaTotals.lean).
  GIVEN WITH THE SEED: the statements are not yours to turn. If you find one false, say at which input.
  Laid BY PROGRAM, IN A SANDBOX (cutbox-rows.mjs): the forced cells as the released guide's own fill.sh prints them over the translation aee5f4df4075daba… (all of the seat's roots in one cut). By AI agents, Wed Nov 11 2026. No macro, syntax, notation, axiom, sorry.
-/
import Derived.Test.YtaaficdlckcgkaaChecked
import GoSem.Claim
import GoSem.ClaimJoined
import GoSem.ClaimMapViews
import Derived.JoinedTies
import Derived.KernelRfl
namespace Go.Proofs.Ytaaficdlckcgkaa
/- THE CELL 'sum', in the pinned program and in every row, IS THE sha256 OF THE DUMP (.gsa) THAT YtaaficdlckcgkaaProg.lean LOADS. Nothing in Lean hashes anything: it is a label: what it is worth is what the hold of that sum in a sandbox is worth. -/
noncomputable def Try.pinned : Pinned := { name := "ytaaficdlckcgkaa", sum := "aee5f4df4075daba97ac0d438688130ceac0607372c41c787af3022833ced5fe", checked := Try.checked }
namespace Rows
def none {H : Type} : Left H := { results := [], args := [] }

/-- 'laws.FnExactShiftComplex': WHATEVER THE INPUT: true; the input reads as it did. -/
def fnExactShiftComplexSpec : ChangeSpec := { name := "fnExactShiftComplex", fn := fun _ => fun
  | [d1, d2] => { results := [.lit (.bool true)], args := [d1, d2] }
  | _ => none }
def fnExactShiftComplexRow : OpenClaim := { program := "ytaaficdlckcgkaa", sum := "aee5f4df4075daba97ac0d438688130ceac0607372c41c787af3022833ced5fe", func := "loop.example/g01273/laws.FnExactShiftComplex", spec := "fnExactShiftComplex", plainKeys := false, apart := false }
def FnExactShiftComplexSaid : Prop := fnExactShiftComplexRow.holds Try.pinned (OpenSpec.ofChange fnExactShiftComplexSpec)

/-- ITS FALSE NEIGHBOUR: 'it returns false'. Refute it at one input. -/
def fnExactShiftComplexWrong : ChangeSpec := { name := "fnExactShiftComplex", fn := fun _ => fun
  | [d1, d2] => { results := [.lit (.bool false)], args := [d1, d2] }
  | _ => none }
def FnExactShiftComplexWrongFalsely : Prop := fnExactShiftComplexRow.holds Try.pinned (OpenSpec.ofChange fnExactShiftComplexWrong)

/-- 'laws.FnExactCoupleDifferential': WHATEVER THE INPUT: true; the input reads as it did. -/
def fnExactCoupleDifferentialSpec : ChangeSpec := { name := "fnExactCoupleDifferential", fn := fun _ => fun
  | [d] => { results := [.lit (.bool true)], args := [d] }
  | _ => none }
def fnExactCoupleDifferentialRow : OpenClaim := { program := "ytaaficdlckcgkaa", sum := "aee5f4df4075daba97ac0d438688130ceac0607372c41c787af3022833ced5fe", func := "loop.example/g01273/laws.FnExactCoupleDifferential", spec := "fnExactCoupleDifferential", unfollowed := true, recurses := true, plainKeys := false, apart := false }
def FnExactCoupleDifferentialSaid : Prop := fnExactCoupleDifferentialRow.holds Try.pinned (OpenSpec.ofChange fnExactCoupleDifferentialSpec)

/-- ITS FALSE NEIGHBOUR: 'it returns false'. Refute it at one input. -/
def fnExactCoupleDifferentialWrong : ChangeSpec := { name := "fnExactCoupleDifferential", fn := fun _ => fun
  | [d] => { results := [.lit (.bool false)], args := [d] }
  | _ => none }
def FnExactCoupleDifferentialWrongFalsely : Prop := fnExactCoupleDifferentialRow.holds Try.pinned (OpenSpec.ofChange fnExactCoupleDifferentialWrong)

/-- 'laws.FnExactIsCouple': WHATEVER THE INPUT: true; the input reads as it did. -/
def fnExactIsCoupleSpec : ChangeSpec := { name := "fnExactIsCouple", fn := fun _ => fun
  | [d] => { results := [.lit (.bool true)], args := [d] }
  | _ => none }
def fnExactIsCoupleRow : OpenClaim := { program := "ytaaficdlckcgkaa", sum := "aee5f4df4075daba97ac0d438688130ceac0607372c41c787af3022833ced5fe", func := "loop.example/g01273/laws.FnExactIsCouple", spec := "fnExactIsCouple", unfollowed := true, recurses := true, plainKeys := false, apart := false }
def FnExactIsCoupleSaid : Prop := fnExactIsCoupleRow.holds Try.pinned (OpenSpec.ofChange fnExactIsCoupleSpec)

/-- ITS FALSE NEIGHBOUR: 'it returns false'. Refute it at one input. -/
def fnExactIsCoupleWrong : ChangeSpec := { name := "fnExactIsCouple", fn := fun _ => fun
  | [d] => { results := [.lit (.bool false)], args := [d] }
  | _ => none }
def FnExactIsCoupleWrongFalsely : Prop := fnExactIsCoupleRow.holds Try.pinned (OpenSpec.ofChange fnExactIsCoupleWrong)

/-- 'laws.FnExactRanksOf': WHATEVER THE INPUT: true; the input reads as it did. -/
def fnExactRanksOfSpec : ChangeSpec := { name := "fnExactRanksOf", fn := fun _ => fun
  | [d] => { results := [.lit (.bool true)], args := [d] }
  | _ => none }
def fnExactRanksOfRow : OpenClaim := { program := "ytaaficdlckcgkaa", sum := "aee5f4df4075daba97ac0d438688130ceac0607372c41c787af3022833ced5fe", func := "loop.example/g01273/laws.FnExactRanksOf", spec := "fnExactRanksOf", inPlace := ["slices.overlaps[loop.example/g01273/impl.vector]"], unfollowed := true, recurses := true, plainKeys := false, apart := false }
def FnExactRanksOfSaid : Prop := fnExactRanksOfRow.holds Try.pinned (OpenSpec.ofChange fnExactRanksOfSpec)

/-- ITS FALSE NEIGHBOUR: 'it returns false'. Refute it at one input. -/
def fnExactRanksOfWrong : ChangeSpec := { name := "fnExactRanksOf", fn := fun _ => fun
  | [d] => { results := [.lit (.bool false)], args := [d] }
  | _ => none }
def FnExactRanksOfWrongFalsely : Prop := fnExactRanksOfRow.holds Try.pinned (OpenSpec.ofChange fnExactRanksOfWrong)

/-- 'laws.FnExactAddComplexes': WHATEVER THE INPUT: true; the input reads as it did. -/
def fnExactAddComplexesSpec : ChangeSpec := { name := "fnExactAddComplexes", fn := fun _ => fun
  | [d1, d2] => { results := [.lit (.bool true)], args := [d1, d2] }
  | _ => none }
def fnExactAddComplexesRow : OpenClaim := { program := "ytaaficdlckcgkaa", sum := "aee5f4df4075daba97ac0d438688130ceac0607372c41c787af3022833ced5fe", func := "loop.example/g01273/laws.FnExactAddComplexes", spec := "fnExactAddComplexes", plainKeys := false, apart := false }
def FnExactAddComplexesSaid : Prop := fnExactAddComplexesRow.holds Try.pinned (OpenSpec.ofChange fnExactAddComplexesSpec)

/-- ITS FALSE NEIGHBOUR: 'it returns false'. Refute it at one input. -/
def fnExactAddComplexesWrong : ChangeSpec := { name := "fnExactAddComplexes", fn := fun _ => fun
  | [d1, d2] => { results := [.lit (.bool false)], args := [d1, d2] }
  | _ => none }
def FnExactAddComplexesWrongFalsely : Prop := fnExactAddComplexesRow.holds Try.pinned (OpenSpec.ofChange fnExactAddComplexesWrong)

/-- 'laws.FnExactAddCouples': WHATEVER THE INPUT: true; the input reads as it did. -/
def fnExactAddCouplesSpec : ChangeSpec := { name := "fnExactAddCouples", fn := fun _ => fun
  | [d1, d2] => { results := [.lit (.bool true)], args := [d1, d2] }
  | _ => none }
def fnExactAddCouplesRow : OpenClaim := { program := "ytaaficdlckcgkaa", sum := "aee5f4df4075daba97ac0d438688130ceac0607372c41c787af3022833ced5fe", func := "loop.example/g01273/laws.FnExactAddCouples", spec := "fnExactAddCouples", unfollowed := true, recurses := true, plainKeys := false, apart := false }
def FnExactAddCouplesSaid : Prop := fnExactAddCouplesRow.holds Try.pinned (OpenSpec.ofChange fnExactAddCouplesSpec)

/-- ITS FALSE NEIGHBOUR: 'it returns false'. Refute it at one input. -/
def fnExactAddCouplesWrong : ChangeSpec := { name := "fnExactAddCouples", fn := fun _ => fun
  | [d1, d2] => { results := [.lit (.bool false)], args := [d1, d2] }
  | _ => none }
def FnExactAddCouplesWrongFalsely : Prop := fnExactAddCouplesRow.holds Try.pinned (OpenSpec.ofChange fnExactAddCouplesWrong)

/-- 'laws.FnExactLastPage': WHATEVER THE INPUT: true; the input reads as it did. -/
def fnExactLastPageSpec : ChangeSpec := { name := "fnExactLastPage", fn := fun _ => fun
  | [d] => { results := [.lit (.bool true)], args := [d] }
  | _ => none }
def fnExactLastPageRow : OpenClaim := { program := "ytaaficdlckcgkaa", sum := "aee5f4df4075daba97ac0d438688130ceac0607372c41c787af3022833ced5fe", func := "loop.example/g01273/laws.FnExactLastPage", spec := "fnExactLastPage", inPlace := ["slices.overlaps[loop.example/g01273/impl.vector]"], unfollowed := true, recurses := true, plainKeys := false, apart := false }
def FnExactLastPageSaid : Prop := fnExactLastPageRow.holds Try.pinned (OpenSpec.ofChange fnExactLastPageSpec)

/-- ITS FALSE NEIGHBOUR: 'it returns false'. Refute it at one input. -/
def fnExactLastPageWrong : ChangeSpec := { name := "fnExactLastPage", fn := fun _ => fun
  | [d] => { results := [.lit (.bool false)], args := [d] }
  | _ => none }
def FnExactLastPageWrongFalsely : Prop := fnExactLastPageRow.holds Try.pinned (OpenSpec.ofChange fnExactLastPageWrong)

/-- 'laws.FnExactPartOf': WHATEVER THE INPUT: true; the input reads as it did. -/
def fnExactPartOfSpec : ChangeSpec := { name := "fnExactPartOf", fn := fun _ => fun
  | [d1, d2] => { results := [.lit (.bool true)], args := [d1, d2] }
  | _ => none }
def fnExactPartOfRow : OpenClaim := { program := "ytaaficdlckcgkaa", sum := "aee5f4df4075daba97ac0d438688130ceac0607372c41c787af3022833ced5fe", func := "loop.example/g01273/laws.FnExactPartOf", spec := "fnExactPartOf", plainKeys := false, apart := false }
def FnExactPartOfSaid : Prop := fnExactPartOfRow.holds Try.pinned (OpenSpec.ofChange fnExactPartOfSpec)

/-- ITS FALSE NEIGHBOUR: 'it returns false'. Refute it at one input. -/
def fnExactPartOfWrong : ChangeSpec := { name := "fnExactPartOf", fn := fun _ => fun
  | [d1, d2] => { results := [.lit (.bool false)], args := [d1, d2] }
  | _ => none }
def FnExactPartOfWrongFalsely : Prop := fnExactPartOfRow.holds Try.pinned (OpenSpec.ofChange fnExactPartOfWrong)

/-- 'laws.FnExactDifferentialRank': WHATEVER THE INPUT: true; the input reads as it did. -/
def fnExactDifferentialRankSpec : ChangeSpec := { name := "fnExactDifferentialRank", fn := fun _ => fun
  | [d1, d2, d3, d4] => { results := [.lit (.bool true)], args := [d1, d2, d3, d4] }
  | _ => none }
def fnExactDifferentialRankRow : OpenClaim := { program := "ytaaficdlckcgkaa", sum := "aee5f4df4075daba97ac0d438688130ceac0607372c41c787af3022833ced5fe", func := "loop.example/g01273/laws.FnExactDifferentialRank", spec := "fnExactDifferentialRank", inPlace := ["slices.overlaps[loop.example/g01273/impl.vector]"], plainKeys := false, apart := false }
def FnExactDifferentialRankSaid : Prop := fnExactDifferentialRankRow.holds Try.pinned (OpenSpec.ofChange fnExactDifferentialRankSpec)

/-- ITS FALSE NEIGHBOUR: 'it returns false'. Refute it at one input. -/
def fnExactDifferentialRankWrong : ChangeSpec := { name := "fnExactDifferentialRank", fn := fun _ => fun
  | [d1, d2, d3, d4] => { results := [.lit (.bool false)], args := [d1, d2, d3, d4] }
  | _ => none }
def FnExactDifferentialRankWrongFalsely : Prop := fnExactDifferentialRankRow.holds Try.pinned (OpenSpec.ofChange fnExactDifferentialRankWrong)

/-- 'laws.FnExactAddFamilies': WHATEVER THE INPUT: true; the input reads as it did. -/
def fnExactAddFamiliesSpec : ChangeSpec := { name := "fnExactAddFamilies", fn := fun _ => fun
  | [d1, d2, d3, d4, d5] => { results := [.lit (.bool true)], args := [d1, d2, d3, d4, d5] }
  | _ => none }
def fnExactAddFamiliesRow : OpenClaim := { program := "ytaaficdlckcgkaa", sum := "aee5f4df4075daba97ac0d438688130ceac0607372c41c787af3022833ced5fe", func := "loop.example/g01273/laws.FnExactAddFamilies", spec := "fnExactAddFamilies", unfollowed := true, recurses := true, plainKeys := false, apart := false }
def FnExactAddFamiliesSaid : Prop := fnExactAddFamiliesRow.holds Try.pinned (OpenSpec.ofChange fnExactAddFamiliesSpec)

/-- ITS FALSE NEIGHBOUR: 'it returns false'. Refute it at one input. -/
def fnExactAddFamiliesWrong : ChangeSpec := { name := "fnExactAddFamilies", fn := fun _ => fun
  | [d1, d2, d3, d4, d5] => { results := [.lit (.bool false)], args := [d1, d2, d3, d4, d5] }
  | _ => none }
def FnExactAddFamiliesWrongFalsely : Prop := fnExactAddFamiliesRow.holds Try.pinned (OpenSpec.ofChange fnExactAddFamiliesWrong)

/-- 'laws.FnExactComposeFamilies': WHATEVER THE INPUT: true; the input reads as it did. -/
def fnExactComposeFamiliesSpec : ChangeSpec := { name := "fnExactComposeFamilies", fn := fun _ => fun
  | [d1, d2, d3, d4, d5] => { results := [.lit (.bool true)], args := [d1, d2, d3, d4, d5] }
  | _ => none }
def fnExactComposeFamiliesRow : OpenClaim := { program := "ytaaficdlckcgkaa", sum := "aee5f4df4075daba97ac0d438688130ceac0607372c41c787af3022833ced5fe", func := "loop.example/g01273/laws.FnExactComposeFamilies", spec := "fnExactComposeFamilies", unfollowed := true, recurses := true, plainKeys := false, apart := false }
def FnExactComposeFamiliesSaid : Prop := fnExactComposeFamiliesRow.holds Try.pinned (OpenSpec.ofChange fnExactComposeFamiliesSpec)

/-- ITS FALSE NEIGHBOUR: 'it returns false'. Refute it at one input. -/
def fnExactComposeFamiliesWrong : ChangeSpec := { name := "fnExactComposeFamilies", fn := fun _ => fun
  | [d1, d2, d3, d4, d5] => { results := [.lit (.bool false)], args := [d1, d2, d3, d4, d5] }
  | _ => none }
def FnExactComposeFamiliesWrongFalsely : Prop := fnExactComposeFamiliesRow.holds Try.pinned (OpenSpec.ofChange fnExactComposeFamiliesWrong)

/- THE SECOND FORM. 'bulk': how many values and letters a reading holds, each counted each time it is reached (what is shared counts as often as it is met; a slice's spare places count too). A statement '..UptoSaid' is the law's where the arguments, and the package variables that the reading takes, are together of bulk at most 1048576: NARROWER than '..Said'. Prove '..Said' where nothing that the law and all that it calls make is longer than what came in: it says more and counts as full. Else prove '..UptoSaid'. A law counts once. -/
mutual
def uptoBulk {H : Type} : DataW H → Nat
  | .lit (.string bytes) => bytes.length + 1
  | .lit _ => 1
  | .nil => 1
  | .ptr d => uptoBulk d + 1
  | .slice elems spare => uptoBulkAll elems + uptoBulkAll spare + 1
  | .agg parts => uptoBulkAll parts + 1
  | .iface _ d => uptoBulk d + 1
  | .map entries => uptoBulkEntries entries + 1
  | .held _ => 1
def uptoBulkAll {H : Type} : List (DataW H) → Nat
  | [] => 0
  | d :: r => uptoBulk d + uptoBulkAll r
def uptoBulkEntries {H : Type} : List (Lit × DataW H) → Nat
  | [] => 0
  | x :: r => uptoBulkEntry x + uptoBulkEntries r
def uptoBulkEntry {H : Type} : Lit × DataW H → Nat
  | (.string bytes, d) => bytes.length + uptoBulk d + 1
  | (_, d) => uptoBulk d + 1
 end
def uptoSmall : (H : Type) → List (DataW H) → Bool := fun _ ds => decide (uptoBulkAll ds ≤ 1048576)
def OpenSpec.upto (s : _root_.Go.ChangeSpec) : _root_.Go.OpenSpec := { _root_.Go.OpenSpec.ofChange s with cond := some uptoSmall }

/-- 'laws.FnExactShiftComplex', WHERE WHAT IT READS IS OF BULK AT MOST 1048576: true; the input reads as it did. -/
def fnExactShiftComplexUptoRow : OpenClaim := { program := "ytaaficdlckcgkaa", sum := "aee5f4df4075daba97ac0d438688130ceac0607372c41c787af3022833ced5fe", func := "loop.example/g01273/laws.FnExactShiftComplex", spec := "fnExactShiftComplex", plainKeys := false, apart := false, narrowed := true }
def FnExactShiftComplexUptoSaid : Prop := fnExactShiftComplexUptoRow.holds Try.pinned (OpenSpec.upto fnExactShiftComplexSpec)

/-- 'laws.FnExactCoupleDifferential', WHERE WHAT IT READS IS OF BULK AT MOST 1048576: true; the input reads as it did. -/
def fnExactCoupleDifferentialUptoRow : OpenClaim := { program := "ytaaficdlckcgkaa", sum := "aee5f4df4075daba97ac0d438688130ceac0607372c41c787af3022833ced5fe", func := "loop.example/g01273/laws.FnExactCoupleDifferential", spec := "fnExactCoupleDifferential", unfollowed := true, recurses := true, plainKeys := false, apart := false, narrowed := true }
def FnExactCoupleDifferentialUptoSaid : Prop := fnExactCoupleDifferentialUptoRow.holds Try.pinned (OpenSpec.upto fnExactCoupleDifferentialSpec)

/-- 'laws.FnExactIsCouple', WHERE WHAT IT READS IS OF BULK AT MOST 1048576: true; the input reads as it did. -/
def fnExactIsCoupleUptoRow : OpenClaim := { program := "ytaaficdlckcgkaa", sum := "aee5f4df4075daba97ac0d438688130ceac0607372c41c787af3022833ced5fe", func := "loop.example/g01273/laws.FnExactIsCouple", spec := "fnExactIsCouple", unfollowed := true, recurses := true, plainKeys := false, apart := false, narrowed := true }
def FnExactIsCoupleUptoSaid : Prop := fnExactIsCoupleUptoRow.holds Try.pinned (OpenSpec.upto fnExactIsCoupleSpec)

/-- 'laws.FnExactRanksOf', WHERE WHAT IT READS IS OF BULK AT MOST 1048576: true; the input reads as it did. -/
def fnExactRanksOfUptoRow : OpenClaim := { program := "ytaaficdlckcgkaa", sum := "aee5f4df4075daba97ac0d438688130ceac0607372c41c787af3022833ced5fe", func := "loop.example/g01273/laws.FnExactRanksOf", spec := "fnExactRanksOf", inPlace := ["slices.overlaps[loop.example/g01273/impl.vector]"], unfollowed := true, recurses := true, plainKeys := false, apart := false, narrowed := true }
def FnExactRanksOfUptoSaid : Prop := fnExactRanksOfUptoRow.holds Try.pinned (OpenSpec.upto fnExactRanksOfSpec)

/-- 'laws.FnExactAddComplexes', WHERE WHAT IT READS IS OF BULK AT MOST 1048576: true; the input reads as it did. -/
def fnExactAddComplexesUptoRow : OpenClaim := { program := "ytaaficdlckcgkaa", sum := "aee5f4df4075daba97ac0d438688130ceac0607372c41c787af3022833ced5fe", func := "loop.example/g01273/laws.FnExactAddComplexes", spec := "fnExactAddComplexes", plainKeys := false, apart := false, narrowed := true }
def FnExactAddComplexesUptoSaid : Prop := fnExactAddComplexesUptoRow.holds Try.pinned (OpenSpec.upto fnExactAddComplexesSpec)

/-- 'laws.FnExactAddCouples', WHERE WHAT IT READS IS OF BULK AT MOST 1048576: true; the input reads as it did. -/
def fnExactAddCouplesUptoRow : OpenClaim := { program := "ytaaficdlckcgkaa", sum := "aee5f4df4075daba97ac0d438688130ceac0607372c41c787af3022833ced5fe", func := "loop.example/g01273/laws.FnExactAddCouples", spec := "fnExactAddCouples", unfollowed := true, recurses := true, plainKeys := false, apart := false, narrowed := true }
def FnExactAddCouplesUptoSaid : Prop := fnExactAddCouplesUptoRow.holds Try.pinned (OpenSpec.upto fnExactAddCouplesSpec)

/-- 'laws.FnExactLastPage', WHERE WHAT IT READS IS OF BULK AT MOST 1048576: true; the input reads as it did. -/
def fnExactLastPageUptoRow : OpenClaim := { program := "ytaaficdlckcgkaa", sum := "aee5f4df4075daba97ac0d438688130ceac0607372c41c787af3022833ced5fe", func := "loop.example/g01273/laws.FnExactLastPage", spec := "fnExactLastPage", inPlace := ["slices.overlaps[loop.example/g01273/impl.vector]"], unfollowed := true, recurses := true, plainKeys := false, apart := false, narrowed := true }
def FnExactLastPageUptoSaid : Prop := fnExactLastPageUptoRow.holds Try.pinned (OpenSpec.upto fnExactLastPageSpec)

/-- 'laws.FnExactPartOf', WHERE WHAT IT READS IS OF BULK AT MOST 1048576: true; the input reads as it did. -/
def fnExactPartOfUptoRow : OpenClaim := { program := "ytaaficdlckcgkaa", sum := "aee5f4df4075daba97ac0d438688130ceac0607372c41c787af3022833ced5fe", func := "loop.example/g01273/laws.FnExactPartOf", spec := "fnExactPartOf", plainKeys := false, apart := false, narrowed := true }
def FnExactPartOfUptoSaid : Prop := fnExactPartOfUptoRow.holds Try.pinned (OpenSpec.upto fnExactPartOfSpec)

/-- 'laws.FnExactDifferentialRank', WHERE WHAT IT READS IS OF BULK AT MOST 1048576: true; the input reads as it did. -/
def fnExactDifferentialRankUptoRow : OpenClaim := { program := "ytaaficdlckcgkaa", sum := "aee5f4df4075daba97ac0d438688130ceac0607372c41c787af3022833ced5fe", func := "loop.example/g01273/laws.FnExactDifferentialRank", spec := "fnExactDifferentialRank", inPlace := ["slices.overlaps[loop.example/g01273/impl.vector]"], plainKeys := false, apart := false, narrowed := true }
def FnExactDifferentialRankUptoSaid : Prop := fnExactDifferentialRankUptoRow.holds Try.pinned (OpenSpec.upto fnExactDifferentialRankSpec)

/-- 'laws.FnExactAddFamilies', WHERE WHAT IT READS IS OF BULK AT MOST 1048576: true; the input reads as it did. -/
def fnExactAddFamiliesUptoRow : OpenClaim := { program := "ytaaficdlckcgkaa", sum := "aee5f4df4075daba97ac0d438688130ceac0607372c41c787af3022833ced5fe", func := "loop.example/g01273/laws.FnExactAddFamilies", spec := "fnExactAddFamilies", unfollowed := true, recurses := true, plainKeys := false, apart := false, narrowed := true }
def FnExactAddFamiliesUptoSaid : Prop := fnExactAddFamiliesUptoRow.holds Try.pinned (OpenSpec.upto fnExactAddFamiliesSpec)

/-- 'laws.FnExactComposeFamilies', WHERE WHAT IT READS IS OF BULK AT MOST 1048576: true; the input reads as it did. -/
def fnExactComposeFamiliesUptoRow : OpenClaim := { program := "ytaaficdlckcgkaa", sum := "aee5f4df4075daba97ac0d438688130ceac0607372c41c787af3022833ced5fe", func := "loop.example/g01273/laws.FnExactComposeFamilies", spec := "fnExactComposeFamilies", unfollowed := true, recurses := true, plainKeys := false, apart := false, narrowed := true }
def FnExactComposeFamiliesUptoSaid : Prop := fnExactComposeFamiliesUptoRow.holds Try.pinned (OpenSpec.upto fnExactComposeFamiliesSpec)

end Rows
end Go.Proofs.Ytaaficdlckcgkaa
