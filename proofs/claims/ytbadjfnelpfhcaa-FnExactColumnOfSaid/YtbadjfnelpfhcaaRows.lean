/-
  No cell of these rows narrows 'for every input' (looked for: loops, veiled, ifaces, maps, wideKeys, modest, calm, conditions, laid).
  DERIVED. THE GIVEN ROWS OF THIS SEAT. 11 by the template 'for every input the law returns true; each argument reads behind the call as it read before'; 0 by the template 'total and deterministic' (their statements: YtbadjfnelpfhcaaTotals.lean).
  GIVEN WITH THE SEED: the statements are not yours to turn. If you find one false, say at which input.
  Laid BY PROGRAM, IN A SANDBOX (cutbox-rows.mjs): the forced cells as the released guide's own fill.sh prints them over the translation 294d672ba12667a4… (all of the seat's roots in one cut). By AI agents, Wed Nov 11 2026. No macro, syntax, notation, axiom, sorry.
-/
import Derived.Test.YtbadjfnelpfhcaaChecked
import GoSem.Claim
import GoSem.ClaimJoined
import GoSem.ClaimMapViews
import Derived.JoinedTies
import Derived.KernelRfl
namespace Go.Proofs.Ytbadjfnelpfhcaa
/- THE CELL 'sum', in the pinned program and in every row, IS THE sha256 OF THE DUMP (.gsa) THAT YtbadjfnelpfhcaaProg.lean LOADS. Nothing in Lean hashes anything: it is a label: what it is worth is what the hold of that sum in a sandbox is worth. -/
noncomputable def Try.pinned : Pinned := { name := "ytbadjfnelpfhcaa", sum := "294d672ba12667a4770787fee063e000f54f9c8b84a06224d502dcd482fd707b", checked := Try.checked }
namespace Rows
def none {H : Type} : Left H := { results := [], args := [] }

/-- 'laws.FnExactIsDouble': WHATEVER THE INPUT: true; the input reads as it did. -/
def fnExactIsDoubleSpec : ChangeSpec := { name := "fnExactIsDouble", fn := fun _ => fun
  | [d] => { results := [.lit (.bool true)], args := [d] }
  | _ => none }
def fnExactIsDoubleRow : OpenClaim := { program := "ytbadjfnelpfhcaa", sum := "294d672ba12667a4770787fee063e000f54f9c8b84a06224d502dcd482fd707b", func := "loop.example/g01273/laws.FnExactIsDouble", spec := "fnExactIsDouble", unfollowed := true, recurses := true, plainKeys := false, apart := false }
def FnExactIsDoubleSaid : Prop := fnExactIsDoubleRow.holds Try.pinned (OpenSpec.ofChange fnExactIsDoubleSpec)

/-- ITS FALSE NEIGHBOUR: 'it returns false'. Refute it at one input. -/
def fnExactIsDoubleWrong : ChangeSpec := { name := "fnExactIsDouble", fn := fun _ => fun
  | [d] => { results := [.lit (.bool false)], args := [d] }
  | _ => none }
def FnExactIsDoubleWrongFalsely : Prop := fnExactIsDoubleRow.holds Try.pinned (OpenSpec.ofChange fnExactIsDoubleWrong)

/-- 'laws.FnExactDoubleEuler': WHATEVER THE INPUT: true; the input reads as it did. -/
def fnExactDoubleEulerSpec : ChangeSpec := { name := "fnExactDoubleEuler", fn := fun _ => fun
  | [d] => { results := [.lit (.bool true)], args := [d] }
  | _ => none }
def fnExactDoubleEulerRow : OpenClaim := { program := "ytbadjfnelpfhcaa", sum := "294d672ba12667a4770787fee063e000f54f9c8b84a06224d502dcd482fd707b", func := "loop.example/g01273/laws.FnExactDoubleEuler", spec := "fnExactDoubleEuler", unfollowed := true, recurses := true, plainKeys := false, apart := false }
def FnExactDoubleEulerSaid : Prop := fnExactDoubleEulerRow.holds Try.pinned (OpenSpec.ofChange fnExactDoubleEulerSpec)

/-- ITS FALSE NEIGHBOUR: 'it returns false'. Refute it at one input. -/
def fnExactDoubleEulerWrong : ChangeSpec := { name := "fnExactDoubleEuler", fn := fun _ => fun
  | [d] => { results := [.lit (.bool false)], args := [d] }
  | _ => none }
def FnExactDoubleEulerWrongFalsely : Prop := fnExactDoubleEulerRow.holds Try.pinned (OpenSpec.ofChange fnExactDoubleEulerWrong)

/-- 'laws.FnExactTransposeDouble': WHATEVER THE INPUT: true; the input reads as it did. -/
def fnExactTransposeDoubleSpec : ChangeSpec := { name := "fnExactTransposeDouble", fn := fun _ => fun
  | [d] => { results := [.lit (.bool true)], args := [d] }
  | _ => none }
def fnExactTransposeDoubleRow : OpenClaim := { program := "ytbadjfnelpfhcaa", sum := "294d672ba12667a4770787fee063e000f54f9c8b84a06224d502dcd482fd707b", func := "loop.example/g01273/laws.FnExactTransposeDouble", spec := "fnExactTransposeDouble", unfollowed := true, recurses := true, plainKeys := false, apart := false }
def FnExactTransposeDoubleSaid : Prop := fnExactTransposeDoubleRow.holds Try.pinned (OpenSpec.ofChange fnExactTransposeDoubleSpec)

/-- ITS FALSE NEIGHBOUR: 'it returns false'. Refute it at one input. -/
def fnExactTransposeDoubleWrong : ChangeSpec := { name := "fnExactTransposeDouble", fn := fun _ => fun
  | [d] => { results := [.lit (.bool false)], args := [d] }
  | _ => none }
def FnExactTransposeDoubleWrongFalsely : Prop := fnExactTransposeDoubleRow.holds Try.pinned (OpenSpec.ofChange fnExactTransposeDoubleWrong)

/-- 'laws.FnExactColumnOf': WHATEVER THE INPUT: true; the input reads as it did. -/
def fnExactColumnOfSpec : ChangeSpec := { name := "fnExactColumnOf", fn := fun _ => fun
  | [d1, d2] => { results := [.lit (.bool true)], args := [d1, d2] }
  | _ => none }
def fnExactColumnOfRow : OpenClaim := { program := "ytbadjfnelpfhcaa", sum := "294d672ba12667a4770787fee063e000f54f9c8b84a06224d502dcd482fd707b", func := "loop.example/g01273/laws.FnExactColumnOf", spec := "fnExactColumnOf", unfollowed := true, recurses := true, plainKeys := false, apart := false }
def FnExactColumnOfSaid : Prop := fnExactColumnOfRow.holds Try.pinned (OpenSpec.ofChange fnExactColumnOfSpec)

/-- ITS FALSE NEIGHBOUR: 'it returns false'. Refute it at one input. -/
def fnExactColumnOfWrong : ChangeSpec := { name := "fnExactColumnOf", fn := fun _ => fun
  | [d1, d2] => { results := [.lit (.bool false)], args := [d1, d2] }
  | _ => none }
def FnExactColumnOfWrongFalsely : Prop := fnExactColumnOfRow.holds Try.pinned (OpenSpec.ofChange fnExactColumnOfWrong)

/-- 'laws.FnExactColumnHomology': WHATEVER THE INPUT: true; the input reads as it did. -/
def fnExactColumnHomologySpec : ChangeSpec := { name := "fnExactColumnHomology", fn := fun _ => fun
  | [d] => { results := [.lit (.bool true)], args := [d] }
  | _ => none }
def fnExactColumnHomologyRow : OpenClaim := { program := "ytbadjfnelpfhcaa", sum := "294d672ba12667a4770787fee063e000f54f9c8b84a06224d502dcd482fd707b", func := "loop.example/g01273/laws.FnExactColumnHomology", spec := "fnExactColumnHomology", inPlace := ["slices.overlaps[loop.example/g01273/impl.vector]"], unfollowed := true, recurses := true, plainKeys := false, apart := false }
def FnExactColumnHomologySaid : Prop := fnExactColumnHomologyRow.holds Try.pinned (OpenSpec.ofChange fnExactColumnHomologySpec)

/-- ITS FALSE NEIGHBOUR: 'it returns false'. Refute it at one input. -/
def fnExactColumnHomologyWrong : ChangeSpec := { name := "fnExactColumnHomology", fn := fun _ => fun
  | [d] => { results := [.lit (.bool false)], args := [d] }
  | _ => none }
def FnExactColumnHomologyWrongFalsely : Prop := fnExactColumnHomologyRow.holds Try.pinned (OpenSpec.ofChange fnExactColumnHomologyWrong)

/-- 'laws.FnExactTotalOf': WHATEVER THE INPUT: true; the input reads as it did. -/
def fnExactTotalOfSpec : ChangeSpec := { name := "fnExactTotalOf", fn := fun _ => fun
  | [d] => { results := [.lit (.bool true)], args := [d] }
  | _ => none }
def fnExactTotalOfRow : OpenClaim := { program := "ytbadjfnelpfhcaa", sum := "294d672ba12667a4770787fee063e000f54f9c8b84a06224d502dcd482fd707b", func := "loop.example/g01273/laws.FnExactTotalOf", spec := "fnExactTotalOf", unfollowed := true, recurses := true, plainKeys := false, apart := false }
def FnExactTotalOfSaid : Prop := fnExactTotalOfRow.holds Try.pinned (OpenSpec.ofChange fnExactTotalOfSpec)

/-- ITS FALSE NEIGHBOUR: 'it returns false'. Refute it at one input. -/
def fnExactTotalOfWrong : ChangeSpec := { name := "fnExactTotalOf", fn := fun _ => fun
  | [d] => { results := [.lit (.bool false)], args := [d] }
  | _ => none }
def FnExactTotalOfWrongFalsely : Prop := fnExactTotalOfRow.holds Try.pinned (OpenSpec.ofChange fnExactTotalOfWrong)

/-- 'laws.FnExactFilteredTotal': WHATEVER THE INPUT: true; the input reads as it did. -/
def fnExactFilteredTotalSpec : ChangeSpec := { name := "fnExactFilteredTotal", fn := fun _ => fun
  | [d1, d2] => { results := [.lit (.bool true)], args := [d1, d2] }
  | _ => none }
def fnExactFilteredTotalRow : OpenClaim := { program := "ytbadjfnelpfhcaa", sum := "294d672ba12667a4770787fee063e000f54f9c8b84a06224d502dcd482fd707b", func := "loop.example/g01273/laws.FnExactFilteredTotal", spec := "fnExactFilteredTotal", unfollowed := true, recurses := true, plainKeys := false, apart := false }
def FnExactFilteredTotalSaid : Prop := fnExactFilteredTotalRow.holds Try.pinned (OpenSpec.ofChange fnExactFilteredTotalSpec)

/-- ITS FALSE NEIGHBOUR: 'it returns false'. Refute it at one input. -/
def fnExactFilteredTotalWrong : ChangeSpec := { name := "fnExactFilteredTotal", fn := fun _ => fun
  | [d1, d2] => { results := [.lit (.bool false)], args := [d1, d2] }
  | _ => none }
def FnExactFilteredTotalWrongFalsely : Prop := fnExactFilteredTotalRow.holds Try.pinned (OpenSpec.ofChange fnExactFilteredTotalWrong)

/-- 'laws.FnExactPartOf': WHATEVER THE INPUT: true; the input reads as it did. -/
def fnExactPartOfSpec : ChangeSpec := { name := "fnExactPartOf", fn := fun _ => fun
  | [d1, d2] => { results := [.lit (.bool true)], args := [d1, d2] }
  | _ => none }
def fnExactPartOfRow : OpenClaim := { program := "ytbadjfnelpfhcaa", sum := "294d672ba12667a4770787fee063e000f54f9c8b84a06224d502dcd482fd707b", func := "loop.example/g01273/laws.FnExactPartOf", spec := "fnExactPartOf", plainKeys := false, apart := false }
def FnExactPartOfSaid : Prop := fnExactPartOfRow.holds Try.pinned (OpenSpec.ofChange fnExactPartOfSpec)

/-- ITS FALSE NEIGHBOUR: 'it returns false'. Refute it at one input. -/
def fnExactPartOfWrong : ChangeSpec := { name := "fnExactPartOf", fn := fun _ => fun
  | [d1, d2] => { results := [.lit (.bool false)], args := [d1, d2] }
  | _ => none }
def FnExactPartOfWrongFalsely : Prop := fnExactPartOfRow.holds Try.pinned (OpenSpec.ofChange fnExactPartOfWrong)

/-- 'laws.FnExactPowerComplex': WHATEVER THE INPUT: true; the input reads as it did. -/
def fnExactPowerComplexSpec : ChangeSpec := { name := "fnExactPowerComplex", fn := fun _ => fun
  | [d1, d2] => { results := [.lit (.bool true)], args := [d1, d2] }
  | _ => none }
def fnExactPowerComplexRow : OpenClaim := { program := "ytbadjfnelpfhcaa", sum := "294d672ba12667a4770787fee063e000f54f9c8b84a06224d502dcd482fd707b", func := "loop.example/g01273/laws.FnExactPowerComplex", spec := "fnExactPowerComplex", unfollowed := true, recurses := true, plainKeys := false, apart := false }
def FnExactPowerComplexSaid : Prop := fnExactPowerComplexRow.holds Try.pinned (OpenSpec.ofChange fnExactPowerComplexSpec)

/-- ITS FALSE NEIGHBOUR: 'it returns false'. Refute it at one input. -/
def fnExactPowerComplexWrong : ChangeSpec := { name := "fnExactPowerComplex", fn := fun _ => fun
  | [d1, d2] => { results := [.lit (.bool false)], args := [d1, d2] }
  | _ => none }
def FnExactPowerComplexWrongFalsely : Prop := fnExactPowerComplexRow.holds Try.pinned (OpenSpec.ofChange fnExactPowerComplexWrong)

/-- 'laws.FnExactLastPage': WHATEVER THE INPUT: true; the input reads as it did. -/
def fnExactLastPageSpec : ChangeSpec := { name := "fnExactLastPage", fn := fun _ => fun
  | [d] => { results := [.lit (.bool true)], args := [d] }
  | _ => none }
def fnExactLastPageRow : OpenClaim := { program := "ytbadjfnelpfhcaa", sum := "294d672ba12667a4770787fee063e000f54f9c8b84a06224d502dcd482fd707b", func := "loop.example/g01273/laws.FnExactLastPage", spec := "fnExactLastPage", inPlace := ["slices.overlaps[loop.example/g01273/impl.vector]"], unfollowed := true, recurses := true, plainKeys := false, apart := false }
def FnExactLastPageSaid : Prop := fnExactLastPageRow.holds Try.pinned (OpenSpec.ofChange fnExactLastPageSpec)

/-- ITS FALSE NEIGHBOUR: 'it returns false'. Refute it at one input. -/
def fnExactLastPageWrong : ChangeSpec := { name := "fnExactLastPage", fn := fun _ => fun
  | [d] => { results := [.lit (.bool false)], args := [d] }
  | _ => none }
def FnExactLastPageWrongFalsely : Prop := fnExactLastPageRow.holds Try.pinned (OpenSpec.ofChange fnExactLastPageWrong)

/-- 'laws.FnExactDeterminantOf': WHATEVER THE INPUT: true; the input reads as it did. -/
def fnExactDeterminantOfSpec : ChangeSpec := { name := "fnExactDeterminantOf", fn := fun _ => fun
  | [d] => { results := [.lit (.bool true)], args := [d] }
  | _ => none }
def fnExactDeterminantOfRow : OpenClaim := { program := "ytbadjfnelpfhcaa", sum := "294d672ba12667a4770787fee063e000f54f9c8b84a06224d502dcd482fd707b", func := "loop.example/g01273/laws.FnExactDeterminantOf", spec := "fnExactDeterminantOf", recurses := true, plainKeys := false, apart := false }
def FnExactDeterminantOfSaid : Prop := fnExactDeterminantOfRow.holds Try.pinned (OpenSpec.ofChange fnExactDeterminantOfSpec)

/-- ITS FALSE NEIGHBOUR: 'it returns false'. Refute it at one input. -/
def fnExactDeterminantOfWrong : ChangeSpec := { name := "fnExactDeterminantOf", fn := fun _ => fun
  | [d] => { results := [.lit (.bool false)], args := [d] }
  | _ => none }
def FnExactDeterminantOfWrongFalsely : Prop := fnExactDeterminantOfRow.holds Try.pinned (OpenSpec.ofChange fnExactDeterminantOfWrong)

/- THE SECOND FORM. 'bulk': how many values and letters a reading holds, each counted each time it is reached (what is shared counts as often as it is met; a slice's spare places count too). A statement '..UptoSaid' is the law's where the arguments, and the package variables that the reading takes, are together of bulk at most 1048576: NARROWER than '..Said'. Prove '..Said' where nothing that the law and all that it calls make is longer than what came in: it says more and counts as full. Else prove '..UptoSaid'. A law counts once. -/
mutual
def uptoBulk {H : Type} : DataW H → Nat
  | .lit (.string bytes) => bytes.length + 1
  | .lit _ => 1
  | .nil => 1
  | .ptr d => uptoBulk d + 1
  | .slice elems spare => uptoBulkAll elems + uptoBulkAll spare + 1
  | .agg parts => uptoBulkAll parts + 1
  | .iface _ d => uptoBulk d + 1
  | .map entries => uptoBulkEntries entries + 1
  | .held _ => 1
def uptoBulkAll {H : Type} : List (DataW H) → Nat
  | [] => 0
  | d :: r => uptoBulk d + uptoBulkAll r
def uptoBulkEntries {H : Type} : List (Lit × DataW H) → Nat
  | [] => 0
  | x :: r => uptoBulkEntry x + uptoBulkEntries r
def uptoBulkEntry {H : Type} : Lit × DataW H → Nat
  | (.string bytes, d) => bytes.length + uptoBulk d + 1
  | (_, d) => uptoBulk d + 1
 end
def uptoSmall : (H : Type) → List (DataW H) → Bool := fun _ ds => decide (uptoBulkAll ds ≤ 1048576)
def OpenSpec.upto (s : _root_.Go.ChangeSpec) : _root_.Go.OpenSpec := { _root_.Go.OpenSpec.ofChange s with cond := some uptoSmall }

/-- 'laws.FnExactIsDouble', WHERE WHAT IT READS IS OF BULK AT MOST 1048576: true; the input reads as it did. -/
def fnExactIsDoubleUptoRow : OpenClaim := { program := "ytbadjfnelpfhcaa", sum := "294d672ba12667a4770787fee063e000f54f9c8b84a06224d502dcd482fd707b", func := "loop.example/g01273/laws.FnExactIsDouble", spec := "fnExactIsDouble", unfollowed := true, recurses := true, plainKeys := false, apart := false, narrowed := true }
def FnExactIsDoubleUptoSaid : Prop := fnExactIsDoubleUptoRow.holds Try.pinned (OpenSpec.upto fnExactIsDoubleSpec)

/-- 'laws.FnExactDoubleEuler', WHERE WHAT IT READS IS OF BULK AT MOST 1048576: true; the input reads as it did. -/
def fnExactDoubleEulerUptoRow : OpenClaim := { program := "ytbadjfnelpfhcaa", sum := "294d672ba12667a4770787fee063e000f54f9c8b84a06224d502dcd482fd707b", func := "loop.example/g01273/laws.FnExactDoubleEuler", spec := "fnExactDoubleEuler", unfollowed := true, recurses := true, plainKeys := false, apart := false, narrowed := true }
def FnExactDoubleEulerUptoSaid : Prop := fnExactDoubleEulerUptoRow.holds Try.pinned (OpenSpec.upto fnExactDoubleEulerSpec)

/-- 'laws.FnExactTransposeDouble', WHERE WHAT IT READS IS OF BULK AT MOST 1048576: true; the input reads as it did. -/
def fnExactTransposeDoubleUptoRow : OpenClaim := { program := "ytbadjfnelpfhcaa", sum := "294d672ba12667a4770787fee063e000f54f9c8b84a06224d502dcd482fd707b", func := "loop.example/g01273/laws.FnExactTransposeDouble", spec := "fnExactTransposeDouble", unfollowed := true, recurses := true, plainKeys := false, apart := false, narrowed := true }
def FnExactTransposeDoubleUptoSaid : Prop := fnExactTransposeDoubleUptoRow.holds Try.pinned (OpenSpec.upto fnExactTransposeDoubleSpec)

/-- 'laws.FnExactColumnOf', WHERE WHAT IT READS IS OF BULK AT MOST 1048576: true; the input reads as it did. -/
def fnExactColumnOfUptoRow : OpenClaim := { program := "ytbadjfnelpfhcaa", sum := "294d672ba12667a4770787fee063e000f54f9c8b84a06224d502dcd482fd707b", func := "loop.example/g01273/laws.FnExactColumnOf", spec := "fnExactColumnOf", unfollowed := true, recurses := true, plainKeys := false, apart := false, narrowed := true }
def FnExactColumnOfUptoSaid : Prop := fnExactColumnOfUptoRow.holds Try.pinned (OpenSpec.upto fnExactColumnOfSpec)

/-- 'laws.FnExactColumnHomology', WHERE WHAT IT READS IS OF BULK AT MOST 1048576: true; the input reads as it did. -/
def fnExactColumnHomologyUptoRow : OpenClaim := { program := "ytbadjfnelpfhcaa", sum := "294d672ba12667a4770787fee063e000f54f9c8b84a06224d502dcd482fd707b", func := "loop.example/g01273/laws.FnExactColumnHomology", spec := "fnExactColumnHomology", inPlace := ["slices.overlaps[loop.example/g01273/impl.vector]"], unfollowed := true, recurses := true, plainKeys := false, apart := false, narrowed := true }
def FnExactColumnHomologyUptoSaid : Prop := fnExactColumnHomologyUptoRow.holds Try.pinned (OpenSpec.upto fnExactColumnHomologySpec)

/-- 'laws.FnExactTotalOf', WHERE WHAT IT READS IS OF BULK AT MOST 1048576: true; the input reads as it did. -/
def fnExactTotalOfUptoRow : OpenClaim := { program := "ytbadjfnelpfhcaa", sum := "294d672ba12667a4770787fee063e000f54f9c8b84a06224d502dcd482fd707b", func := "loop.example/g01273/laws.FnExactTotalOf", spec := "fnExactTotalOf", unfollowed := true, recurses := true, plainKeys := false, apart := false, narrowed := true }
def FnExactTotalOfUptoSaid : Prop := fnExactTotalOfUptoRow.holds Try.pinned (OpenSpec.upto fnExactTotalOfSpec)

/-- 'laws.FnExactFilteredTotal', WHERE WHAT IT READS IS OF BULK AT MOST 1048576: true; the input reads as it did. -/
def fnExactFilteredTotalUptoRow : OpenClaim := { program := "ytbadjfnelpfhcaa", sum := "294d672ba12667a4770787fee063e000f54f9c8b84a06224d502dcd482fd707b", func := "loop.example/g01273/laws.FnExactFilteredTotal", spec := "fnExactFilteredTotal", unfollowed := true, recurses := true, plainKeys := false, apart := false, narrowed := true }
def FnExactFilteredTotalUptoSaid : Prop := fnExactFilteredTotalUptoRow.holds Try.pinned (OpenSpec.upto fnExactFilteredTotalSpec)

/-- 'laws.FnExactPartOf', WHERE WHAT IT READS IS OF BULK AT MOST 1048576: true; the input reads as it did. -/
def fnExactPartOfUptoRow : OpenClaim := { program := "ytbadjfnelpfhcaa", sum := "294d672ba12667a4770787fee063e000f54f9c8b84a06224d502dcd482fd707b", func := "loop.example/g01273/laws.FnExactPartOf", spec := "fnExactPartOf", plainKeys := false, apart := false, narrowed := true }
def FnExactPartOfUptoSaid : Prop := fnExactPartOfUptoRow.holds Try.pinned (OpenSpec.upto fnExactPartOfSpec)

/-- 'laws.FnExactPowerComplex', WHERE WHAT IT READS IS OF BULK AT MOST 1048576: true; the input reads as it did. -/
def fnExactPowerComplexUptoRow : OpenClaim := { program := "ytbadjfnelpfhcaa", sum := "294d672ba12667a4770787fee063e000f54f9c8b84a06224d502dcd482fd707b", func := "loop.example/g01273/laws.FnExactPowerComplex", spec := "fnExactPowerComplex", unfollowed := true, recurses := true, plainKeys := false, apart := false, narrowed := true }
def FnExactPowerComplexUptoSaid : Prop := fnExactPowerComplexUptoRow.holds Try.pinned (OpenSpec.upto fnExactPowerComplexSpec)

/-- 'laws.FnExactLastPage', WHERE WHAT IT READS IS OF BULK AT MOST 1048576: true; the input reads as it did. -/
def fnExactLastPageUptoRow : OpenClaim := { program := "ytbadjfnelpfhcaa", sum := "294d672ba12667a4770787fee063e000f54f9c8b84a06224d502dcd482fd707b", func := "loop.example/g01273/laws.FnExactLastPage", spec := "fnExactLastPage", inPlace := ["slices.overlaps[loop.example/g01273/impl.vector]"], unfollowed := true, recurses := true, plainKeys := false, apart := false, narrowed := true }
def FnExactLastPageUptoSaid : Prop := fnExactLastPageUptoRow.holds Try.pinned (OpenSpec.upto fnExactLastPageSpec)

/-- 'laws.FnExactDeterminantOf', WHERE WHAT IT READS IS OF BULK AT MOST 1048576: true; the input reads as it did. -/
def fnExactDeterminantOfUptoRow : OpenClaim := { program := "ytbadjfnelpfhcaa", sum := "294d672ba12667a4770787fee063e000f54f9c8b84a06224d502dcd482fd707b", func := "loop.example/g01273/laws.FnExactDeterminantOf", spec := "fnExactDeterminantOf", recurses := true, plainKeys := false, apart := false, narrowed := true }
def FnExactDeterminantOfUptoSaid : Prop := fnExactDeterminantOfUptoRow.holds Try.pinned (OpenSpec.upto fnExactDeterminantOfSpec)

end Rows
end Go.Proofs.Ytbadjfnelpfhcaa
