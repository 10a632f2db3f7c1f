/-
  No cell of these rows narrows 'for every input' (looked for: loops, veiled, ifaces, maps, wideKeys, modest, calm, conditions, laid).
  DERIVED. THE GIVEN ROWS OF THIS SEAT. 5 by the template 'for every input the law returns true; each argument reads behind the call as it read before'; 0 by the template 'total and deterministic' (their statements: YtobfeleoafdmpaaTotals.lean).
  GIVEN WITH THE SEED: the statements are not yours to turn. If you find one false, say at which input.
  Laid BY PROGRAM, IN A SANDBOX (cutbox-rows.mjs): the forced cells as the released guide's own fill.sh prints them over the translation 9436ef66afe30ee1… (all of the seat's roots in one cut). By AI agents, Wed Nov 11 2026. No macro, syntax, notation, axiom, sorry.
-/
import Derived.Test.YtobfeleoafdmpaaChecked
import GoSem.Claim
import GoSem.ClaimJoined
import GoSem.ClaimMapViews
import Derived.JoinedTies
import Derived.KernelRfl
namespace Go.Proofs.Ytobfeleoafdmpaa
/- THE CELL 'sum', in the pinned program and in every row, IS THE sha256 OF THE DUMP (.gsa) THAT YtobfeleoafdmpaaProg.lean LOADS. Nothing in Lean hashes anything: it is a label: what it is worth is what the hold of that sum in a sandbox is worth. -/
noncomputable def Try.pinned : Pinned := { name := "ytobfeleoafdmpaa", sum := "9436ef66afe30ee1f48ba5fa0bbfa0ddfbb9bd5ce0592e5eeded79abdfcc69a3", checked := Try.checked }
namespace Rows
def none {H : Type} : Left H := { results := [], args := [] }

/-- 'laws.FnExactIsFiltered': WHATEVER THE INPUT: true; the input reads as it did. -/
def fnExactIsFilteredSpec : ChangeSpec := { name := "fnExactIsFiltered", fn := fun _ => fun
  | [d] => { results := [.lit (.bool true)], args := [d] }
  | _ => none }
def fnExactIsFilteredRow : OpenClaim := { program := "ytobfeleoafdmpaa", sum := "9436ef66afe30ee1f48ba5fa0bbfa0ddfbb9bd5ce0592e5eeded79abdfcc69a3", func := "loop.example/g01273/laws.FnExactIsFiltered", spec := "fnExactIsFiltered", apart := false }
def FnExactIsFilteredSaid : Prop := fnExactIsFilteredRow.holds Try.pinned (OpenSpec.ofChange fnExactIsFilteredSpec)

/-- ITS FALSE NEIGHBOUR: 'it returns false'. Refute it at one input. -/
def fnExactIsFilteredWrong : ChangeSpec := { name := "fnExactIsFiltered", fn := fun _ => fun
  | [d] => { results := [.lit (.bool false)], args := [d] }
  | _ => none }
def FnExactIsFilteredWrongFalsely : Prop := fnExactIsFilteredRow.holds Try.pinned (OpenSpec.ofChange fnExactIsFilteredWrong)

/-- 'laws.FnExactPartOf': WHATEVER THE INPUT: true; the input reads as it did. -/
def fnExactPartOfSpec : ChangeSpec := { name := "fnExactPartOf", fn := fun _ => fun
  | [d1, d2] => { results := [.lit (.bool true)], args := [d1, d2] }
  | _ => none }
def fnExactPartOfRow : OpenClaim := { program := "ytobfeleoafdmpaa", sum := "9436ef66afe30ee1f48ba5fa0bbfa0ddfbb9bd5ce0592e5eeded79abdfcc69a3", func := "loop.example/g01273/laws.FnExactPartOf", spec := "fnExactPartOf", apart := false }
def FnExactPartOfSaid : Prop := fnExactPartOfRow.holds Try.pinned (OpenSpec.ofChange fnExactPartOfSpec)

/-- ITS FALSE NEIGHBOUR: 'it returns false'. Refute it at one input. -/
def fnExactPartOfWrong : ChangeSpec := { name := "fnExactPartOf", fn := fun _ => fun
  | [d1, d2] => { results := [.lit (.bool false)], args := [d1, d2] }
  | _ => none }
def FnExactPartOfWrongFalsely : Prop := fnExactPartOfRow.holds Try.pinned (OpenSpec.ofChange fnExactPartOfWrong)

/-- 'laws.FnExactDualComplex': WHATEVER THE INPUT: true; the input reads as it did. -/
def fnExactDualComplexSpec : ChangeSpec := { name := "fnExactDualComplex", fn := fun _ => fun
  | [d] => { results := [.lit (.bool true)], args := [d] }
  | _ => none }
def fnExactDualComplexRow : OpenClaim := { program := "ytobfeleoafdmpaa", sum := "9436ef66afe30ee1f48ba5fa0bbfa0ddfbb9bd5ce0592e5eeded79abdfcc69a3", func := "loop.example/g01273/laws.FnExactDualComplex", spec := "fnExactDualComplex", apart := false }
def FnExactDualComplexSaid : Prop := fnExactDualComplexRow.holds Try.pinned (OpenSpec.ofChange fnExactDualComplexSpec)

/-- ITS FALSE NEIGHBOUR: 'it returns false'. Refute it at one input. -/
def fnExactDualComplexWrong : ChangeSpec := { name := "fnExactDualComplex", fn := fun _ => fun
  | [d] => { results := [.lit (.bool false)], args := [d] }
  | _ => none }
def FnExactDualComplexWrongFalsely : Prop := fnExactDualComplexRow.holds Try.pinned (OpenSpec.ofChange fnExactDualComplexWrong)

/-- 'laws.FnExactShiftComplex': WHATEVER THE INPUT: true; the input reads as it did. -/
def fnExactShiftComplexSpec : ChangeSpec := { name := "fnExactShiftComplex", fn := fun _ => fun
  | [d1, d2] => { results := [.lit (.bool true)], args := [d1, d2] }
  | _ => none }
def fnExactShiftComplexRow : OpenClaim := { program := "ytobfeleoafdmpaa", sum := "9436ef66afe30ee1f48ba5fa0bbfa0ddfbb9bd5ce0592e5eeded79abdfcc69a3", func := "loop.example/g01273/laws.FnExactShiftComplex", spec := "fnExactShiftComplex", apart := false }
def FnExactShiftComplexSaid : Prop := fnExactShiftComplexRow.holds Try.pinned (OpenSpec.ofChange fnExactShiftComplexSpec)

/-- ITS FALSE NEIGHBOUR: 'it returns false'. Refute it at one input. -/
def fnExactShiftComplexWrong : ChangeSpec := { name := "fnExactShiftComplex", fn := fun _ => fun
  | [d1, d2] => { results := [.lit (.bool false)], args := [d1, d2] }
  | _ => none }
def FnExactShiftComplexWrongFalsely : Prop := fnExactShiftComplexRow.holds Try.pinned (OpenSpec.ofChange fnExactShiftComplexWrong)

/-- 'laws.FnExactAddComplexes': WHATEVER THE INPUT: true; the input reads as it did. -/
def fnExactAddComplexesSpec : ChangeSpec := { name := "fnExactAddComplexes", fn := fun _ => fun
  | [d1, d2] => { results := [.lit (.bool true)], args := [d1, d2] }
  | _ => none }
def fnExactAddComplexesRow : OpenClaim := { program := "ytobfeleoafdmpaa", sum := "9436ef66afe30ee1f48ba5fa0bbfa0ddfbb9bd5ce0592e5eeded79abdfcc69a3", func := "loop.example/g01273/laws.FnExactAddComplexes", spec := "fnExactAddComplexes", apart := false }
def FnExactAddComplexesSaid : Prop := fnExactAddComplexesRow.holds Try.pinned (OpenSpec.ofChange fnExactAddComplexesSpec)

/-- ITS FALSE NEIGHBOUR: 'it returns false'. Refute it at one input. -/
def fnExactAddComplexesWrong : ChangeSpec := { name := "fnExactAddComplexes", fn := fun _ => fun
  | [d1, d2] => { results := [.lit (.bool false)], args := [d1, d2] }
  | _ => none }
def FnExactAddComplexesWrongFalsely : Prop := fnExactAddComplexesRow.holds Try.pinned (OpenSpec.ofChange fnExactAddComplexesWrong)

/- THE SECOND FORM. 'bulk': how many values and letters a reading holds, each counted each time it is reached (what is shared counts as often as it is met; a slice's spare places count too). A statement '..UptoSaid' is the law's where the arguments, and the package variables that the reading takes, are together of bulk at most 1048576: NARROWER than '..Said'. Prove '..Said' where nothing that the law and all that it calls make is longer than what came in: it says more and counts as full. Else prove '..UptoSaid'. A law counts once. -/
mutual
def uptoBulk {H : Type} : DataW H → Nat
  | .lit (.string bytes) => bytes.length + 1
  | .lit _ => 1
  | .nil => 1
  | .ptr d => uptoBulk d + 1
  | .slice elems spare => uptoBulkAll elems + uptoBulkAll spare + 1
  | .agg parts => uptoBulkAll parts + 1
  | .iface _ d => uptoBulk d + 1
  | .map entries => uptoBulkEntries entries + 1
  | .held _ => 1
def uptoBulkAll {H : Type} : List (DataW H) → Nat
  | [] => 0
  | d :: r => uptoBulk d + uptoBulkAll r
def uptoBulkEntries {H : Type} : List (Lit × DataW H) → Nat
  | [] => 0
  | x :: r => uptoBulkEntry x + uptoBulkEntries r
def uptoBulkEntry {H : Type} : Lit × DataW H → Nat
  | (.string bytes, d) => bytes.length + uptoBulk d + 1
  | (_, d) => uptoBulk d + 1
 end
def uptoSmall : (H : Type) → List (DataW H) → Bool := fun _ ds => decide (uptoBulkAll ds ≤ 1048576)
def OpenSpec.upto (s : _root_.Go.ChangeSpec) : _root_.Go.OpenSpec := { _root_.Go.OpenSpec.ofChange s with cond := some uptoSmall }

/-- 'laws.FnExactIsFiltered', WHERE WHAT IT READS IS OF BULK AT MOST 1048576: true; the input reads as it did. -/
def fnExactIsFilteredUptoRow : OpenClaim := { program := "ytobfeleoafdmpaa", sum := "9436ef66afe30ee1f48ba5fa0bbfa0ddfbb9bd5ce0592e5eeded79abdfcc69a3", func := "loop.example/g01273/laws.FnExactIsFiltered", spec := "fnExactIsFiltered", apart := false, narrowed := true }
def FnExactIsFilteredUptoSaid : Prop := fnExactIsFilteredUptoRow.holds Try.pinned (OpenSpec.upto fnExactIsFilteredSpec)

/-- 'laws.FnExactPartOf', WHERE WHAT IT READS IS OF BULK AT MOST 1048576: true; the input reads as it did. -/
def fnExactPartOfUptoRow : OpenClaim := { program := "ytobfeleoafdmpaa", sum := "9436ef66afe30ee1f48ba5fa0bbfa0ddfbb9bd5ce0592e5eeded79abdfcc69a3", func := "loop.example/g01273/laws.FnExactPartOf", spec := "fnExactPartOf", apart := false, narrowed := true }
def FnExactPartOfUptoSaid : Prop := fnExactPartOfUptoRow.holds Try.pinned (OpenSpec.upto fnExactPartOfSpec)

/-- 'laws.FnExactDualComplex', WHERE WHAT IT READS IS OF BULK AT MOST 1048576: true; the input reads as it did. -/
def fnExactDualComplexUptoRow : OpenClaim := { program := "ytobfeleoafdmpaa", sum := "9436ef66afe30ee1f48ba5fa0bbfa0ddfbb9bd5ce0592e5eeded79abdfcc69a3", func := "loop.example/g01273/laws.FnExactDualComplex", spec := "fnExactDualComplex", apart := false, narrowed := true }
def FnExactDualComplexUptoSaid : Prop := fnExactDualComplexUptoRow.holds Try.pinned (OpenSpec.upto fnExactDualComplexSpec)

/-- 'laws.FnExactShiftComplex', WHERE WHAT IT READS IS OF BULK AT MOST 1048576: true; the input reads as it did. -/
def fnExactShiftComplexUptoRow : OpenClaim := { program := "ytobfeleoafdmpaa", sum := "9436ef66afe30ee1f48ba5fa0bbfa0ddfbb9bd5ce0592e5eeded79abdfcc69a3", func := "loop.example/g01273/laws.FnExactShiftComplex", spec := "fnExactShiftComplex", apart := false, narrowed := true }
def FnExactShiftComplexUptoSaid : Prop := fnExactShiftComplexUptoRow.holds Try.pinned (OpenSpec.upto fnExactShiftComplexSpec)

/-- 'laws.FnExactAddComplexes', WHERE WHAT IT READS IS OF BULK AT MOST 1048576: true; the input reads as it did. -/
def fnExactAddComplexesUptoRow : OpenClaim := { program := "ytobfeleoafdmpaa", sum := "9436ef66afe30ee1f48ba5fa0bbfa0ddfbb9bd5ce0592e5eeded79abdfcc69a3", func := "loop.example/g01273/laws.FnExactAddComplexes", spec := "fnExactAddComplexes", apart := false, narrowed := true }
def FnExactAddComplexesUptoSaid : Prop := fnExactAddComplexesUptoRow.holds Try.pinned (OpenSpec.upto fnExactAddComplexesSpec)

end Rows
end Go.Proofs.Ytobfeleoafdmpaa
