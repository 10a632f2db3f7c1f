/-
  No cell of these rows narrows 'for every input' (looked for: loops, veiled, ifaces, maps, wideKeys, modest, calm, conditions, laid).
  DERIVED. THE GIVEN ROWS OF THIS SEAT. 7 by the template 'for every input the law returns true; each argument reads behind the call as it read before'; 0 by the template 'total and deterministic' (their statements: YtlopenephgabhaaTotals.lean).
  GIVEN WITH THE SEED: the statements are not yours to turn. If you find one false, say at which input.
  Laid BY PROGRAM, IN A SANDBOX (cutbox-rows.mjs): the forced cells as the released guide's own fill.sh prints them over the translation e2929786221bee27… (all of the seat's roots in one cut). By AI agents, Wed Nov 11 2026. No macro, syntax, notation, axiom, sorry.
-/
import Derived.Test.YtlopenephgabhaaChecked
import GoSem.Claim
import GoSem.ClaimJoined
import GoSem.ClaimMapViews
import Derived.JoinedTies
import Derived.KernelRfl
namespace Go.Proofs.Ytlopenephgabhaa
/- THE CELL 'sum', in the pinned program and in every row, IS THE sha256 OF THE DUMP (.gsa) THAT YtlopenephgabhaaProg.lean LOADS. Nothing in Lean hashes anything: it is a label: what it is worth is what the hold of that sum in a sandbox is worth. -/
noncomputable def Try.pinned : Pinned := { name := "ytlopenephgabhaa", sum := "e2929786221bee2714a13ecc3c78b39f5958ff3599e276d0165b0043c5be1db4", checked := Try.checked }
namespace Rows
def none {H : Type} : Left H := { results := [], args := [] }

/-- 'laws.FnExactIsDouble': WHATEVER THE INPUT: true; the input reads as it did. -/
def fnExactIsDoubleSpec : ChangeSpec := { name := "fnExactIsDouble", fn := fun _ => fun
  | [d] => { results := [.lit (.bool true)], args := [d] }
  | _ => none }
def fnExactIsDoubleRow : OpenClaim := { program := "ytlopenephgabhaa", sum := "e2929786221bee2714a13ecc3c78b39f5958ff3599e276d0165b0043c5be1db4", func := "loop.example/g01273/laws.FnExactIsDouble", spec := "fnExactIsDouble", unfollowed := true, recurses := true, plainKeys := false, apart := false }
def FnExactIsDoubleSaid : Prop := fnExactIsDoubleRow.holds Try.pinned (OpenSpec.ofChange fnExactIsDoubleSpec)

/-- ITS FALSE NEIGHBOUR: 'it returns false'. Refute it at one input. -/
def fnExactIsDoubleWrong : ChangeSpec := { name := "fnExactIsDouble", fn := fun _ => fun
  | [d] => { results := [.lit (.bool false)], args := [d] }
  | _ => none }
def FnExactIsDoubleWrongFalsely : Prop := fnExactIsDoubleRow.holds Try.pinned (OpenSpec.ofChange fnExactIsDoubleWrong)

/-- 'laws.FnExactTransposeDouble': WHATEVER THE INPUT: true; the input reads as it did. -/
def fnExactTransposeDoubleSpec : ChangeSpec := { name := "fnExactTransposeDouble", fn := fun _ => fun
  | [d] => { results := [.lit (.bool true)], args := [d] }
  | _ => none }
def fnExactTransposeDoubleRow : OpenClaim := { program := "ytlopenephgabhaa", sum := "e2929786221bee2714a13ecc3c78b39f5958ff3599e276d0165b0043c5be1db4", func := "loop.example/g01273/laws.FnExactTransposeDouble", spec := "fnExactTransposeDouble", unfollowed := true, recurses := true, plainKeys := false, apart := false }
def FnExactTransposeDoubleSaid : Prop := fnExactTransposeDoubleRow.holds Try.pinned (OpenSpec.ofChange fnExactTransposeDoubleSpec)

/-- ITS FALSE NEIGHBOUR: 'it returns false'. Refute it at one input. -/
def fnExactTransposeDoubleWrong : ChangeSpec := { name := "fnExactTransposeDouble", fn := fun _ => fun
  | [d] => { results := [.lit (.bool false)], args := [d] }
  | _ => none }
def FnExactTransposeDoubleWrongFalsely : Prop := fnExactTransposeDoubleRow.holds Try.pinned (OpenSpec.ofChange fnExactTransposeDoubleWrong)

/-- 'laws.FnExactColumnOf': WHATEVER THE INPUT: true; the input reads as it did. -/
def fnExactColumnOfSpec : ChangeSpec := { name := "fnExactColumnOf", fn := fun _ => fun
  | [d1, d2] => { results := [.lit (.bool true)], args := [d1, d2] }
  | _ => none }
def fnExactColumnOfRow : OpenClaim := { program := "ytlopenephgabhaa", sum := "e2929786221bee2714a13ecc3c78b39f5958ff3599e276d0165b0043c5be1db4", func := "loop.example/g01273/laws.FnExactColumnOf", spec := "fnExactColumnOf", unfollowed := true, recurses := true, plainKeys := false, apart := false }
def FnExactColumnOfSaid : Prop := fnExactColumnOfRow.holds Try.pinned (OpenSpec.ofChange fnExactColumnOfSpec)

/-- ITS FALSE NEIGHBOUR: 'it returns false'. Refute it at one input. -/
def fnExactColumnOfWrong : ChangeSpec := { name := "fnExactColumnOf", fn := fun _ => fun
  | [d1, d2] => { results := [.lit (.bool false)], args := [d1, d2] }
  | _ => none }
def FnExactColumnOfWrongFalsely : Prop := fnExactColumnOfRow.holds Try.pinned (OpenSpec.ofChange fnExactColumnOfWrong)

/-- 'laws.FnExactColumnHomology': WHATEVER THE INPUT: true; the input reads as it did. -/
def fnExactColumnHomologySpec : ChangeSpec := { name := "fnExactColumnHomology", fn := fun _ => fun
  | [d] => { results := [.lit (.bool true)], args := [d] }
  | _ => none }
def fnExactColumnHomologyRow : OpenClaim := { program := "ytlopenephgabhaa", sum := "e2929786221bee2714a13ecc3c78b39f5958ff3599e276d0165b0043c5be1db4", func := "loop.example/g01273/laws.FnExactColumnHomology", spec := "fnExactColumnHomology", inPlace := ["slices.overlaps[loop.example/g01273/impl.vector]"], unfollowed := true, recurses := true, plainKeys := false, apart := false }
def FnExactColumnHomologySaid : Prop := fnExactColumnHomologyRow.holds Try.pinned (OpenSpec.ofChange fnExactColumnHomologySpec)

/-- ITS FALSE NEIGHBOUR: 'it returns false'. Refute it at one input. -/
def fnExactColumnHomologyWrong : ChangeSpec := { name := "fnExactColumnHomology", fn := fun _ => fun
  | [d] => { results := [.lit (.bool false)], args := [d] }
  | _ => none }
def FnExactColumnHomologyWrongFalsely : Prop := fnExactColumnHomologyRow.holds Try.pinned (OpenSpec.ofChange fnExactColumnHomologyWrong)

/-- 'laws.FnExactTotalOf': WHATEVER THE INPUT: true; the input reads as it did. -/
def fnExactTotalOfSpec : ChangeSpec := { name := "fnExactTotalOf", fn := fun _ => fun
  | [d] => { results := [.lit (.bool true)], args := [d] }
  | _ => none }
def fnExactTotalOfRow : OpenClaim := { program := "ytlopenephgabhaa", sum := "e2929786221bee2714a13ecc3c78b39f5958ff3599e276d0165b0043c5be1db4", func := "loop.example/g01273/laws.FnExactTotalOf", spec := "fnExactTotalOf", unfollowed := true, recurses := true, plainKeys := false, apart := false }
def FnExactTotalOfSaid : Prop := fnExactTotalOfRow.holds Try.pinned (OpenSpec.ofChange fnExactTotalOfSpec)

/-- ITS FALSE NEIGHBOUR: 'it returns false'. Refute it at one input. -/
def fnExactTotalOfWrong : ChangeSpec := { name := "fnExactTotalOf", fn := fun _ => fun
  | [d] => { results := [.lit (.bool false)], args := [d] }
  | _ => none }
def FnExactTotalOfWrongFalsely : Prop := fnExactTotalOfRow.holds Try.pinned (OpenSpec.ofChange fnExactTotalOfWrong)

/-- 'laws.FnExactFilteredTotal': WHATEVER THE INPUT: true; the input reads as it did. -/
def fnExactFilteredTotalSpec : ChangeSpec := { name := "fnExactFilteredTotal", fn := fun _ => fun
  | [d1, d2] => { results := [.lit (.bool true)], args := [d1, d2] }
  | _ => none }
def fnExactFilteredTotalRow : OpenClaim := { program := "ytlopenephgabhaa", sum := "e2929786221bee2714a13ecc3c78b39f5958ff3599e276d0165b0043c5be1db4", func := "loop.example/g01273/laws.FnExactFilteredTotal", spec := "fnExactFilteredTotal", unfollowed := true, recurses := true, plainKeys := false, apart := false }
def FnExactFilteredTotalSaid : Prop := fnExactFilteredTotalRow.holds Try.pinned (OpenSpec.ofChange fnExactFilteredTotalSpec)

/-- ITS FALSE NEIGHBOUR: 'it returns false'. Refute it at one input. -/
def fnExactFilteredTotalWrong : ChangeSpec := { name := "fnExactFilteredTotal", fn := fun _ => fun
  | [d1, d2] => { results := [.lit (.bool false)], args := [d1, d2] }
  | _ => none }
def FnExactFilteredTotalWrongFalsely : Prop := fnExactFilteredTotalRow.holds Try.pinned (OpenSpec.ofChange fnExactFilteredTotalWrong)

/-- 'laws.FnExactProductDouble': WHATEVER THE INPUT: true; the input reads as it did. -/
def fnExactProductDoubleSpec : ChangeSpec := { name := "fnExactProductDouble", fn := fun _ => fun
  | [d1, d2] => { results := [.lit (.bool true)], args := [d1, d2] }
  | _ => none }
def fnExactProductDoubleRow : OpenClaim := { program := "ytlopenephgabhaa", sum := "e2929786221bee2714a13ecc3c78b39f5958ff3599e276d0165b0043c5be1db4", func := "loop.example/g01273/laws.FnExactProductDouble", spec := "fnExactProductDouble", plainKeys := false, apart := false }
def FnExactProductDoubleSaid : Prop := fnExactProductDoubleRow.holds Try.pinned (OpenSpec.ofChange fnExactProductDoubleSpec)

/-- ITS FALSE NEIGHBOUR: 'it returns false'. Refute it at one input. -/
def fnExactProductDoubleWrong : ChangeSpec := { name := "fnExactProductDouble", fn := fun _ => fun
  | [d1, d2] => { results := [.lit (.bool false)], args := [d1, d2] }
  | _ => none }
def FnExactProductDoubleWrongFalsely : Prop := fnExactProductDoubleRow.holds Try.pinned (OpenSpec.ofChange fnExactProductDoubleWrong)

/- THE SECOND FORM. 'bulk': how many values and letters a reading holds, each counted each time it is reached (what is shared counts as often as it is met; a slice's spare places count too). A statement '..UptoSaid' is the law's where the arguments, and the package variables that the reading takes, are together of bulk at most 1048576: NARROWER than '..Said'. Prove '..Said' where nothing that the law and all that it calls make is longer than what came in: it says more and counts as full. Else prove '..UptoSaid'. A law counts once. -/
mutual
def uptoBulk {H : Type} : DataW H → Nat
  | .lit (.string bytes) => bytes.length + 1
  | .lit _ => 1
  | .nil => 1
  | .ptr d => uptoBulk d + 1
  | .slice elems spare => uptoBulkAll elems + uptoBulkAll spare + 1
  | .agg parts => uptoBulkAll parts + 1
  | .iface _ d => uptoBulk d + 1
  | .map entries => uptoBulkEntries entries + 1
  | .held _ => 1
def uptoBulkAll {H : Type} : List (DataW H) → Nat
  | [] => 0
  | d :: r => uptoBulk d + uptoBulkAll r
def uptoBulkEntries {H : Type} : List (Lit × DataW H) → Nat
  | [] => 0
  | x :: r => uptoBulkEntry x + uptoBulkEntries r
def uptoBulkEntry {H : Type} : Lit × DataW H → Nat
  | (.string bytes, d) => bytes.length + uptoBulk d + 1
  | (_, d) => uptoBulk d + 1
 end
def uptoSmall : (H : Type) → List (DataW H) → Bool := fun _ ds => decide (uptoBulkAll ds ≤ 1048576)
def OpenSpec.upto (s : _root_.Go.ChangeSpec) : _root_.Go.OpenSpec := { _root_.Go.OpenSpec.ofChange s with cond := some uptoSmall }

/-- 'laws.FnExactIsDouble', WHERE WHAT IT READS IS OF BULK AT MOST 1048576: true; the input reads as it did. -/
def fnExactIsDoubleUptoRow : OpenClaim := { program := "ytlopenephgabhaa", sum := "e2929786221bee2714a13ecc3c78b39f5958ff3599e276d0165b0043c5be1db4", func := "loop.example/g01273/laws.FnExactIsDouble", spec := "fnExactIsDouble", unfollowed := true, recurses := true, plainKeys := false, apart := false, narrowed := true }
def FnExactIsDoubleUptoSaid : Prop := fnExactIsDoubleUptoRow.holds Try.pinned (OpenSpec.upto fnExactIsDoubleSpec)

/-- 'laws.FnExactTransposeDouble', WHERE WHAT IT READS IS OF BULK AT MOST 1048576: true; the input reads as it did. -/
def fnExactTransposeDoubleUptoRow : OpenClaim := { program := "ytlopenephgabhaa", sum := "e2929786221bee2714a13ecc3c78b39f5958ff3599e276d0165b0043c5be1db4", func := "loop.example/g01273/laws.FnExactTransposeDouble", spec := "fnExactTransposeDouble", unfollowed := true, recurses := true, plainKeys := false, apart := false, narrowed := true }
def FnExactTransposeDoubleUptoSaid : Prop := fnExactTransposeDoubleUptoRow.holds Try.pinned (OpenSpec.upto fnExactTransposeDoubleSpec)

/-- 'laws.FnExactColumnOf', WHERE WHAT IT READS IS OF BULK AT MOST 1048576: true; the input reads as it did. -/
def fnExactColumnOfUptoRow : OpenClaim := { program := "ytlopenephgabhaa", sum := "e2929786221bee2714a13ecc3c78b39f5958ff3599e276d0165b0043c5be1db4", func := "loop.example/g01273/laws.FnExactColumnOf", spec := "fnExactColumnOf", unfollowed := true, recurses := true, plainKeys := false, apart := false, narrowed := true }
def FnExactColumnOfUptoSaid : Prop := fnExactColumnOfUptoRow.holds Try.pinned (OpenSpec.upto fnExactColumnOfSpec)

/-- 'laws.FnExactColumnHomology', WHERE WHAT IT READS IS OF BULK AT MOST 1048576: true; the input reads as it did. -/
def fnExactColumnHomologyUptoRow : OpenClaim := { program := "ytlopenephgabhaa", sum := "e2929786221bee2714a13ecc3c78b39f5958ff3599e276d0165b0043c5be1db4", func := "loop.example/g01273/laws.FnExactColumnHomology", spec := "fnExactColumnHomology", inPlace := ["slices.overlaps[loop.example/g01273/impl.vector]"], unfollowed := true, recurses := true, plainKeys := false, apart := false, narrowed := true }
def FnExactColumnHomologyUptoSaid : Prop := fnExactColumnHomologyUptoRow.holds Try.pinned (OpenSpec.upto fnExactColumnHomologySpec)

/-- 'laws.FnExactTotalOf', WHERE WHAT IT READS IS OF BULK AT MOST 1048576: true; the input reads as it did. -/
def fnExactTotalOfUptoRow : OpenClaim := { program := "ytlopenephgabhaa", sum := "e2929786221bee2714a13ecc3c78b39f5958ff3599e276d0165b0043c5be1db4", func := "loop.example/g01273/laws.FnExactTotalOf", spec := "fnExactTotalOf", unfollowed := true, recurses := true, plainKeys := false, apart := false, narrowed := true }
def FnExactTotalOfUptoSaid : Prop := fnExactTotalOfUptoRow.holds Try.pinned (OpenSpec.upto fnExactTotalOfSpec)

/-- 'laws.FnExactFilteredTotal', WHERE WHAT IT READS IS OF BULK AT MOST 1048576: true; the input reads as it did. -/
def fnExactFilteredTotalUptoRow : OpenClaim := { program := "ytlopenephgabhaa", sum := "e2929786221bee2714a13ecc3c78b39f5958ff3599e276d0165b0043c5be1db4", func := "loop.example/g01273/laws.FnExactFilteredTotal", spec := "fnExactFilteredTotal", unfollowed := true, recurses := true, plainKeys := false, apart := false, narrowed := true }
def FnExactFilteredTotalUptoSaid : Prop := fnExactFilteredTotalUptoRow.holds Try.pinned (OpenSpec.upto fnExactFilteredTotalSpec)

/-- 'laws.FnExactProductDouble', WHERE WHAT IT READS IS OF BULK AT MOST 1048576: true; the input reads as it did. -/
def fnExactProductDoubleUptoRow : OpenClaim := { program := "ytlopenephgabhaa", sum := "e2929786221bee2714a13ecc3c78b39f5958ff3599e276d0165b0043c5be1db4", func := "loop.example/g01273/laws.FnExactProductDouble", spec := "fnExactProductDouble", plainKeys := false, apart := false, narrowed := true }
def FnExactProductDoubleUptoSaid : Prop := fnExactProductDoubleUptoRow.holds Try.pinned (OpenSpec.upto fnExactProductDoubleSpec)

end Rows
end Go.Proofs.Ytlopenephgabhaa
