/-
  NARROWER THAN 'FOR EVERY INPUT', by the rows' own cells (each row's printed sentence says how): FnExactDerivedCouple: ifaces, laid · FnExactPageSizes: ifaces, laid · FnExactStablePage: ifaces, laid.
  DERIVED. THE GIVEN ROWS OF THIS SEAT. 3 by the template 'for every input the law returns true; each argument reads behind the call as it read before'; 0 by the template 'total and deterministic' (their statements: YtckkbojankfdfaaDoorTotals.lean).
  GIVEN WITH THE SEED: the statements are not yours to turn. If you find one false, say at which input.
  Laid BY PROGRAM, IN A SANDBOX (cutbox-rows.mjs): the forced cells as the released guide's own fill.sh prints them over the translation 3d7a2967c83ccd3c… (all of the seat's roots in one cut). By AI agents, Wed Nov 11 2026. No macro, syntax, notation, axiom, sorry.
-/
import Derived.Test.YtckkbojankfdfaaDoorChecked
import GoSem.Claim
import GoSem.ClaimJoined
import GoSem.ClaimMapViews
import Derived.JoinedTies
import Derived.KernelRfl
namespace Go.Proofs.YtckkbojankfdfaaDoor
/- THE CELL 'sum', in the pinned program and in every row, IS THE sha256 OF THE DUMP (.gsa) THAT YtckkbojankfdfaaDoorProg.lean LOADS. Nothing in Lean hashes anything: it is a label: what it is worth is what the hold of that sum in a sandbox is worth. -/
noncomputable def Tryd.pinned : Pinned := { name := "ytckkbojankfdfaadoor", sum := "3d7a2967c83ccd3c42a9f599c42473679c3ae936ef62b744ce671b56b15e55e2", checked := Tryd.checked }
namespace Rows
def none {H : Type} : Left H := { results := [], args := [] }

/- WHAT THE LISTED PACKAGE-LEVEL VARIABLES READ AS WHEN THE CALL BEGINS. Each datum BY PROGRAM (the guide's laid-datum.mjs) off the statement by which the dump's own 'gosem.cut.vars' lays the variable. In a bare row this is a premise. The card (YtckkbojankfdfaaDoorCards.lean) ties it to the program's text. -/
def laid_loop_example_g01273_impl_errNotExact {H : Type} : DataW H := .iface "*errors.errorString" (.ptr (.agg [.lit (.string [97, 32, 99, 111, 117, 112, 108, 101, 32, 105, 115, 32, 110, 111, 116, 32, 101, 120, 97, 99, 116])]))

/-- 'laws.FnExactDerivedCouple': WHATEVER THE INPUT: true; the input reads as it did. -/
def fnExactDerivedCoupleSpec : ChangeSpec := { name := "fnExactDerivedCouple", vars := ["loop.example/g01273/impl.errNotExact"], fn := fun _ => fun
  | [d, g1] => { results := [.lit (.bool true)], args := [d], vars := [g1] }
  | _ => none }
def fnExactDerivedCoupleRow : OpenClaim := { program := "ytckkbojankfdfaadoor", sum := "3d7a2967c83ccd3c42a9f599c42473679c3ae936ef62b744ce671b56b15e55e2", func := "loop.example/g01273/laws.FnExactDerivedCouple", spec := "fnExactDerivedCouple", inPlace := ["slices.overlaps[loop.example/g01273/impl.vector]"], unfollowed := true, recurses := true, named := ["loop.example/g01273/impl.errNotExact"], ifaces := true, plainKeys := false, apart := false, laid := [("loop.example/g01273/impl.errNotExact", laid_loop_example_g01273_impl_errNotExact)] }
def FnExactDerivedCoupleSaid : Prop := fnExactDerivedCoupleRow.holds Tryd.pinned (OpenSpec.ofChange fnExactDerivedCoupleSpec)

/-- ITS FALSE NEIGHBOUR: 'it returns false'. Refute it at one input. -/
def fnExactDerivedCoupleWrong : ChangeSpec := { name := "fnExactDerivedCouple", vars := ["loop.example/g01273/impl.errNotExact"], fn := fun _ => fun
  | [d, g1] => { results := [.lit (.bool false)], args := [d], vars := [g1] }
  | _ => none }
def FnExactDerivedCoupleWrongFalsely : Prop := fnExactDerivedCoupleRow.holds Tryd.pinned (OpenSpec.ofChange fnExactDerivedCoupleWrong)

/-- 'laws.FnExactPageSizes': WHATEVER THE INPUT: true; the input reads as it did. -/
def fnExactPageSizesSpec : ChangeSpec := { name := "fnExactPageSizes", vars := ["loop.example/g01273/impl.errNotExact"], fn := fun _ => fun
  | [d1, d2, g1] => { results := [.lit (.bool true)], args := [d1, d2], vars := [g1] }
  | _ => none }
def fnExactPageSizesRow : OpenClaim := { program := "ytckkbojankfdfaadoor", sum := "3d7a2967c83ccd3c42a9f599c42473679c3ae936ef62b744ce671b56b15e55e2", func := "loop.example/g01273/laws.FnExactPageSizes", spec := "fnExactPageSizes", inPlace := ["slices.overlaps[loop.example/g01273/impl.vector]"], unfollowed := true, recurses := true, named := ["loop.example/g01273/impl.errNotExact"], ifaces := true, plainKeys := false, apart := false, laid := [("loop.example/g01273/impl.errNotExact", laid_loop_example_g01273_impl_errNotExact)] }
def FnExactPageSizesSaid : Prop := fnExactPageSizesRow.holds Tryd.pinned (OpenSpec.ofChange fnExactPageSizesSpec)

/-- ITS FALSE NEIGHBOUR: 'it returns false'. Refute it at one input. -/
def fnExactPageSizesWrong : ChangeSpec := { name := "fnExactPageSizes", vars := ["loop.example/g01273/impl.errNotExact"], fn := fun _ => fun
  | [d1, d2, g1] => { results := [.lit (.bool false)], args := [d1, d2], vars := [g1] }
  | _ => none }
def FnExactPageSizesWrongFalsely : Prop := fnExactPageSizesRow.holds Tryd.pinned (OpenSpec.ofChange fnExactPageSizesWrong)

/-- 'laws.FnExactStablePage': WHATEVER THE INPUT: true; the input reads as it did. -/
def fnExactStablePageSpec : ChangeSpec := { name := "fnExactStablePage", vars := ["loop.example/g01273/impl.errNotExact"], fn := fun _ => fun
  | [d, g1] => { results := [.lit (.bool true)], args := [d], vars := [g1] }
  | _ => none }
def fnExactStablePageRow : OpenClaim := { program := "ytckkbojankfdfaadoor", sum := "3d7a2967c83ccd3c42a9f599c42473679c3ae936ef62b744ce671b56b15e55e2", func := "loop.example/g01273/laws.FnExactStablePage", spec := "fnExactStablePage", inPlace := ["slices.overlaps[loop.example/g01273/impl.vector]"], unfollowed := true, recurses := true, named := ["loop.example/g01273/impl.errNotExact"], ifaces := true, plainKeys := false, apart := false, laid := [("loop.example/g01273/impl.errNotExact", laid_loop_example_g01273_impl_errNotExact)] }
def FnExactStablePageSaid : Prop := fnExactStablePageRow.holds Tryd.pinned (OpenSpec.ofChange fnExactStablePageSpec)

/-- ITS FALSE NEIGHBOUR: 'it returns false'. Refute it at one input. -/
def fnExactStablePageWrong : ChangeSpec := { name := "fnExactStablePage", vars := ["loop.example/g01273/impl.errNotExact"], fn := fun _ => fun
  | [d, g1] => { results := [.lit (.bool false)], args := [d], vars := [g1] }
  | _ => none }
def FnExactStablePageWrongFalsely : Prop := fnExactStablePageRow.holds Tryd.pinned (OpenSpec.ofChange fnExactStablePageWrong)

/- THE SECOND FORM. 'bulk': how many values and letters a reading holds, each counted each time it is reached (what is shared counts as often as it is met; a slice's spare places count too). A statement '..UptoSaid' is the law's where the arguments, and the package variables that the reading takes, are together of bulk at most 1048576: NARROWER than '..Said'. Prove '..Said' where nothing that the law and all that it calls make is longer than what came in: it says more and counts as full. Else prove '..UptoSaid'. A law counts once. -/
mutual
def uptoBulk {H : Type} : DataW H → Nat
  | .lit (.string bytes) => bytes.length + 1
  | .lit _ => 1
  | .nil => 1
  | .ptr d => uptoBulk d + 1
  | .slice elems spare => uptoBulkAll elems + uptoBulkAll spare + 1
  | .agg parts => uptoBulkAll parts + 1
  | .iface _ d => uptoBulk d + 1
  | .map entries => uptoBulkEntries entries + 1
  | .held _ => 1
def uptoBulkAll {H : Type} : List (DataW H) → Nat
  | [] => 0
  | d :: r => uptoBulk d + uptoBulkAll r
def uptoBulkEntries {H : Type} : List (Lit × DataW H) → Nat
  | [] => 0
  | x :: r => uptoBulkEntry x + uptoBulkEntries r
def uptoBulkEntry {H : Type} : Lit × DataW H → Nat
  | (.string bytes, d) => bytes.length + uptoBulk d + 1
  | (_, d) => uptoBulk d + 1
 end
def uptoSmall : (H : Type) → List (DataW H) → Bool := fun _ ds => decide (uptoBulkAll ds ≤ 1048576)
def OpenSpec.upto (s : _root_.Go.ChangeSpec) : _root_.Go.OpenSpec := { _root_.Go.OpenSpec.ofChange s with cond := some uptoSmall }

/-- 'laws.FnExactDerivedCouple', WHERE WHAT IT READS IS OF BULK AT MOST 1048576: true; the input reads as it did. -/
def fnExactDerivedCoupleUptoRow : OpenClaim := { program := "ytckkbojankfdfaadoor", sum := "3d7a2967c83ccd3c42a9f599c42473679c3ae936ef62b744ce671b56b15e55e2", func := "loop.example/g01273/laws.FnExactDerivedCouple", spec := "fnExactDerivedCouple", inPlace := ["slices.overlaps[loop.example/g01273/impl.vector]"], unfollowed := true, recurses := true, named := ["loop.example/g01273/impl.errNotExact"], ifaces := true, plainKeys := false, apart := false, laid := [("loop.example/g01273/impl.errNotExact", laid_loop_example_g01273_impl_errNotExact)], narrowed := true }
def FnExactDerivedCoupleUptoSaid : Prop := fnExactDerivedCoupleUptoRow.holds Tryd.pinned (OpenSpec.upto fnExactDerivedCoupleSpec)

/-- 'laws.FnExactPageSizes', WHERE WHAT IT READS IS OF BULK AT MOST 1048576: true; the input reads as it did. -/
def fnExactPageSizesUptoRow : OpenClaim := { program := "ytckkbojankfdfaadoor", sum := "3d7a2967c83ccd3c42a9f599c42473679c3ae936ef62b744ce671b56b15e55e2", func := "loop.example/g01273/laws.FnExactPageSizes", spec := "fnExactPageSizes", inPlace := ["slices.overlaps[loop.example/g01273/impl.vector]"], unfollowed := true, recurses := true, named := ["loop.example/g01273/impl.errNotExact"], ifaces := true, plainKeys := false, apart := false, laid := [("loop.example/g01273/impl.errNotExact", laid_loop_example_g01273_impl_errNotExact)], narrowed := true }
def FnExactPageSizesUptoSaid : Prop := fnExactPageSizesUptoRow.holds Tryd.pinned (OpenSpec.upto fnExactPageSizesSpec)

/-- 'laws.FnExactStablePage', WHERE WHAT IT READS IS OF BULK AT MOST 1048576: true; the input reads as it did. -/
def fnExactStablePageUptoRow : OpenClaim := { program := "ytckkbojankfdfaadoor", sum := "3d7a2967c83ccd3c42a9f599c42473679c3ae936ef62b744ce671b56b15e55e2", func := "loop.example/g01273/laws.FnExactStablePage", spec := "fnExactStablePage", inPlace := ["slices.overlaps[loop.example/g01273/impl.vector]"], unfollowed := true, recurses := true, named := ["loop.example/g01273/impl.errNotExact"], ifaces := true, plainKeys := false, apart := false, laid := [("loop.example/g01273/impl.errNotExact", laid_loop_example_g01273_impl_errNotExact)], narrowed := true }
def FnExactStablePageUptoSaid : Prop := fnExactStablePageUptoRow.holds Tryd.pinned (OpenSpec.upto fnExactStablePageSpec)

end Rows
end Go.Proofs.YtckkbojankfdfaaDoor
