/-
  DERIVED. GIVEN WITH THE SEED: THE CARDS: each row of YtckkbojankfdfaaDoorRows.lean that lists a variable, with what it lists TIED to the program's text (the seventh form; the later family's looks); each row that meets fmt, with fmt's text TOLD by the authors' own Lean function (tested against real Go, not proved from fmt's source: count such statements apart). THE CARD IS WHAT COUNTS. Prove the row's statement (the work); the ties are given (YtckkbojankfdfaaDoorTie.lean); close each card by the builder's one call (the guide's Derived/Test/ToyasCard.lean, 'card_holds'). Laid BY PROGRAM, IN A SANDBOX (cutbox-door.mjs). By AI agents, Wed Nov 11 2026. No macro, syntax, notation, axiom, sorry.
-/
import Derived.Test.YtckkbojankfdfaaDoorRows
import GoSem.ClaimSeven
namespace Go.Proofs.YtckkbojankfdfaaDoor
namespace Rows

/-- THE TIED CARD OF 'laws.FnExactDerivedCouple'. -/
def fnExactDerivedCoupleCard : Claim7 := { stood := { row := fnExactDerivedCoupleRow, standIns := [], harness := (true, "edb466c490e9dc5a2332eba0f01a5c1bcc2a9624675c5cf2d8d0283ed5b98078"), looks := true }, kinds := [], alts := [], laidByText := true, laidKinds := [.sentinel], laidTests := true, laidLooks := .later }
def FnExactDerivedCoupleCardSaid : Prop := Claim7.holds Tryd.pinned (.plain (OpenSpec.ofChange fnExactDerivedCoupleSpec)) fnExactDerivedCoupleCard

/-- THE TIED CARD OF 'laws.FnExactPageSizes'. -/
def fnExactPageSizesCard : Claim7 := { stood := { row := fnExactPageSizesRow, standIns := [], harness := (true, "edb466c490e9dc5a2332eba0f01a5c1bcc2a9624675c5cf2d8d0283ed5b98078"), looks := true }, kinds := [], alts := [], laidByText := true, laidKinds := [.sentinel], laidTests := true, laidLooks := .later }
def FnExactPageSizesCardSaid : Prop := Claim7.holds Tryd.pinned (.plain (OpenSpec.ofChange fnExactPageSizesSpec)) fnExactPageSizesCard

/-- THE TIED CARD OF 'laws.FnExactStablePage'. -/
def fnExactStablePageCard : Claim7 := { stood := { row := fnExactStablePageRow, standIns := [], harness := (true, "edb466c490e9dc5a2332eba0f01a5c1bcc2a9624675c5cf2d8d0283ed5b98078"), looks := true }, kinds := [], alts := [], laidByText := true, laidKinds := [.sentinel], laidTests := true, laidLooks := .later }
def FnExactStablePageCardSaid : Prop := Claim7.holds Tryd.pinned (.plain (OpenSpec.ofChange fnExactStablePageSpec)) fnExactStablePageCard

/-- THE SECOND FORM's CARD OF 'laws.FnExactDerivedCouple'. -/
def fnExactDerivedCoupleUptoCard : Claim7 := { stood := { row := fnExactDerivedCoupleUptoRow, standIns := [], harness := (true, "edb466c490e9dc5a2332eba0f01a5c1bcc2a9624675c5cf2d8d0283ed5b98078"), looks := true }, kinds := [], alts := [], laidByText := true, laidKinds := [.sentinel], laidTests := true, laidLooks := .later }
def FnExactDerivedCoupleUptoCardSaid : Prop := Claim7.holds Tryd.pinned (.plain (OpenSpec.upto fnExactDerivedCoupleSpec)) fnExactDerivedCoupleUptoCard

/-- THE SECOND FORM's CARD OF 'laws.FnExactPageSizes'. -/
def fnExactPageSizesUptoCard : Claim7 := { stood := { row := fnExactPageSizesUptoRow, standIns := [], harness := (true, "edb466c490e9dc5a2332eba0f01a5c1bcc2a9624675c5cf2d8d0283ed5b98078"), looks := true }, kinds := [], alts := [], laidByText := true, laidKinds := [.sentinel], laidTests := true, laidLooks := .later }
def FnExactPageSizesUptoCardSaid : Prop := Claim7.holds Tryd.pinned (.plain (OpenSpec.upto fnExactPageSizesSpec)) fnExactPageSizesUptoCard

/-- THE SECOND FORM's CARD OF 'laws.FnExactStablePage'. -/
def fnExactStablePageUptoCard : Claim7 := { stood := { row := fnExactStablePageUptoRow, standIns := [], harness := (true, "edb466c490e9dc5a2332eba0f01a5c1bcc2a9624675c5cf2d8d0283ed5b98078"), looks := true }, kinds := [], alts := [], laidByText := true, laidKinds := [.sentinel], laidTests := true, laidLooks := .later }
def FnExactStablePageUptoCardSaid : Prop := Claim7.holds Tryd.pinned (.plain (OpenSpec.upto fnExactStablePageSpec)) fnExactStablePageUptoCard
end Rows
end Go.Proofs.YtckkbojankfdfaaDoor
