/-
  DERIVED. GIVEN WITH THE SEED: THE CARDS: each row of YtaojiojldljhlaaDoorRows.lean that lists a variable, with what it lists TIED to the program's text (the seventh form; the later family's looks); each row that meets fmt, with fmt's text TOLD by the authors' own Lean function (tested against real Go, not proved from fmt's source: count such statements apart). THE CARD IS WHAT COUNTS. Prove the row's statement (the work); the ties are given (YtaojiojldljhlaaDoorTie.lean); close each card by the builder's one call (the guide's Derived/Test/ToyasCard.lean, 'card_holds'). Laid BY PROGRAM, IN A SANDBOX (cutbox-door.mjs). By AI agents, Wed Nov 11 2026. No macro, syntax, notation, axiom, sorry.
-/
import Derived.Test.YtaojiojldljhlaaDoorRows
import GoSem.ClaimSeven
namespace Go.Proofs.YtaojiojldljhlaaDoor
namespace Rows

/-- THE TIED CARD OF 'laws.FnExactIsExact'. -/
def fnExactIsExactCard : Claim7 := { stood := { row := fnExactIsExactRow, standIns := [], harness := (true, "c473697d500303ac17e4856a0c28fa4cd4cca716b56ee99dad297df8323582ac"), looks := true }, kinds := [], alts := [], laidByText := true, laidKinds := [.sentinel], laidTests := true, laidLooks := .later }
def FnExactIsExactCardSaid : Prop := Claim7.holds Tryd.pinned (.plain (OpenSpec.ofChange fnExactIsExactSpec)) fnExactIsExactCard

/-- THE TIED CARD OF 'laws.FnExactDerivedCouple'. -/
def fnExactDerivedCoupleCard : Claim7 := { stood := { row := fnExactDerivedCoupleRow, standIns := [], harness := (true, "c473697d500303ac17e4856a0c28fa4cd4cca716b56ee99dad297df8323582ac"), looks := true }, kinds := [], alts := [], laidByText := true, laidKinds := [.sentinel], laidTests := true, laidLooks := .later }
def FnExactDerivedCoupleCardSaid : Prop := Claim7.holds Tryd.pinned (.plain (OpenSpec.ofChange fnExactDerivedCoupleSpec)) fnExactDerivedCoupleCard

/-- THE TIED CARD OF 'laws.FnExactPageSizes'. -/
def fnExactPageSizesCard : Claim7 := { stood := { row := fnExactPageSizesRow, standIns := [], harness := (true, "c473697d500303ac17e4856a0c28fa4cd4cca716b56ee99dad297df8323582ac"), looks := true }, kinds := [], alts := [], laidByText := true, laidKinds := [.sentinel], laidTests := true, laidLooks := .later }
def FnExactPageSizesCardSaid : Prop := Claim7.holds Tryd.pinned (.plain (OpenSpec.ofChange fnExactPageSizesSpec)) fnExactPageSizesCard

/-- THE TIED CARD OF 'laws.FnExactStablePage'. -/
def fnExactStablePageCard : Claim7 := { stood := { row := fnExactStablePageRow, standIns := [], harness := (true, "c473697d500303ac17e4856a0c28fa4cd4cca716b56ee99dad297df8323582ac"), looks := true }, kinds := [], alts := [], laidByText := true, laidKinds := [.sentinel], laidTests := true, laidLooks := .later }
def FnExactStablePageCardSaid : Prop := Claim7.holds Tryd.pinned (.plain (OpenSpec.ofChange fnExactStablePageSpec)) fnExactStablePageCard

/-- THE SECOND FORM's CARD OF 'laws.FnExactIsExact'. -/
def fnExactIsExactUptoCard : Claim7 := { stood := { row := fnExactIsExactUptoRow, standIns := [], harness := (true, "c473697d500303ac17e4856a0c28fa4cd4cca716b56ee99dad297df8323582ac"), looks := true }, kinds := [], alts := [], laidByText := true, laidKinds := [.sentinel], laidTests := true, laidLooks := .later }
def FnExactIsExactUptoCardSaid : Prop := Claim7.holds Tryd.pinned (.plain (OpenSpec.upto fnExactIsExactSpec)) fnExactIsExactUptoCard

/-- THE SECOND FORM's CARD OF 'laws.FnExactDerivedCouple'. -/
def fnExactDerivedCoupleUptoCard : Claim7 := { stood := { row := fnExactDerivedCoupleUptoRow, standIns := [], harness := (true, "c473697d500303ac17e4856a0c28fa4cd4cca716b56ee99dad297df8323582ac"), looks := true }, kinds := [], alts := [], laidByText := true, laidKinds := [.sentinel], laidTests := true, laidLooks := .later }
def FnExactDerivedCoupleUptoCardSaid : Prop := Claim7.holds Tryd.pinned (.plain (OpenSpec.upto fnExactDerivedCoupleSpec)) fnExactDerivedCoupleUptoCard

/-- THE SECOND FORM's CARD OF 'laws.FnExactPageSizes'. -/
def fnExactPageSizesUptoCard : Claim7 := { stood := { row := fnExactPageSizesUptoRow, standIns := [], harness := (true, "c473697d500303ac17e4856a0c28fa4cd4cca716b56ee99dad297df8323582ac"), looks := true }, kinds := [], alts := [], laidByText := true, laidKinds := [.sentinel], laidTests := true, laidLooks := .later }
def FnExactPageSizesUptoCardSaid : Prop := Claim7.holds Tryd.pinned (.plain (OpenSpec.upto fnExactPageSizesSpec)) fnExactPageSizesUptoCard

/-- THE SECOND FORM's CARD OF 'laws.FnExactStablePage'. -/
def fnExactStablePageUptoCard : Claim7 := { stood := { row := fnExactStablePageUptoRow, standIns := [], harness := (true, "c473697d500303ac17e4856a0c28fa4cd4cca716b56ee99dad297df8323582ac"), looks := true }, kinds := [], alts := [], laidByText := true, laidKinds := [.sentinel], laidTests := true, laidLooks := .later }
def FnExactStablePageUptoCardSaid : Prop := Claim7.holds Tryd.pinned (.plain (OpenSpec.upto fnExactStablePageSpec)) fnExactStablePageUptoCard
end Rows
end Go.Proofs.YtaojiojldljhlaaDoor
