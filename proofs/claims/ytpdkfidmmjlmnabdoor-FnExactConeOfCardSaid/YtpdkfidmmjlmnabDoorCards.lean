/-
  DERIVED. GIVEN WITH THE SEED: THE CARDS: each row of YtpdkfidmmjlmnabDoorRows.lean that lists a variable, with what it lists TIED to the program's text (the seventh form; the later family's looks); each row that meets fmt, with fmt's text TOLD by the authors' own Lean function (tested against real Go, not proved from fmt's source: count such statements apart). THE CARD IS WHAT COUNTS. Prove the row's statement (the work); the ties are given (YtpdkfidmmjlmnabDoorTie.lean); close each card by the builder's one call (the guide's Derived/Test/ToyasCard.lean, 'card_holds'). Laid BY PROGRAM, IN A SANDBOX (cutbox-door.mjs). By AI agents, Wed Nov 11 2026. No macro, syntax, notation, axiom, sorry.
-/
import Derived.Test.YtpdkfidmmjlmnabDoorRows
import GoSem.ClaimSeven
namespace Go.Proofs.YtpdkfidmmjlmnabDoor
namespace Rows

/-- THE TIED CARD OF 'laws.FnExactConeOf'. -/
def fnExactConeOfCard : Claim7 := { stood := { row := fnExactConeOfRow, standIns := [], harness := (true, "848d1b973212dfe3a10ae4532c163dcd7536662de18eba4bdf6f946e4a9e6191"), looks := true }, kinds := [], alts := [], laidByText := true, laidKinds := [.sentinel], laidTests := true, laidLooks := .later }
def FnExactConeOfCardSaid : Prop := Claim7.holds Tryd.pinned (.plain (OpenSpec.ofChange fnExactConeOfSpec)) fnExactConeOfCard

/-- THE SECOND FORM's CARD OF 'laws.FnExactConeOf'. -/
def fnExactConeOfUptoCard : Claim7 := { stood := { row := fnExactConeOfUptoRow, standIns := [], harness := (true, "848d1b973212dfe3a10ae4532c163dcd7536662de18eba4bdf6f946e4a9e6191"), looks := true }, kinds := [], alts := [], laidByText := true, laidKinds := [.sentinel], laidTests := true, laidLooks := .later }
def FnExactConeOfUptoCardSaid : Prop := Claim7.holds Tryd.pinned (.plain (OpenSpec.upto fnExactConeOfSpec)) fnExactConeOfUptoCard
end Rows
end Go.Proofs.YtpdkfidmmjlmnabDoor
