/-
  DERIVED. GIVEN WITH THE SEED: THE CARDS: each row of YtpchbceohnabnabDoorRows.lean that lists a variable, with what it lists TIED to the program's text (the seventh form; the later family's looks); each row that meets fmt, with fmt's text TOLD by the authors' own Lean function (tested against real Go, not proved from fmt's source: count such statements apart). THE CARD IS WHAT COUNTS. Prove the row's statement (the work); the ties are given (YtpchbceohnabnabDoorTie.lean); close each card by the builder's one call (the guide's Derived/Test/ToyasCard.lean, 'card_holds'). Laid BY PROGRAM, IN A SANDBOX (cutbox-door.mjs). By AI agents, Wed Nov 11 2026. No macro, syntax, notation, axiom, sorry.
-/
import Derived.Test.YtpchbceohnabnabDoorRows
import GoSem.ClaimSeven
namespace Go.Proofs.YtpchbceohnabnabDoor
namespace Rows

/-- THE TIED CARD OF 'laws.FnExactIsChainMap'. -/
def fnExactIsChainMapCard : Claim7 := { stood := { row := fnExactIsChainMapRow, standIns := [], harness := (true, "c7e50e6d7a596a940f9a1d9e7d4a3e31244102a517606c7104005d4daa50ca82"), looks := true }, kinds := [], alts := [], laidByText := true, laidKinds := [.sentinel], laidTests := true, laidLooks := .later }
def FnExactIsChainMapCardSaid : Prop := Claim7.holds Tryd.pinned (.plain (OpenSpec.ofChange fnExactIsChainMapSpec)) fnExactIsChainMapCard

/-- THE TIED CARD OF 'laws.FnExactConeOf'. -/
def fnExactConeOfCard : Claim7 := { stood := { row := fnExactConeOfRow, standIns := [], harness := (true, "c7e50e6d7a596a940f9a1d9e7d4a3e31244102a517606c7104005d4daa50ca82"), looks := true }, kinds := [], alts := [], laidByText := true, laidKinds := [.sentinel], laidTests := true, laidLooks := .later }
def FnExactConeOfCardSaid : Prop := Claim7.holds Tryd.pinned (.plain (OpenSpec.ofChange fnExactConeOfSpec)) fnExactConeOfCard

/-- THE TIED CARD OF 'laws.FnExactInducedRank'. -/
def fnExactInducedRankCard : Claim7 := { stood := { row := fnExactInducedRankRow, standIns := [], harness := (true, "c7e50e6d7a596a940f9a1d9e7d4a3e31244102a517606c7104005d4daa50ca82"), looks := true }, kinds := [], alts := [], laidByText := true, laidKinds := [.sentinel], laidTests := true, laidLooks := .later }
def FnExactInducedRankCardSaid : Prop := Claim7.holds Tryd.pinned (.plain (OpenSpec.ofChange fnExactInducedRankSpec)) fnExactInducedRankCard

/-- THE TIED CARD OF 'laws.FnExactIsQuasi'. -/
def fnExactIsQuasiCard : Claim7 := { stood := { row := fnExactIsQuasiRow, standIns := [], harness := (true, "c7e50e6d7a596a940f9a1d9e7d4a3e31244102a517606c7104005d4daa50ca82"), looks := true }, kinds := [], alts := [], laidByText := true, laidKinds := [.sentinel], laidTests := true, laidLooks := .later }
def FnExactIsQuasiCardSaid : Prop := Claim7.holds Tryd.pinned (.plain (OpenSpec.ofChange fnExactIsQuasiSpec)) fnExactIsQuasiCard

/-- THE TIED CARD OF 'laws.FnExactIsHomotopy'. -/
def fnExactIsHomotopyCard : Claim7 := { stood := { row := fnExactIsHomotopyRow, standIns := [], harness := (true, "c7e50e6d7a596a940f9a1d9e7d4a3e31244102a517606c7104005d4daa50ca82"), looks := true }, kinds := [], alts := [], laidByText := true, laidKinds := [.sentinel], laidTests := true, laidLooks := .later }
def FnExactIsHomotopyCardSaid : Prop := Claim7.holds Tryd.pinned (.plain (OpenSpec.ofChange fnExactIsHomotopySpec)) fnExactIsHomotopyCard

/-- THE TIED CARD OF 'laws.FnExactAreHomotopic'. -/
def fnExactAreHomotopicCard : Claim7 := { stood := { row := fnExactAreHomotopicRow, standIns := [], harness := (true, "c7e50e6d7a596a940f9a1d9e7d4a3e31244102a517606c7104005d4daa50ca82"), looks := true }, kinds := [], alts := [], laidByText := true, laidKinds := [.sentinel], laidTests := true, laidLooks := .later }
def FnExactAreHomotopicCardSaid : Prop := Claim7.holds Tryd.pinned (.plain (OpenSpec.ofChange fnExactAreHomotopicSpec)) fnExactAreHomotopicCard

/-- THE SECOND FORM's CARD OF 'laws.FnExactIsChainMap'. -/
def fnExactIsChainMapUptoCard : Claim7 := { stood := { row := fnExactIsChainMapUptoRow, standIns := [], harness := (true, "c7e50e6d7a596a940f9a1d9e7d4a3e31244102a517606c7104005d4daa50ca82"), looks := true }, kinds := [], alts := [], laidByText := true, laidKinds := [.sentinel], laidTests := true, laidLooks := .later }
def FnExactIsChainMapUptoCardSaid : Prop := Claim7.holds Tryd.pinned (.plain (OpenSpec.upto fnExactIsChainMapSpec)) fnExactIsChainMapUptoCard

/-- THE SECOND FORM's CARD OF 'laws.FnExactConeOf'. -/
def fnExactConeOfUptoCard : Claim7 := { stood := { row := fnExactConeOfUptoRow, standIns := [], harness := (true, "c7e50e6d7a596a940f9a1d9e7d4a3e31244102a517606c7104005d4daa50ca82"), looks := true }, kinds := [], alts := [], laidByText := true, laidKinds := [.sentinel], laidTests := true, laidLooks := .later }
def FnExactConeOfUptoCardSaid : Prop := Claim7.holds Tryd.pinned (.plain (OpenSpec.upto fnExactConeOfSpec)) fnExactConeOfUptoCard

/-- THE SECOND FORM's CARD OF 'laws.FnExactInducedRank'. -/
def fnExactInducedRankUptoCard : Claim7 := { stood := { row := fnExactInducedRankUptoRow, standIns := [], harness := (true, "c7e50e6d7a596a940f9a1d9e7d4a3e31244102a517606c7104005d4daa50ca82"), looks := true }, kinds := [], alts := [], laidByText := true, laidKinds := [.sentinel], laidTests := true, laidLooks := .later }
def FnExactInducedRankUptoCardSaid : Prop := Claim7.holds Tryd.pinned (.plain (OpenSpec.upto fnExactInducedRankSpec)) fnExactInducedRankUptoCard

/-- THE SECOND FORM's CARD OF 'laws.FnExactIsQuasi'. -/
def fnExactIsQuasiUptoCard : Claim7 := { stood := { row := fnExactIsQuasiUptoRow, standIns := [], harness := (true, "c7e50e6d7a596a940f9a1d9e7d4a3e31244102a517606c7104005d4daa50ca82"), looks := true }, kinds := [], alts := [], laidByText := true, laidKinds := [.sentinel], laidTests := true, laidLooks := .later }
def FnExactIsQuasiUptoCardSaid : Prop := Claim7.holds Tryd.pinned (.plain (OpenSpec.upto fnExactIsQuasiSpec)) fnExactIsQuasiUptoCard

/-- THE SECOND FORM's CARD OF 'laws.FnExactIsHomotopy'. -/
def fnExactIsHomotopyUptoCard : Claim7 := { stood := { row := fnExactIsHomotopyUptoRow, standIns := [], harness := (true, "c7e50e6d7a596a940f9a1d9e7d4a3e31244102a517606c7104005d4daa50ca82"), looks := true }, kinds := [], alts := [], laidByText := true, laidKinds := [.sentinel], laidTests := true, laidLooks := .later }
def FnExactIsHomotopyUptoCardSaid : Prop := Claim7.holds Tryd.pinned (.plain (OpenSpec.upto fnExactIsHomotopySpec)) fnExactIsHomotopyUptoCard

/-- THE SECOND FORM's CARD OF 'laws.FnExactAreHomotopic'. -/
def fnExactAreHomotopicUptoCard : Claim7 := { stood := { row := fnExactAreHomotopicUptoRow, standIns := [], harness := (true, "c7e50e6d7a596a940f9a1d9e7d4a3e31244102a517606c7104005d4daa50ca82"), looks := true }, kinds := [], alts := [], laidByText := true, laidKinds := [.sentinel], laidTests := true, laidLooks := .later }
def FnExactAreHomotopicUptoCardSaid : Prop := Claim7.holds Tryd.pinned (.plain (OpenSpec.upto fnExactAreHomotopicSpec)) fnExactAreHomotopicUptoCard
end Rows
end Go.Proofs.YtpchbceohnabnabDoor
