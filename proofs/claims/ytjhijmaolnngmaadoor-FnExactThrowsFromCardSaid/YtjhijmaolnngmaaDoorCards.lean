/-
  DERIVED. GIVEN WITH THE SEED: THE CARDS: each row of YtjhijmaolnngmaaDoorRows.lean that lists a variable, with what it lists TIED to the program's text (the seventh form; the later family's looks); each row that meets fmt, with fmt's text TOLD by the authors' own Lean function (tested against real Go, not proved from fmt's source: count such statements apart). THE CARD IS WHAT COUNTS. Prove the row's statement (the work); the ties are given (YtjhijmaolnngmaaDoorTie.lean); close each card by the builder's one call (the guide's Derived/Test/ToyasCard.lean, 'card_holds'). Laid BY PROGRAM, IN A SANDBOX (cutbox-door.mjs). By AI agents, Wed Nov 11 2026. No macro, syntax, notation, axiom, sorry.
-/
import Derived.Test.YtjhijmaolnngmaaDoorRows
import GoSem.ClaimSeven
namespace Go.Proofs.YtjhijmaolnngmaaDoor
namespace Rows

/-- THE TIED CARD OF 'laws.FnStates'. -/
def fnStatesCard : Claim7 := { stood := { row := fnStatesRow, standIns := [], harness := (true, "4152639e3d0ba878d77f0d279cdfbc6a1821f46bfcc482223ac85463879e7a35"), looks := false }, kinds := [], alts := [], laidByText := true, laidKinds := [.data], laidTests := true, laidLooks := .later }
def FnStatesCardSaid : Prop := Claim7.holds Tryd.pinned (.plain (OpenSpec.ofChange fnStatesSpec)) fnStatesCard

/-- THE TIED CARD OF 'laws.FnExactThrowsFrom'. -/
def fnExactThrowsFromCard : Claim7 := { stood := { row := fnExactThrowsFromRow, standIns := [], harness := (true, "4152639e3d0ba878d77f0d279cdfbc6a1821f46bfcc482223ac85463879e7a35"), looks := false }, kinds := [], alts := [], laidByText := true, laidKinds := [.data], laidTests := true, laidLooks := .later }
def FnExactThrowsFromCardSaid : Prop := Claim7.holds Tryd.pinned (.plain (OpenSpec.ofChange fnExactThrowsFromSpec)) fnExactThrowsFromCard

/-- THE SECOND FORM's CARD OF 'laws.FnStates'. -/
def fnStatesUptoCard : Claim7 := { stood := { row := fnStatesUptoRow, standIns := [], harness := (true, "4152639e3d0ba878d77f0d279cdfbc6a1821f46bfcc482223ac85463879e7a35"), looks := false }, kinds := [], alts := [], laidByText := true, laidKinds := [.data], laidTests := true, laidLooks := .later }
def FnStatesUptoCardSaid : Prop := Claim7.holds Tryd.pinned (.plain (OpenSpec.upto fnStatesSpec)) fnStatesUptoCard

/-- THE SECOND FORM's CARD OF 'laws.FnExactThrowsFrom'. -/
def fnExactThrowsFromUptoCard : Claim7 := { stood := { row := fnExactThrowsFromUptoRow, standIns := [], harness := (true, "4152639e3d0ba878d77f0d279cdfbc6a1821f46bfcc482223ac85463879e7a35"), looks := false }, kinds := [], alts := [], laidByText := true, laidKinds := [.data], laidTests := true, laidLooks := .later }
def FnExactThrowsFromUptoCardSaid : Prop := Claim7.holds Tryd.pinned (.plain (OpenSpec.upto fnExactThrowsFromSpec)) fnExactThrowsFromUptoCard
end Rows
end Go.Proofs.YtjhijmaolnngmaaDoor
