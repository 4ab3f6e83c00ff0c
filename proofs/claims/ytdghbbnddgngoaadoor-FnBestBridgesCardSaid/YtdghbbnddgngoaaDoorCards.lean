/-
  DERIVED. GIVEN WITH THE SEED: THE CARDS: each row of YtdghbbnddgngoaaDoorRows.lean that lists a variable, with what it lists TIED to the program's text (the seventh form; the later family's looks); each row that meets fmt, with fmt's text TOLD by the authors' own Lean function (tested against real Go, not proved from fmt's source: count such statements apart). THE CARD IS WHAT COUNTS. Prove the row's statement (the work); the ties are given (YtdghbbnddgngoaaDoorTie.lean); close each card by the builder's one call (the guide's Derived/Test/ToyasCard.lean, 'card_holds'). Laid BY PROGRAM, IN A SANDBOX (cutbox-door.mjs). By AI agents, Wed Nov 11 2026. No macro, syntax, notation, axiom, sorry.
-/
import Derived.Test.YtdghbbnddgngoaaDoorRows
import GoSem.ClaimSeven
namespace Go.Proofs.YtdghbbnddgngoaaDoor
namespace Rows

/-- THE TIED CARD OF 'laws.FnBestBridges'. -/
def fnBestBridgesCard : Claim7 := { stood := { row := fnBestBridgesRow, standIns := [], harness := (true, "907d1be23b34664d97f574e31b1315e5159492db04187a16384bf913902ad5e5"), looks := true }, kinds := [], alts := [], laidByText := true, laidKinds := [.data], laidTests := true, laidLooks := .later }
def FnBestBridgesCardSaid : Prop := Claim7.holds Tryd.pinned (.plain (OpenSpec.ofChange fnBestBridgesSpec)) fnBestBridgesCard

/-- THE TIED CARD OF 'laws.FnExactCountPrimes'. -/
def fnExactCountPrimesCard : Claim7 := { stood := { row := fnExactCountPrimesRow, standIns := [], harness := (true, "907d1be23b34664d97f574e31b1315e5159492db04187a16384bf913902ad5e5"), looks := true }, kinds := [], alts := [], laidByText := true, laidKinds := [.data, .sentinel], laidTests := true, laidLooks := .later }
def FnExactCountPrimesCardSaid : Prop := Claim7.holds Tryd.pinned (.plain (OpenSpec.ofChange fnExactCountPrimesSpec)) fnExactCountPrimesCard

/-- THE TIED CARD OF 'laws.FnExactLongestPrime'. -/
def fnExactLongestPrimeCard : Claim7 := { stood := { row := fnExactLongestPrimeRow, standIns := [], harness := (true, "907d1be23b34664d97f574e31b1315e5159492db04187a16384bf913902ad5e5"), looks := true }, kinds := [], alts := [], laidByText := true, laidKinds := [.data, .sentinel], laidTests := true, laidLooks := .later }
def FnExactLongestPrimeCardSaid : Prop := Claim7.holds Tryd.pinned (.plain (OpenSpec.ofChange fnExactLongestPrimeSpec)) fnExactLongestPrimeCard

/-- THE SECOND FORM's CARD OF 'laws.FnBestBridges'. -/
def fnBestBridgesUptoCard : Claim7 := { stood := { row := fnBestBridgesUptoRow, standIns := [], harness := (true, "907d1be23b34664d97f574e31b1315e5159492db04187a16384bf913902ad5e5"), looks := true }, kinds := [], alts := [], laidByText := true, laidKinds := [.data], laidTests := true, laidLooks := .later }
def FnBestBridgesUptoCardSaid : Prop := Claim7.holds Tryd.pinned (.plain (OpenSpec.upto fnBestBridgesSpec)) fnBestBridgesUptoCard

/-- THE SECOND FORM's CARD OF 'laws.FnExactCountPrimes'. -/
def fnExactCountPrimesUptoCard : Claim7 := { stood := { row := fnExactCountPrimesUptoRow, standIns := [], harness := (true, "907d1be23b34664d97f574e31b1315e5159492db04187a16384bf913902ad5e5"), looks := true }, kinds := [], alts := [], laidByText := true, laidKinds := [.data, .sentinel], laidTests := true, laidLooks := .later }
def FnExactCountPrimesUptoCardSaid : Prop := Claim7.holds Tryd.pinned (.plain (OpenSpec.upto fnExactCountPrimesSpec)) fnExactCountPrimesUptoCard

/-- THE SECOND FORM's CARD OF 'laws.FnExactLongestPrime'. -/
def fnExactLongestPrimeUptoCard : Claim7 := { stood := { row := fnExactLongestPrimeUptoRow, standIns := [], harness := (true, "907d1be23b34664d97f574e31b1315e5159492db04187a16384bf913902ad5e5"), looks := true }, kinds := [], alts := [], laidByText := true, laidKinds := [.data, .sentinel], laidTests := true, laidLooks := .later }
def FnExactLongestPrimeUptoCardSaid : Prop := Claim7.holds Tryd.pinned (.plain (OpenSpec.upto fnExactLongestPrimeSpec)) fnExactLongestPrimeUptoCard
end Rows
end Go.Proofs.YtdghbbnddgngoaaDoor
