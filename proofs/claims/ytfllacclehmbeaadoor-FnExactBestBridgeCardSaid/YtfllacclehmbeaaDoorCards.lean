/-
  DERIVED. GIVEN WITH THE SEED: THE CARDS: each row of YtfllacclehmbeaaDoorRows.lean that lists a variable, with what it lists TIED to the program's text (the seventh form; the later family's looks); each row that meets fmt, with fmt's text TOLD by the authors' own Lean function (tested against real Go, not proved from fmt's source: count such statements apart). THE CARD IS WHAT COUNTS. Prove the row's statement (the work); the ties are given (YtfllacclehmbeaaDoorTie.lean); close each card by the builder's one call (the guide's Derived/Test/ToyasCard.lean, 'card_holds'). Laid BY PROGRAM, IN A SANDBOX (cutbox-door.mjs). By AI agents, Wed Nov 11 2026. No macro, syntax, notation, axiom, sorry.
-/
import Derived.Test.YtfllacclehmbeaaDoorRows
import GoSem.ClaimSeven
namespace Go.Proofs.YtfllacclehmbeaaDoor
namespace Rows

/-- THE TIED CARD OF 'laws.FnFar'. -/
def fnFarCard : Claim7 := { stood := { row := fnFarRow, standIns := [], harness := (true, "6885fdf4dbe9efdea113025530cff8d89139f641b51205a8be7338c93cd0ab7a"), looks := true }, kinds := [], alts := [], laidByText := true, laidKinds := [.data], laidTests := true, laidLooks := .later }
def FnFarCardSaid : Prop := Claim7.holds Tryd.pinned (.plain (OpenSpec.ofChange fnFarSpec)) fnFarCard

/-- THE TIED CARD OF 'laws.FnExactBestBridge'. -/
def fnExactBestBridgeCard : Claim7 := { stood := { row := fnExactBestBridgeRow, standIns := [], harness := (true, "6885fdf4dbe9efdea113025530cff8d89139f641b51205a8be7338c93cd0ab7a"), looks := true }, kinds := [], alts := [], laidByText := true, laidKinds := [.data], laidTests := true, laidLooks := .later }
def FnExactBestBridgeCardSaid : Prop := Claim7.holds Tryd.pinned (.plain (OpenSpec.ofChange fnExactBestBridgeSpec)) fnExactBestBridgeCard

/-- THE TIED CARD OF 'laws.FnBestBridges'. -/
def fnBestBridgesCard : Claim7 := { stood := { row := fnBestBridgesRow, standIns := [], harness := (true, "6885fdf4dbe9efdea113025530cff8d89139f641b51205a8be7338c93cd0ab7a"), looks := true }, kinds := [], alts := [], laidByText := true, laidKinds := [.data], laidTests := true, laidLooks := .later }
def FnBestBridgesCardSaid : Prop := Claim7.holds Tryd.pinned (.plain (OpenSpec.ofChange fnBestBridgesSpec)) fnBestBridgesCard

/-- THE TIED CARD OF 'laws.FnExactCountPrimes'. -/
def fnExactCountPrimesCard : Claim7 := { stood := { row := fnExactCountPrimesRow, standIns := [], harness := (true, "6885fdf4dbe9efdea113025530cff8d89139f641b51205a8be7338c93cd0ab7a"), looks := true }, kinds := [], alts := [], laidByText := true, laidKinds := [.data, .sentinel], laidTests := true, laidLooks := .later }
def FnExactCountPrimesCardSaid : Prop := Claim7.holds Tryd.pinned (.plain (OpenSpec.ofChange fnExactCountPrimesSpec)) fnExactCountPrimesCard

/-- THE TIED CARD OF 'laws.FnExactLongestPrime'. -/
def fnExactLongestPrimeCard : Claim7 := { stood := { row := fnExactLongestPrimeRow, standIns := [], harness := (true, "6885fdf4dbe9efdea113025530cff8d89139f641b51205a8be7338c93cd0ab7a"), looks := true }, kinds := [], alts := [], laidByText := true, laidKinds := [.data, .sentinel], laidTests := true, laidLooks := .later }
def FnExactLongestPrimeCardSaid : Prop := Claim7.holds Tryd.pinned (.plain (OpenSpec.ofChange fnExactLongestPrimeSpec)) fnExactLongestPrimeCard

/-- THE SECOND FORM's CARD OF 'laws.FnFar'. -/
def fnFarUptoCard : Claim7 := { stood := { row := fnFarUptoRow, standIns := [], harness := (true, "6885fdf4dbe9efdea113025530cff8d89139f641b51205a8be7338c93cd0ab7a"), looks := true }, kinds := [], alts := [], laidByText := true, laidKinds := [.data], laidTests := true, laidLooks := .later }
def FnFarUptoCardSaid : Prop := Claim7.holds Tryd.pinned (.plain (OpenSpec.upto fnFarSpec)) fnFarUptoCard

/-- THE SECOND FORM's CARD OF 'laws.FnExactBestBridge'. -/
def fnExactBestBridgeUptoCard : Claim7 := { stood := { row := fnExactBestBridgeUptoRow, standIns := [], harness := (true, "6885fdf4dbe9efdea113025530cff8d89139f641b51205a8be7338c93cd0ab7a"), looks := true }, kinds := [], alts := [], laidByText := true, laidKinds := [.data], laidTests := true, laidLooks := .later }
def FnExactBestBridgeUptoCardSaid : Prop := Claim7.holds Tryd.pinned (.plain (OpenSpec.upto fnExactBestBridgeSpec)) fnExactBestBridgeUptoCard

/-- THE SECOND FORM's CARD OF 'laws.FnBestBridges'. -/
def fnBestBridgesUptoCard : Claim7 := { stood := { row := fnBestBridgesUptoRow, standIns := [], harness := (true, "6885fdf4dbe9efdea113025530cff8d89139f641b51205a8be7338c93cd0ab7a"), looks := true }, kinds := [], alts := [], laidByText := true, laidKinds := [.data], laidTests := true, laidLooks := .later }
def FnBestBridgesUptoCardSaid : Prop := Claim7.holds Tryd.pinned (.plain (OpenSpec.upto fnBestBridgesSpec)) fnBestBridgesUptoCard

/-- THE SECOND FORM's CARD OF 'laws.FnExactCountPrimes'. -/
def fnExactCountPrimesUptoCard : Claim7 := { stood := { row := fnExactCountPrimesUptoRow, standIns := [], harness := (true, "6885fdf4dbe9efdea113025530cff8d89139f641b51205a8be7338c93cd0ab7a"), looks := true }, kinds := [], alts := [], laidByText := true, laidKinds := [.data, .sentinel], laidTests := true, laidLooks := .later }
def FnExactCountPrimesUptoCardSaid : Prop := Claim7.holds Tryd.pinned (.plain (OpenSpec.upto fnExactCountPrimesSpec)) fnExactCountPrimesUptoCard

/-- THE SECOND FORM's CARD OF 'laws.FnExactLongestPrime'. -/
def fnExactLongestPrimeUptoCard : Claim7 := { stood := { row := fnExactLongestPrimeUptoRow, standIns := [], harness := (true, "6885fdf4dbe9efdea113025530cff8d89139f641b51205a8be7338c93cd0ab7a"), looks := true }, kinds := [], alts := [], laidByText := true, laidKinds := [.data, .sentinel], laidTests := true, laidLooks := .later }
def FnExactLongestPrimeUptoCardSaid : Prop := Claim7.holds Tryd.pinned (.plain (OpenSpec.upto fnExactLongestPrimeSpec)) fnExactLongestPrimeUptoCard
end Rows
end Go.Proofs.YtfllacclehmbeaaDoor
