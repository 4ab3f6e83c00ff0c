/-
  DERIVED. GIVEN WITH THE SEED: THE CARDS: each row of YtblllikenjofoaaDoorRows.lean that lists a variable, with what it lists TIED to the program's text (the seventh form; the later family's looks); each row that meets fmt, with fmt's text TOLD by the authors' own Lean function (tested against real Go, not proved from fmt's source: count such statements apart). THE CARD IS WHAT COUNTS. Prove the row's statement (the work); the ties are given (YtblllikenjofoaaDoorTie.lean); close each card by the builder's one call (the guide's Derived/Test/ToyasCard.lean, 'card_holds'). Laid BY PROGRAM, IN A SANDBOX (cutbox-door.mjs). By AI agents, Wed Nov 11 2026. No macro, syntax, notation, axiom, sorry.
-/
import Derived.Test.YtblllikenjofoaaDoorRows
import GoSem.ClaimSeven
namespace Go.Proofs.YtblllikenjofoaaDoor
namespace Rows

/-- THE TIED CARD OF 'laws.FnFar'. -/
def fnFarCard : Claim7 := { stood := { row := fnFarRow, standIns := [], harness := (true, "46b8b45cca55e481b783f94a1abd44241839b8fdd0fea2d1f0de14e367807b83"), looks := false }, kinds := [], alts := [], laidByText := true, laidKinds := [.data], laidTests := true, laidLooks := .later }
def FnFarCardSaid : Prop := Claim7.holds Tryd.pinned (.plain (OpenSpec.ofChange fnFarSpec)) fnFarCard

/-- THE TIED CARD OF 'laws.FnExactArcsOf'. -/
def fnExactArcsOfCard : Claim7 := { stood := { row := fnExactArcsOfRow, standIns := [], harness := (true, "46b8b45cca55e481b783f94a1abd44241839b8fdd0fea2d1f0de14e367807b83"), looks := false }, kinds := [], alts := [], laidByText := true, laidKinds := [.data], laidTests := true, laidLooks := .later }
def FnExactArcsOfCardSaid : Prop := Claim7.holds Tryd.pinned (.plain (OpenSpec.ofChange fnExactArcsOfSpec)) fnExactArcsOfCard

/-- THE TIED CARD OF 'laws.FnExactArcCount'. -/
def fnExactArcCountCard : Claim7 := { stood := { row := fnExactArcCountRow, standIns := [], harness := (true, "46b8b45cca55e481b783f94a1abd44241839b8fdd0fea2d1f0de14e367807b83"), looks := false }, kinds := [], alts := [], laidByText := true, laidKinds := [.data], laidTests := true, laidLooks := .later }
def FnExactArcCountCardSaid : Prop := Claim7.holds Tryd.pinned (.plain (OpenSpec.ofChange fnExactArcCountSpec)) fnExactArcCountCard

/-- THE TIED CARD OF 'laws.FnExactArcsInto'. -/
def fnExactArcsIntoCard : Claim7 := { stood := { row := fnExactArcsIntoRow, standIns := [], harness := (true, "46b8b45cca55e481b783f94a1abd44241839b8fdd0fea2d1f0de14e367807b83"), looks := false }, kinds := [], alts := [], laidByText := true, laidKinds := [.data], laidTests := true, laidLooks := .later }
def FnExactArcsIntoCardSaid : Prop := Claim7.holds Tryd.pinned (.plain (OpenSpec.ofChange fnExactArcsIntoSpec)) fnExactArcsIntoCard

/-- THE TIED CARD OF 'laws.FnExactDistancesFrom'. -/
def fnExactDistancesFromCard : Claim7 := { stood := { row := fnExactDistancesFromRow, standIns := [], harness := (true, "46b8b45cca55e481b783f94a1abd44241839b8fdd0fea2d1f0de14e367807b83"), looks := false }, kinds := [], alts := [], laidByText := true, laidKinds := [.data], laidTests := true, laidLooks := .later }
def FnExactDistancesFromCardSaid : Prop := Claim7.holds Tryd.pinned (.plain (OpenSpec.ofChange fnExactDistancesFromSpec)) fnExactDistancesFromCard

/-- THE TIED CARD OF 'laws.FnExactDistance'. -/
def fnExactDistanceCard : Claim7 := { stood := { row := fnExactDistanceRow, standIns := [], harness := (true, "46b8b45cca55e481b783f94a1abd44241839b8fdd0fea2d1f0de14e367807b83"), looks := false }, kinds := [], alts := [], laidByText := true, laidKinds := [.data], laidTests := true, laidLooks := .later }
def FnExactDistanceCardSaid : Prop := Claim7.holds Tryd.pinned (.plain (OpenSpec.ofChange fnExactDistanceSpec)) fnExactDistanceCard

/-- THE TIED CARD OF 'laws.FnExactDiameter'. -/
def fnExactDiameterCard : Claim7 := { stood := { row := fnExactDiameterRow, standIns := [], harness := (true, "46b8b45cca55e481b783f94a1abd44241839b8fdd0fea2d1f0de14e367807b83"), looks := false }, kinds := [], alts := [], laidByText := true, laidKinds := [.data], laidTests := true, laidLooks := .later }
def FnExactDiameterCardSaid : Prop := Claim7.holds Tryd.pinned (.plain (OpenSpec.ofChange fnExactDiameterSpec)) fnExactDiameterCard

/-- THE TIED CARD OF 'laws.FnExactBestBridge'. -/
def fnExactBestBridgeCard : Claim7 := { stood := { row := fnExactBestBridgeRow, standIns := [], harness := (true, "46b8b45cca55e481b783f94a1abd44241839b8fdd0fea2d1f0de14e367807b83"), looks := false }, kinds := [], alts := [], laidByText := true, laidKinds := [.data], laidTests := true, laidLooks := .later }
def FnExactBestBridgeCardSaid : Prop := Claim7.holds Tryd.pinned (.plain (OpenSpec.ofChange fnExactBestBridgeSpec)) fnExactBestBridgeCard

/-- THE TIED CARD OF 'laws.FnBestBridges'. -/
def fnBestBridgesCard : Claim7 := { stood := { row := fnBestBridgesRow, standIns := [], harness := (true, "46b8b45cca55e481b783f94a1abd44241839b8fdd0fea2d1f0de14e367807b83"), looks := false }, kinds := [], alts := [], laidByText := true, laidKinds := [.data], laidTests := true, laidLooks := .later }
def FnBestBridgesCardSaid : Prop := Claim7.holds Tryd.pinned (.plain (OpenSpec.ofChange fnBestBridgesSpec)) fnBestBridgesCard

/-- THE SECOND FORM's CARD OF 'laws.FnFar'. -/
def fnFarUptoCard : Claim7 := { stood := { row := fnFarUptoRow, standIns := [], harness := (true, "46b8b45cca55e481b783f94a1abd44241839b8fdd0fea2d1f0de14e367807b83"), looks := false }, kinds := [], alts := [], laidByText := true, laidKinds := [.data], laidTests := true, laidLooks := .later }
def FnFarUptoCardSaid : Prop := Claim7.holds Tryd.pinned (.plain (OpenSpec.upto fnFarSpec)) fnFarUptoCard

/-- THE SECOND FORM's CARD OF 'laws.FnExactArcsOf'. -/
def fnExactArcsOfUptoCard : Claim7 := { stood := { row := fnExactArcsOfUptoRow, standIns := [], harness := (true, "46b8b45cca55e481b783f94a1abd44241839b8fdd0fea2d1f0de14e367807b83"), looks := false }, kinds := [], alts := [], laidByText := true, laidKinds := [.data], laidTests := true, laidLooks := .later }
def FnExactArcsOfUptoCardSaid : Prop := Claim7.holds Tryd.pinned (.plain (OpenSpec.upto fnExactArcsOfSpec)) fnExactArcsOfUptoCard

/-- THE SECOND FORM's CARD OF 'laws.FnExactArcCount'. -/
def fnExactArcCountUptoCard : Claim7 := { stood := { row := fnExactArcCountUptoRow, standIns := [], harness := (true, "46b8b45cca55e481b783f94a1abd44241839b8fdd0fea2d1f0de14e367807b83"), looks := false }, kinds := [], alts := [], laidByText := true, laidKinds := [.data], laidTests := true, laidLooks := .later }
def FnExactArcCountUptoCardSaid : Prop := Claim7.holds Tryd.pinned (.plain (OpenSpec.upto fnExactArcCountSpec)) fnExactArcCountUptoCard

/-- THE SECOND FORM's CARD OF 'laws.FnExactArcsInto'. -/
def fnExactArcsIntoUptoCard : Claim7 := { stood := { row := fnExactArcsIntoUptoRow, standIns := [], harness := (true, "46b8b45cca55e481b783f94a1abd44241839b8fdd0fea2d1f0de14e367807b83"), looks := false }, kinds := [], alts := [], laidByText := true, laidKinds := [.data], laidTests := true, laidLooks := .later }
def FnExactArcsIntoUptoCardSaid : Prop := Claim7.holds Tryd.pinned (.plain (OpenSpec.upto fnExactArcsIntoSpec)) fnExactArcsIntoUptoCard

/-- THE SECOND FORM's CARD OF 'laws.FnExactDistancesFrom'. -/
def fnExactDistancesFromUptoCard : Claim7 := { stood := { row := fnExactDistancesFromUptoRow, standIns := [], harness := (true, "46b8b45cca55e481b783f94a1abd44241839b8fdd0fea2d1f0de14e367807b83"), looks := false }, kinds := [], alts := [], laidByText := true, laidKinds := [.data], laidTests := true, laidLooks := .later }
def FnExactDistancesFromUptoCardSaid : Prop := Claim7.holds Tryd.pinned (.plain (OpenSpec.upto fnExactDistancesFromSpec)) fnExactDistancesFromUptoCard

/-- THE SECOND FORM's CARD OF 'laws.FnExactDistance'. -/
def fnExactDistanceUptoCard : Claim7 := { stood := { row := fnExactDistanceUptoRow, standIns := [], harness := (true, "46b8b45cca55e481b783f94a1abd44241839b8fdd0fea2d1f0de14e367807b83"), looks := false }, kinds := [], alts := [], laidByText := true, laidKinds := [.data], laidTests := true, laidLooks := .later }
def FnExactDistanceUptoCardSaid : Prop := Claim7.holds Tryd.pinned (.plain (OpenSpec.upto fnExactDistanceSpec)) fnExactDistanceUptoCard

/-- THE SECOND FORM's CARD OF 'laws.FnExactDiameter'. -/
def fnExactDiameterUptoCard : Claim7 := { stood := { row := fnExactDiameterUptoRow, standIns := [], harness := (true, "46b8b45cca55e481b783f94a1abd44241839b8fdd0fea2d1f0de14e367807b83"), looks := false }, kinds := [], alts := [], laidByText := true, laidKinds := [.data], laidTests := true, laidLooks := .later }
def FnExactDiameterUptoCardSaid : Prop := Claim7.holds Tryd.pinned (.plain (OpenSpec.upto fnExactDiameterSpec)) fnExactDiameterUptoCard

/-- THE SECOND FORM's CARD OF 'laws.FnExactBestBridge'. -/
def fnExactBestBridgeUptoCard : Claim7 := { stood := { row := fnExactBestBridgeUptoRow, standIns := [], harness := (true, "46b8b45cca55e481b783f94a1abd44241839b8fdd0fea2d1f0de14e367807b83"), looks := false }, kinds := [], alts := [], laidByText := true, laidKinds := [.data], laidTests := true, laidLooks := .later }
def FnExactBestBridgeUptoCardSaid : Prop := Claim7.holds Tryd.pinned (.plain (OpenSpec.upto fnExactBestBridgeSpec)) fnExactBestBridgeUptoCard

/-- THE SECOND FORM's CARD OF 'laws.FnBestBridges'. -/
def fnBestBridgesUptoCard : Claim7 := { stood := { row := fnBestBridgesUptoRow, standIns := [], harness := (true, "46b8b45cca55e481b783f94a1abd44241839b8fdd0fea2d1f0de14e367807b83"), looks := false }, kinds := [], alts := [], laidByText := true, laidKinds := [.data], laidTests := true, laidLooks := .later }
def FnBestBridgesUptoCardSaid : Prop := Claim7.holds Tryd.pinned (.plain (OpenSpec.upto fnBestBridgesSpec)) fnBestBridgesUptoCard
end Rows
end Go.Proofs.YtblllikenjofoaaDoor
