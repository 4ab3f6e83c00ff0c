/-
  DERIVED. GIVEN WITH THE SEED: THE CARDS: each row of YtgjmhihomklooaaDoorRows.lean that lists a variable, with what it lists TIED to the program's text (the seventh form; the later family's looks); each row that meets fmt, with fmt's text TOLD by the authors' own Lean function (tested against real Go, not proved from fmt's source: count such statements apart). THE CARD IS WHAT COUNTS. Prove the row's statement (the work); the ties are given (YtgjmhihomklooaaDoorTie.lean); close each card by the builder's one call (the guide's Derived/Test/ToyasCard.lean, 'card_holds'). Laid BY PROGRAM, IN A SANDBOX (cutbox-door.mjs). By AI agents, Wed Nov 11 2026. No macro, syntax, notation, axiom, sorry.
-/
import Derived.Test.YtgjmhihomklooaaDoorRows
import GoSem.ClaimSeven
namespace Go.Proofs.YtgjmhihomklooaaDoor
namespace Rows

/-- THE TIED CARD OF 'laws.FnSyncTexts'. -/
def fnSyncTextsCard : Claim7 := { stood := { row := fnSyncTextsRow, standIns := [], harness := (true, "cb43b79911781f03159fc1339c9c084ff113fe08880199bfa0bd446987c765a1"), looks := false }, kinds := [], alts := [], laidByText := true, laidKinds := [.data], laidTests := true, laidLooks := .later }
def FnSyncTextsCardSaid : Prop := Claim7.holds Tryd.pinned (.plain (OpenSpec.ofChange fnSyncTextsSpec)) fnSyncTextsCard

/-- THE TIED CARD OF 'laws.FnExactReadSync'. -/
def fnExactReadSyncCard : Claim7 := { stood := { row := fnExactReadSyncRow, standIns := [], harness := (true, "cb43b79911781f03159fc1339c9c084ff113fe08880199bfa0bd446987c765a1"), looks := false }, kinds := [], alts := [], laidByText := true, laidKinds := [.data], laidTests := true, laidLooks := .later }
def FnExactReadSyncCardSaid : Prop := Claim7.holds Tryd.pinned (.plain (OpenSpec.ofChange fnExactReadSyncSpec)) fnExactReadSyncCard

/-- THE TIED CARD OF 'laws.FnExactNoteName'. -/
def fnExactNoteNameCard : Claim7 := { stood := { row := fnExactNoteNameRow, standIns := [], harness := (true, "cb43b79911781f03159fc1339c9c084ff113fe08880199bfa0bd446987c765a1"), looks := false }, kinds := [], alts := [], laidByText := true, laidKinds := [.data], laidTests := true, laidLooks := .later }
def FnExactNoteNameCardSaid : Prop := Claim7.holds Tryd.pinned (.plain (OpenSpec.ofChange fnExactNoteNameSpec)) fnExactNoteNameCard

/-- THE TIED CARD OF 'laws.FnExactFaultName'. -/
def fnExactFaultNameCard : Claim7 := { stood := { row := fnExactFaultNameRow, standIns := [], harness := (true, "cb43b79911781f03159fc1339c9c084ff113fe08880199bfa0bd446987c765a1"), looks := false }, kinds := [], alts := [], laidByText := true, laidKinds := [.data], laidTests := true, laidLooks := .later }
def FnExactFaultNameCardSaid : Prop := Claim7.holds Tryd.pinned (.plain (OpenSpec.ofChange fnExactFaultNameSpec)) fnExactFaultNameCard

/-- THE SECOND FORM's CARD OF 'laws.FnSyncTexts'. -/
def fnSyncTextsUptoCard : Claim7 := { stood := { row := fnSyncTextsUptoRow, standIns := [], harness := (true, "cb43b79911781f03159fc1339c9c084ff113fe08880199bfa0bd446987c765a1"), looks := false }, kinds := [], alts := [], laidByText := true, laidKinds := [.data], laidTests := true, laidLooks := .later }
def FnSyncTextsUptoCardSaid : Prop := Claim7.holds Tryd.pinned (.plain (OpenSpec.upto fnSyncTextsSpec)) fnSyncTextsUptoCard

/-- THE SECOND FORM's CARD OF 'laws.FnExactReadSync'. -/
def fnExactReadSyncUptoCard : Claim7 := { stood := { row := fnExactReadSyncUptoRow, standIns := [], harness := (true, "cb43b79911781f03159fc1339c9c084ff113fe08880199bfa0bd446987c765a1"), looks := false }, kinds := [], alts := [], laidByText := true, laidKinds := [.data], laidTests := true, laidLooks := .later }
def FnExactReadSyncUptoCardSaid : Prop := Claim7.holds Tryd.pinned (.plain (OpenSpec.upto fnExactReadSyncSpec)) fnExactReadSyncUptoCard

/-- THE SECOND FORM's CARD OF 'laws.FnExactNoteName'. -/
def fnExactNoteNameUptoCard : Claim7 := { stood := { row := fnExactNoteNameUptoRow, standIns := [], harness := (true, "cb43b79911781f03159fc1339c9c084ff113fe08880199bfa0bd446987c765a1"), looks := false }, kinds := [], alts := [], laidByText := true, laidKinds := [.data], laidTests := true, laidLooks := .later }
def FnExactNoteNameUptoCardSaid : Prop := Claim7.holds Tryd.pinned (.plain (OpenSpec.upto fnExactNoteNameSpec)) fnExactNoteNameUptoCard

/-- THE SECOND FORM's CARD OF 'laws.FnExactFaultName'. -/
def fnExactFaultNameUptoCard : Claim7 := { stood := { row := fnExactFaultNameUptoRow, standIns := [], harness := (true, "cb43b79911781f03159fc1339c9c084ff113fe08880199bfa0bd446987c765a1"), looks := false }, kinds := [], alts := [], laidByText := true, laidKinds := [.data], laidTests := true, laidLooks := .later }
def FnExactFaultNameUptoCardSaid : Prop := Claim7.holds Tryd.pinned (.plain (OpenSpec.upto fnExactFaultNameSpec)) fnExactFaultNameUptoCard
end Rows
end Go.Proofs.YtgjmhihomklooaaDoor
