/-
  DERIVED. GIVEN WITH THE SEED: THE CARDS: each row of YtdgmmaghmdbnjaaDoorRows.lean that lists a variable, with what it lists TIED to the program's text (the seventh form; the later family's looks); each row that meets fmt, with fmt's text TOLD by the authors' own Lean function (tested against real Go, not proved from fmt's source: count such statements apart). THE CARD IS WHAT COUNTS. Prove the row's statement (the work); the ties are given (YtdgmmaghmdbnjaaDoorTie.lean); close each card by the builder's one call (the guide's Derived/Test/ToyasCard.lean, 'card_holds'). Laid BY PROGRAM, IN A SANDBOX (cutbox-door.mjs). By AI agents, Wed Nov 11 2026. No macro, syntax, notation, axiom, sorry.
-/
import Derived.Test.YtdgmmaghmdbnjaaDoorRows
import GoSem.ClaimSeven
namespace Go.Proofs.YtdgmmaghmdbnjaaDoor
namespace Rows

/-- THE TIED CARD OF 'laws.FnSyncTexts'. -/
def fnSyncTextsCard : Claim7 := { stood := { row := fnSyncTextsRow, standIns := [], harness := (true, "3e31f39856f99ae76ad90c45e7f034c4b96bc3a8d78b486f6e28b64795dc8be4"), looks := false }, kinds := [], alts := [], laidByText := true, laidKinds := [.data], laidTests := true, laidLooks := .later }
def FnSyncTextsCardSaid : Prop := Claim7.holds Tryd.pinned (.plain (OpenSpec.ofChange fnSyncTextsSpec)) fnSyncTextsCard

/-- THE TIED CARD OF 'laws.FnExactSyncText'. -/
def fnExactSyncTextCard : Claim7 := { stood := { row := fnExactSyncTextRow, standIns := [], harness := (true, "3e31f39856f99ae76ad90c45e7f034c4b96bc3a8d78b486f6e28b64795dc8be4"), looks := false }, kinds := [], alts := [], laidByText := true, laidKinds := [.data], laidTests := true, laidLooks := .later }
def FnExactSyncTextCardSaid : Prop := Claim7.holds Tryd.pinned (.plain (OpenSpec.ofChange fnExactSyncTextSpec)) fnExactSyncTextCard

/-- THE TIED CARD OF 'laws.FnExactReadSync'. -/
def fnExactReadSyncCard : Claim7 := { stood := { row := fnExactReadSyncRow, standIns := [], harness := (true, "3e31f39856f99ae76ad90c45e7f034c4b96bc3a8d78b486f6e28b64795dc8be4"), looks := false }, kinds := [], alts := [], laidByText := true, laidKinds := [.data], laidTests := true, laidLooks := .later }
def FnExactReadSyncCardSaid : Prop := Claim7.holds Tryd.pinned (.plain (OpenSpec.ofChange fnExactReadSyncSpec)) fnExactReadSyncCard

/-- THE SECOND FORM's CARD OF 'laws.FnSyncTexts'. -/
def fnSyncTextsUptoCard : Claim7 := { stood := { row := fnSyncTextsUptoRow, standIns := [], harness := (true, "3e31f39856f99ae76ad90c45e7f034c4b96bc3a8d78b486f6e28b64795dc8be4"), looks := false }, kinds := [], alts := [], laidByText := true, laidKinds := [.data], laidTests := true, laidLooks := .later }
def FnSyncTextsUptoCardSaid : Prop := Claim7.holds Tryd.pinned (.plain (OpenSpec.upto fnSyncTextsSpec)) fnSyncTextsUptoCard

/-- THE SECOND FORM's CARD OF 'laws.FnExactSyncText'. -/
def fnExactSyncTextUptoCard : Claim7 := { stood := { row := fnExactSyncTextUptoRow, standIns := [], harness := (true, "3e31f39856f99ae76ad90c45e7f034c4b96bc3a8d78b486f6e28b64795dc8be4"), looks := false }, kinds := [], alts := [], laidByText := true, laidKinds := [.data], laidTests := true, laidLooks := .later }
def FnExactSyncTextUptoCardSaid : Prop := Claim7.holds Tryd.pinned (.plain (OpenSpec.upto fnExactSyncTextSpec)) fnExactSyncTextUptoCard

/-- THE SECOND FORM's CARD OF 'laws.FnExactReadSync'. -/
def fnExactReadSyncUptoCard : Claim7 := { stood := { row := fnExactReadSyncUptoRow, standIns := [], harness := (true, "3e31f39856f99ae76ad90c45e7f034c4b96bc3a8d78b486f6e28b64795dc8be4"), looks := false }, kinds := [], alts := [], laidByText := true, laidKinds := [.data], laidTests := true, laidLooks := .later }
def FnExactReadSyncUptoCardSaid : Prop := Claim7.holds Tryd.pinned (.plain (OpenSpec.upto fnExactReadSyncSpec)) fnExactReadSyncUptoCard
end Rows
end Go.Proofs.YtdgmmaghmdbnjaaDoor
