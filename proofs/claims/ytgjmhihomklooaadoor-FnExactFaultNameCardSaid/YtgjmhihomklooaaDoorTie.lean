/-
  DERIVED. GIVEN WITH THE SEED: THE PROGRAM's TIES (one call each: nine closed facts by the kernel) AND EACH ROW's TIE, after the 31st guide's Derived/Test/Toyas{Tie, Card}.lean. No idea stands in it: it is a product of the set-up. Laid BY PROGRAM, IN A SANDBOX (cutbox-door.mjs). By AI agents, Wed Nov 11 2026. No macro, syntax, notation, axiom, sorry.
-/
import Derived.Test.YtgjmhihomklooaaDoorRows
import Derived.LaidByTextLater
import Derived.SevenTiedAt
import Derived.LaidSub
import Derived.LaidOnce
namespace Go.Proofs.YtgjmhihomklooaaDoor
open Go
set_option maxRecDepth 100000
theorem seatTie1 : Tryd.prog.laidByTextLater [("loop.example/g00927/impl.syncMarks", Rows.laid_loop_example_g00927_impl_syncMarks), ("loop.example/g00927/impl.noteNames", Rows.laid_loop_example_g00927_impl_noteNames), ("loop.example/g00927/impl.faultNames", Rows.laid_loop_example_g00927_impl_faultNames)] [.data, .data, .data] true :=
  Program.laidByTextLater_by_one 26 8 7 (by kernel_rfl) (by kernel_rfl) (by kernel_rfl) (by kernel_rfl) (by kernel_rfl) (by kernel_rfl) (fun _ _ => by kernel_rfl)
theorem noOwnUnsafe : Tryd.pinned.checked.prog.headLifts.contains "ownunsafe" = false := by kernel_rfl
theorem tie : Tryd.prog.laidByTextLater [("loop.example/g00927/impl.syncMarks", Rows.laid_loop_example_g00927_impl_syncMarks)] [.data] true :=
  Program.laidByTextLater.sub seatTie1 ["loop.example/g00927/impl.syncMarks"] (by kernel_rfl) (by kernel_rfl)
theorem fnSyncTexts_row_tie : Rows.fnSyncTextsRow.laidByTextAt .later Tryd.pinned [.data] true :=
  OpenClaim.laidByTextAt_later rfl rfl tie noOwnUnsafe
theorem fnExactReadSync_row_tie : Rows.fnExactReadSyncRow.laidByTextAt .later Tryd.pinned [.data] true :=
  OpenClaim.laidByTextAt_later rfl rfl tie noOwnUnsafe
theorem tie2 : Tryd.prog.laidByTextLater [("loop.example/g00927/impl.noteNames", Rows.laid_loop_example_g00927_impl_noteNames)] [.data] true :=
  Program.laidByTextLater.sub seatTie1 ["loop.example/g00927/impl.noteNames"] (by kernel_rfl) (by kernel_rfl)
theorem fnExactNoteName_row_tie : Rows.fnExactNoteNameRow.laidByTextAt .later Tryd.pinned [.data] true :=
  OpenClaim.laidByTextAt_later rfl rfl tie2 noOwnUnsafe
theorem tie3 : Tryd.prog.laidByTextLater [("loop.example/g00927/impl.faultNames", Rows.laid_loop_example_g00927_impl_faultNames)] [.data] true :=
  Program.laidByTextLater.sub seatTie1 ["loop.example/g00927/impl.faultNames"] (by kernel_rfl) (by kernel_rfl)
theorem fnExactFaultName_row_tie : Rows.fnExactFaultNameRow.laidByTextAt .later Tryd.pinned [.data] true :=
  OpenClaim.laidByTextAt_later rfl rfl tie3 noOwnUnsafe
theorem fnSyncTextsUpto_row_tie : Rows.fnSyncTextsUptoRow.laidByTextAt .later Tryd.pinned [.data] true :=
  OpenClaim.laidByTextAt_later rfl rfl tie noOwnUnsafe
theorem fnExactReadSyncUpto_row_tie : Rows.fnExactReadSyncUptoRow.laidByTextAt .later Tryd.pinned [.data] true :=
  OpenClaim.laidByTextAt_later rfl rfl tie noOwnUnsafe
theorem fnExactNoteNameUpto_row_tie : Rows.fnExactNoteNameUptoRow.laidByTextAt .later Tryd.pinned [.data] true :=
  OpenClaim.laidByTextAt_later rfl rfl tie2 noOwnUnsafe
theorem fnExactFaultNameUpto_row_tie : Rows.fnExactFaultNameUptoRow.laidByTextAt .later Tryd.pinned [.data] true :=
  OpenClaim.laidByTextAt_later rfl rfl tie3 noOwnUnsafe
end Go.Proofs.YtgjmhihomklooaaDoor
