/-
  NARROWER THAN 'FOR EVERY INPUT', by the rows' own cells (each row's printed sentence says how): FnSyncTexts: laid · FnExactReadSync: laid · FnExactNoteName: laid · FnExactFaultName: laid.
  DERIVED. THE GIVEN ROWS OF THIS SEAT. 4 by the template 'for every input the law returns true; each argument reads behind the call as it read before'; 0 by the template 'total and deterministic' (their statements: YtgjmhihomklooaaDoorTotals.lean).
  GIVEN WITH THE SEED: the statements are not yours to turn. If you find one false, say at which input.
  Laid BY PROGRAM, IN A SANDBOX (cutbox-rows.mjs): the forced cells as the released guide's own fill.sh prints them over the translation 2b53197975a0f21b… (all of the seat's roots in one cut). By AI agents, Wed Nov 11 2026. No macro, syntax, notation, axiom, sorry.
-/
import Derived.Test.YtgjmhihomklooaaDoorChecked
import GoSem.Claim
import GoSem.ClaimJoined
import GoSem.ClaimMapViews
import Derived.JoinedTies
import Derived.KernelRfl
namespace Go.Proofs.YtgjmhihomklooaaDoor
/- THE CELL 'sum', in the pinned program and in every row, IS THE sha256 OF THE DUMP (.gsa) THAT YtgjmhihomklooaaDoorProg.lean LOADS. Nothing in Lean hashes anything: it is a label: what it is worth is what the hold of that sum in a sandbox is worth. -/
noncomputable def Tryd.pinned : Pinned := { name := "ytgjmhihomklooaadoor", sum := "2b53197975a0f21bccb46ee4eb3faae5eae4c74f4c091306e3bb267a63d78dff", checked := Tryd.checked }
namespace Rows
def none {H : Type} : Left H := { results := [], args := [] }

/- WHAT THE LISTED PACKAGE-LEVEL VARIABLES READ AS WHEN THE CALL BEGINS. Each datum BY PROGRAM (the guide's laid-datum.mjs) off the statement by which the dump's own 'gosem.cut.vars' lays the variable. In a bare row this is a premise. The card (YtgjmhihomklooaaDoorCards.lean) ties it to the program's text. -/
def laid_loop_example_g00927_impl_syncMarks {H : Type} : DataW H := .agg [.agg [.lit (.string [40]), .lit (.string [44])], .agg [.lit (.string []), .lit (.string [41])]]
def laid_loop_example_g00927_impl_noteNames {H : Type} : DataW H := .agg [.lit (.string []), .lit (.string [112, 97, 116, 116, 101, 114, 110]), .lit (.string [109, 117, 108, 116, 105]), .lit (.string [115, 121, 110, 99]), .lit (.string [112, 97, 115, 115, 105, 110, 103])]
def laid_loop_example_g00927_impl_faultNames {H : Type} : DataW H := .agg [.lit (.string [110, 111, 110, 101]), .lit (.string [101, 109, 112, 116, 121]), .lit (.string [108, 111, 110, 103]), .lit (.string [99, 104, 97, 114, 97, 99, 116, 101, 114]), .lit (.string [102, 111, 114, 109]), .lit (.string [99, 111, 108, 108, 105, 115, 105, 111, 110])]

/-- 'laws.FnSyncTexts': WHATEVER THE INPUT: true; the input reads as it did. -/
def fnSyncTextsSpec : ChangeSpec := { name := "fnSyncTexts", vars := ["loop.example/g00927/impl.syncMarks"], fn := fun _ => fun
  | [d, g1] => { results := [.lit (.bool true)], args := [d], vars := [g1] }
  | _ => none }
def fnSyncTextsRow : OpenClaim := { program := "ytgjmhihomklooaadoor", sum := "2b53197975a0f21bccb46ee4eb3faae5eae4c74f4c091306e3bb267a63d78dff", func := "loop.example/g00927/laws.FnSyncTexts", spec := "fnSyncTexts", inPlace := ["internal/abi.NoEscape", "internal/bytealg.IndexByteString", "internal/bytealg.IndexString"], named := ["loop.example/g00927/impl.syncMarks", "internal/bytealg.MaxLen"], apart := false, laid := [("loop.example/g00927/impl.syncMarks", laid_loop_example_g00927_impl_syncMarks)] }
def FnSyncTextsSaid : Prop := fnSyncTextsRow.holds Tryd.pinned (OpenSpec.ofChange fnSyncTextsSpec)

/-- ITS FALSE NEIGHBOUR: 'it returns false'. Refute it at one input. -/
def fnSyncTextsWrong : ChangeSpec := { name := "fnSyncTexts", vars := ["loop.example/g00927/impl.syncMarks"], fn := fun _ => fun
  | [d, g1] => { results := [.lit (.bool false)], args := [d], vars := [g1] }
  | _ => none }
def FnSyncTextsWrongFalsely : Prop := fnSyncTextsRow.holds Tryd.pinned (OpenSpec.ofChange fnSyncTextsWrong)

/-- 'laws.FnExactReadSync': WHATEVER THE INPUT: true; the input reads as it did. -/
def fnExactReadSyncSpec : ChangeSpec := { name := "fnExactReadSync", vars := ["loop.example/g00927/impl.syncMarks"], fn := fun _ => fun
  | [d, g1] => { results := [.lit (.bool true)], args := [d], vars := [g1] }
  | _ => none }
def fnExactReadSyncRow : OpenClaim := { program := "ytgjmhihomklooaadoor", sum := "2b53197975a0f21bccb46ee4eb3faae5eae4c74f4c091306e3bb267a63d78dff", func := "loop.example/g00927/laws.FnExactReadSync", spec := "fnExactReadSync", inPlace := ["internal/bytealg.IndexByteString", "internal/bytealg.IndexString"], named := ["loop.example/g00927/impl.syncMarks", "internal/bytealg.MaxLen"], apart := false, laid := [("loop.example/g00927/impl.syncMarks", laid_loop_example_g00927_impl_syncMarks)] }
def FnExactReadSyncSaid : Prop := fnExactReadSyncRow.holds Tryd.pinned (OpenSpec.ofChange fnExactReadSyncSpec)

/-- ITS FALSE NEIGHBOUR: 'it returns false'. Refute it at one input. -/
def fnExactReadSyncWrong : ChangeSpec := { name := "fnExactReadSync", vars := ["loop.example/g00927/impl.syncMarks"], fn := fun _ => fun
  | [d, g1] => { results := [.lit (.bool false)], args := [d], vars := [g1] }
  | _ => none }
def FnExactReadSyncWrongFalsely : Prop := fnExactReadSyncRow.holds Tryd.pinned (OpenSpec.ofChange fnExactReadSyncWrong)

/-- 'laws.FnExactNoteName': WHATEVER THE INPUT: true; the input reads as it did. -/
def fnExactNoteNameSpec : ChangeSpec := { name := "fnExactNoteName", vars := ["loop.example/g00927/impl.noteNames"], fn := fun _ => fun
  | [d, g1] => { results := [.lit (.bool true)], args := [d], vars := [g1] }
  | _ => none }
def fnExactNoteNameRow : OpenClaim := { program := "ytgjmhihomklooaadoor", sum := "2b53197975a0f21bccb46ee4eb3faae5eae4c74f4c091306e3bb267a63d78dff", func := "loop.example/g00927/laws.FnExactNoteName", spec := "fnExactNoteName", named := ["loop.example/g00927/impl.noteNames"], apart := false, laid := [("loop.example/g00927/impl.noteNames", laid_loop_example_g00927_impl_noteNames)] }
def FnExactNoteNameSaid : Prop := fnExactNoteNameRow.holds Tryd.pinned (OpenSpec.ofChange fnExactNoteNameSpec)

/-- ITS FALSE NEIGHBOUR: 'it returns false'. Refute it at one input. -/
def fnExactNoteNameWrong : ChangeSpec := { name := "fnExactNoteName", vars := ["loop.example/g00927/impl.noteNames"], fn := fun _ => fun
  | [d, g1] => { results := [.lit (.bool false)], args := [d], vars := [g1] }
  | _ => none }
def FnExactNoteNameWrongFalsely : Prop := fnExactNoteNameRow.holds Tryd.pinned (OpenSpec.ofChange fnExactNoteNameWrong)

/-- 'laws.FnExactFaultName': WHATEVER THE INPUT: true; the input reads as it did. -/
def fnExactFaultNameSpec : ChangeSpec := { name := "fnExactFaultName", vars := ["loop.example/g00927/impl.faultNames"], fn := fun _ => fun
  | [d, g1] => { results := [.lit (.bool true)], args := [d], vars := [g1] }
  | _ => none }
def fnExactFaultNameRow : OpenClaim := { program := "ytgjmhihomklooaadoor", sum := "2b53197975a0f21bccb46ee4eb3faae5eae4c74f4c091306e3bb267a63d78dff", func := "loop.example/g00927/laws.FnExactFaultName", spec := "fnExactFaultName", named := ["loop.example/g00927/impl.faultNames"], apart := false, laid := [("loop.example/g00927/impl.faultNames", laid_loop_example_g00927_impl_faultNames)] }
def FnExactFaultNameSaid : Prop := fnExactFaultNameRow.holds Tryd.pinned (OpenSpec.ofChange fnExactFaultNameSpec)

/-- ITS FALSE NEIGHBOUR: 'it returns false'. Refute it at one input. -/
def fnExactFaultNameWrong : ChangeSpec := { name := "fnExactFaultName", vars := ["loop.example/g00927/impl.faultNames"], fn := fun _ => fun
  | [d, g1] => { results := [.lit (.bool false)], args := [d], vars := [g1] }
  | _ => none }
def FnExactFaultNameWrongFalsely : Prop := fnExactFaultNameRow.holds Tryd.pinned (OpenSpec.ofChange fnExactFaultNameWrong)

/- THE SECOND FORM. 'bulk': how many values and letters a reading holds, each counted each time it is reached (what is shared counts as often as it is met; a slice's spare places count too). A statement '..UptoSaid' is the law's where the arguments, and the package variables that the reading takes, are together of bulk at most 1048576: NARROWER than '..Said'. Prove '..Said' where nothing that the law and all that it calls make is longer than what came in: it says more and counts as full. Else prove '..UptoSaid'. A law counts once. -/
mutual
def uptoBulk {H : Type} : DataW H → Nat
  | .lit (.string bytes) => bytes.length + 1
  | .lit _ => 1
  | .nil => 1
  | .ptr d => uptoBulk d + 1
  | .slice elems spare => uptoBulkAll elems + uptoBulkAll spare + 1
  | .agg parts => uptoBulkAll parts + 1
  | .iface _ d => uptoBulk d + 1
  | .map entries => uptoBulkEntries entries + 1
  | .held _ => 1
def uptoBulkAll {H : Type} : List (DataW H) → Nat
  | [] => 0
  | d :: r => uptoBulk d + uptoBulkAll r
def uptoBulkEntries {H : Type} : List (Lit × DataW H) → Nat
  | [] => 0
  | x :: r => uptoBulkEntry x + uptoBulkEntries r
def uptoBulkEntry {H : Type} : Lit × DataW H → Nat
  | (.string bytes, d) => bytes.length + uptoBulk d + 1
  | (_, d) => uptoBulk d + 1
 end
def uptoSmall : (H : Type) → List (DataW H) → Bool := fun _ ds => decide (uptoBulkAll ds ≤ 1048576)
def OpenSpec.upto (s : _root_.Go.ChangeSpec) : _root_.Go.OpenSpec := { _root_.Go.OpenSpec.ofChange s with cond := some uptoSmall }

/-- 'laws.FnSyncTexts', WHERE WHAT IT READS IS OF BULK AT MOST 1048576: true; the input reads as it did. -/
def fnSyncTextsUptoRow : OpenClaim := { program := "ytgjmhihomklooaadoor", sum := "2b53197975a0f21bccb46ee4eb3faae5eae4c74f4c091306e3bb267a63d78dff", func := "loop.example/g00927/laws.FnSyncTexts", spec := "fnSyncTexts", inPlace := ["internal/abi.NoEscape", "internal/bytealg.IndexByteString", "internal/bytealg.IndexString"], named := ["loop.example/g00927/impl.syncMarks", "internal/bytealg.MaxLen"], apart := false, laid := [("loop.example/g00927/impl.syncMarks", laid_loop_example_g00927_impl_syncMarks)], narrowed := true }
def FnSyncTextsUptoSaid : Prop := fnSyncTextsUptoRow.holds Tryd.pinned (OpenSpec.upto fnSyncTextsSpec)

/-- 'laws.FnExactReadSync', WHERE WHAT IT READS IS OF BULK AT MOST 1048576: true; the input reads as it did. -/
def fnExactReadSyncUptoRow : OpenClaim := { program := "ytgjmhihomklooaadoor", sum := "2b53197975a0f21bccb46ee4eb3faae5eae4c74f4c091306e3bb267a63d78dff", func := "loop.example/g00927/laws.FnExactReadSync", spec := "fnExactReadSync", inPlace := ["internal/bytealg.IndexByteString", "internal/bytealg.IndexString"], named := ["loop.example/g00927/impl.syncMarks", "internal/bytealg.MaxLen"], apart := false, laid := [("loop.example/g00927/impl.syncMarks", laid_loop_example_g00927_impl_syncMarks)], narrowed := true }
def FnExactReadSyncUptoSaid : Prop := fnExactReadSyncUptoRow.holds Tryd.pinned (OpenSpec.upto fnExactReadSyncSpec)

/-- 'laws.FnExactNoteName', WHERE WHAT IT READS IS OF BULK AT MOST 1048576: true; the input reads as it did. -/
def fnExactNoteNameUptoRow : OpenClaim := { program := "ytgjmhihomklooaadoor", sum := "2b53197975a0f21bccb46ee4eb3faae5eae4c74f4c091306e3bb267a63d78dff", func := "loop.example/g00927/laws.FnExactNoteName", spec := "fnExactNoteName", named := ["loop.example/g00927/impl.noteNames"], apart := false, laid := [("loop.example/g00927/impl.noteNames", laid_loop_example_g00927_impl_noteNames)], narrowed := true }
def FnExactNoteNameUptoSaid : Prop := fnExactNoteNameUptoRow.holds Tryd.pinned (OpenSpec.upto fnExactNoteNameSpec)

/-- 'laws.FnExactFaultName', WHERE WHAT IT READS IS OF BULK AT MOST 1048576: true; the input reads as it did. -/
def fnExactFaultNameUptoRow : OpenClaim := { program := "ytgjmhihomklooaadoor", sum := "2b53197975a0f21bccb46ee4eb3faae5eae4c74f4c091306e3bb267a63d78dff", func := "loop.example/g00927/laws.FnExactFaultName", spec := "fnExactFaultName", named := ["loop.example/g00927/impl.faultNames"], apart := false, laid := [("loop.example/g00927/impl.faultNames", laid_loop_example_g00927_impl_faultNames)], narrowed := true }
def FnExactFaultNameUptoSaid : Prop := fnExactFaultNameUptoRow.holds Tryd.pinned (OpenSpec.upto fnExactFaultNameSpec)

end Rows
end Go.Proofs.YtgjmhihomklooaaDoor
