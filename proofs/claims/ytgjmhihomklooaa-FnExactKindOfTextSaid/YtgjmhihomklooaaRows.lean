/-
  No cell of these rows narrows 'for every input' (looked for: loops, veiled, ifaces, maps, wideKeys, modest, calm, conditions, laid).
  DERIVED. THE GIVEN ROWS OF THIS SEAT. 7 by the template 'for every input the law returns true; each argument reads behind the call as it read before'; 0 by the template 'total and deterministic' (their statements: YtgjmhihomklooaaTotals.lean).
  GIVEN WITH THE SEED: the statements are not yours to turn. If you find one false, say at which input.
  Laid BY PROGRAM, IN A SANDBOX (cutbox-rows.mjs): the forced cells as the released guide's own fill.sh prints them over the translation 99bdb7e0025fd6a3… (all of the seat's roots in one cut). By AI agents, Wed Nov 11 2026. No macro, syntax, notation, axiom, sorry.
-/
import Derived.Test.YtgjmhihomklooaaChecked
import GoSem.Claim
import GoSem.ClaimJoined
import GoSem.ClaimMapViews
import Derived.JoinedTies
import Derived.KernelRfl
namespace Go.Proofs.Ytgjmhihomklooaa
/- THE CELL 'sum', in the pinned program and in every row, IS THE sha256 OF THE DUMP (.gsa) THAT YtgjmhihomklooaaProg.lean LOADS. Nothing in Lean hashes anything: it is a label: what it is worth is what the hold of that sum in a sandbox is worth. -/
noncomputable def Try.pinned : Pinned := { name := "ytgjmhihomklooaa", sum := "99bdb7e0025fd6a3aac9199350c04a43a2117d82319dd24c2abdbe28459527c7", checked := Try.checked }
namespace Rows
def none {H : Type} : Left H := { results := [], args := [] }

/-- 'laws.FnMultis': WHATEVER THE INPUT: true; the input reads as it did. -/
def fnMultisSpec : ChangeSpec := { name := "fnMultis", fn := fun _ => fun
  | [d] => { results := [.lit (.bool true)], args := [d] }
  | _ => none }
def fnMultisRow : OpenClaim := { program := "ytgjmhihomklooaa", sum := "99bdb7e0025fd6a3aac9199350c04a43a2117d82319dd24c2abdbe28459527c7", func := "loop.example/g00927/laws.FnMultis", spec := "fnMultis", unfollowed := true, recurses := true, apart := false }
def FnMultisSaid : Prop := fnMultisRow.holds Try.pinned (OpenSpec.ofChange fnMultisSpec)

/-- ITS FALSE NEIGHBOUR: 'it returns false'. Refute it at one input. -/
def fnMultisWrong : ChangeSpec := { name := "fnMultis", fn := fun _ => fun
  | [d] => { results := [.lit (.bool false)], args := [d] }
  | _ => none }
def FnMultisWrongFalsely : Prop := fnMultisRow.holds Try.pinned (OpenSpec.ofChange fnMultisWrong)

/-- 'laws.FnMultiTexts': WHATEVER THE INPUT: true; the input reads as it did. -/
def fnMultiTextsSpec : ChangeSpec := { name := "fnMultiTexts", fn := fun _ => fun
  | [d] => { results := [.lit (.bool true)], args := [d] }
  | _ => none }
def fnMultiTextsRow : OpenClaim := { program := "ytgjmhihomklooaa", sum := "99bdb7e0025fd6a3aac9199350c04a43a2117d82319dd24c2abdbe28459527c7", func := "loop.example/g00927/laws.FnMultiTexts", spec := "fnMultiTexts", inPlace := ["internal/abi.NoEscape"], unfollowed := true, recurses := true, apart := false }
def FnMultiTextsSaid : Prop := fnMultiTextsRow.holds Try.pinned (OpenSpec.ofChange fnMultiTextsSpec)

/-- ITS FALSE NEIGHBOUR: 'it returns false'. Refute it at one input. -/
def fnMultiTextsWrong : ChangeSpec := { name := "fnMultiTexts", fn := fun _ => fun
  | [d] => { results := [.lit (.bool false)], args := [d] }
  | _ => none }
def FnMultiTextsWrongFalsely : Prop := fnMultiTextsRow.holds Try.pinned (OpenSpec.ofChange fnMultiTextsWrong)

/-- 'laws.FnMirrors': WHATEVER THE INPUT: true; the input reads as it did. -/
def fnMirrorsSpec : ChangeSpec := { name := "fnMirrors", fn := fun _ => fun
  | [d] => { results := [.lit (.bool true)], args := [d] }
  | _ => none }
def fnMirrorsRow : OpenClaim := { program := "ytgjmhihomklooaa", sum := "99bdb7e0025fd6a3aac9199350c04a43a2117d82319dd24c2abdbe28459527c7", func := "loop.example/g00927/laws.FnMirrors", spec := "fnMirrors", apart := false }
def FnMirrorsSaid : Prop := fnMirrorsRow.holds Try.pinned (OpenSpec.ofChange fnMirrorsSpec)

/-- ITS FALSE NEIGHBOUR: 'it returns false'. Refute it at one input. -/
def fnMirrorsWrong : ChangeSpec := { name := "fnMirrors", fn := fun _ => fun
  | [d] => { results := [.lit (.bool false)], args := [d] }
  | _ => none }
def FnMirrorsWrongFalsely : Prop := fnMirrorsRow.holds Try.pinned (OpenSpec.ofChange fnMirrorsWrong)

/-- 'laws.FnExactReadMulti': WHATEVER THE INPUT: true; the input reads as it did. -/
def fnExactReadMultiSpec : ChangeSpec := { name := "fnExactReadMulti", fn := fun _ => fun
  | [d] => { results := [.lit (.bool true)], args := [d] }
  | _ => none }
def fnExactReadMultiRow : OpenClaim := { program := "ytgjmhihomklooaa", sum := "99bdb7e0025fd6a3aac9199350c04a43a2117d82319dd24c2abdbe28459527c7", func := "loop.example/g00927/laws.FnExactReadMulti", spec := "fnExactReadMulti", inPlace := ["internal/abi.NoEscape"], unfollowed := true, recurses := true, apart := false }
def FnExactReadMultiSaid : Prop := fnExactReadMultiRow.holds Try.pinned (OpenSpec.ofChange fnExactReadMultiSpec)

/-- ITS FALSE NEIGHBOUR: 'it returns false'. Refute it at one input. -/
def fnExactReadMultiWrong : ChangeSpec := { name := "fnExactReadMulti", fn := fun _ => fun
  | [d] => { results := [.lit (.bool false)], args := [d] }
  | _ => none }
def FnExactReadMultiWrongFalsely : Prop := fnExactReadMultiRow.holds Try.pinned (OpenSpec.ofChange fnExactReadMultiWrong)

/-- 'laws.FnExactStarSync': WHATEVER THE INPUT: true; the input reads as it did. -/
def fnExactStarSyncSpec : ChangeSpec := { name := "fnExactStarSync", fn := fun _ => fun
  | [d] => { results := [.lit (.bool true)], args := [d] }
  | _ => none }
def fnExactStarSyncRow : OpenClaim := { program := "ytgjmhihomklooaa", sum := "99bdb7e0025fd6a3aac9199350c04a43a2117d82319dd24c2abdbe28459527c7", func := "loop.example/g00927/laws.FnExactStarSync", spec := "fnExactStarSync", apart := false }
def FnExactStarSyncSaid : Prop := fnExactStarSyncRow.holds Try.pinned (OpenSpec.ofChange fnExactStarSyncSpec)

/-- ITS FALSE NEIGHBOUR: 'it returns false'. Refute it at one input. -/
def fnExactStarSyncWrong : ChangeSpec := { name := "fnExactStarSync", fn := fun _ => fun
  | [d] => { results := [.lit (.bool false)], args := [d] }
  | _ => none }
def FnExactStarSyncWrongFalsely : Prop := fnExactStarSyncRow.holds Try.pinned (OpenSpec.ofChange fnExactStarSyncWrong)

/-- 'laws.FnExactKindOfText': WHATEVER THE INPUT: true; the input reads as it did. -/
def fnExactKindOfTextSpec : ChangeSpec := { name := "fnExactKindOfText", fn := fun _ => fun
  | [d] => { results := [.lit (.bool true)], args := [d] }
  | _ => none }
def fnExactKindOfTextRow : OpenClaim := { program := "ytgjmhihomklooaa", sum := "99bdb7e0025fd6a3aac9199350c04a43a2117d82319dd24c2abdbe28459527c7", func := "loop.example/g00927/laws.FnExactKindOfText", spec := "fnExactKindOfText", inPlace := ["internal/bytealg.IndexByteString", "internal/bytealg.IndexString"], named := ["internal/bytealg.MaxLen"], apart := false }
def FnExactKindOfTextSaid : Prop := fnExactKindOfTextRow.holds Try.pinned (OpenSpec.ofChange fnExactKindOfTextSpec)

/-- ITS FALSE NEIGHBOUR: 'it returns false'. Refute it at one input. -/
def fnExactKindOfTextWrong : ChangeSpec := { name := "fnExactKindOfText", fn := fun _ => fun
  | [d] => { results := [.lit (.bool false)], args := [d] }
  | _ => none }
def FnExactKindOfTextWrongFalsely : Prop := fnExactKindOfTextRow.holds Try.pinned (OpenSpec.ofChange fnExactKindOfTextWrong)

/-- 'laws.FnExactSameNotation': WHATEVER THE INPUT: true; the input reads as it did. -/
def fnExactSameNotationSpec : ChangeSpec := { name := "fnExactSameNotation", fn := fun _ => fun
  | [d1, d2] => { results := [.lit (.bool true)], args := [d1, d2] }
  | _ => none }
def fnExactSameNotationRow : OpenClaim := { program := "ytgjmhihomklooaa", sum := "99bdb7e0025fd6a3aac9199350c04a43a2117d82319dd24c2abdbe28459527c7", func := "loop.example/g00927/laws.FnExactSameNotation", spec := "fnExactSameNotation", unfollowed := true, recurses := true, apart := false }
def FnExactSameNotationSaid : Prop := fnExactSameNotationRow.holds Try.pinned (OpenSpec.ofChange fnExactSameNotationSpec)

/-- ITS FALSE NEIGHBOUR: 'it returns false'. Refute it at one input. -/
def fnExactSameNotationWrong : ChangeSpec := { name := "fnExactSameNotation", fn := fun _ => fun
  | [d1, d2] => { results := [.lit (.bool false)], args := [d1, d2] }
  | _ => none }
def FnExactSameNotationWrongFalsely : Prop := fnExactSameNotationRow.holds Try.pinned (OpenSpec.ofChange fnExactSameNotationWrong)

/- THE SECOND FORM. 'bulk': how many values and letters a reading holds, each counted each time it is reached (what is shared counts as often as it is met; a slice's spare places count too). A statement '..UptoSaid' is the law's where the arguments, and the package variables that the reading takes, are together of bulk at most 1048576: NARROWER than '..Said'. Prove '..Said' where nothing that the law and all that it calls make is longer than what came in: it says more and counts as full. Else prove '..UptoSaid'. A law counts once. -/
mutual
def uptoBulk {H : Type} : DataW H → Nat
  | .lit (.string bytes) => bytes.length + 1
  | .lit _ => 1
  | .nil => 1
  | .ptr d => uptoBulk d + 1
  | .slice elems spare => uptoBulkAll elems + uptoBulkAll spare + 1
  | .agg parts => uptoBulkAll parts + 1
  | .iface _ d => uptoBulk d + 1
  | .map entries => uptoBulkEntries entries + 1
  | .held _ => 1
def uptoBulkAll {H : Type} : List (DataW H) → Nat
  | [] => 0
  | d :: r => uptoBulk d + uptoBulkAll r
def uptoBulkEntries {H : Type} : List (Lit × DataW H) → Nat
  | [] => 0
  | x :: r => uptoBulkEntry x + uptoBulkEntries r
def uptoBulkEntry {H : Type} : Lit × DataW H → Nat
  | (.string bytes, d) => bytes.length + uptoBulk d + 1
  | (_, d) => uptoBulk d + 1
 end
def uptoSmall : (H : Type) → List (DataW H) → Bool := fun _ ds => decide (uptoBulkAll ds ≤ 1048576)
def OpenSpec.upto (s : _root_.Go.ChangeSpec) : _root_.Go.OpenSpec := { _root_.Go.OpenSpec.ofChange s with cond := some uptoSmall }

/-- 'laws.FnMultis', WHERE WHAT IT READS IS OF BULK AT MOST 1048576: true; the input reads as it did. -/
def fnMultisUptoRow : OpenClaim := { program := "ytgjmhihomklooaa", sum := "99bdb7e0025fd6a3aac9199350c04a43a2117d82319dd24c2abdbe28459527c7", func := "loop.example/g00927/laws.FnMultis", spec := "fnMultis", unfollowed := true, recurses := true, apart := false, narrowed := true }
def FnMultisUptoSaid : Prop := fnMultisUptoRow.holds Try.pinned (OpenSpec.upto fnMultisSpec)

/-- 'laws.FnMultiTexts', WHERE WHAT IT READS IS OF BULK AT MOST 1048576: true; the input reads as it did. -/
def fnMultiTextsUptoRow : OpenClaim := { program := "ytgjmhihomklooaa", sum := "99bdb7e0025fd6a3aac9199350c04a43a2117d82319dd24c2abdbe28459527c7", func := "loop.example/g00927/laws.FnMultiTexts", spec := "fnMultiTexts", inPlace := ["internal/abi.NoEscape"], unfollowed := true, recurses := true, apart := false, narrowed := true }
def FnMultiTextsUptoSaid : Prop := fnMultiTextsUptoRow.holds Try.pinned (OpenSpec.upto fnMultiTextsSpec)

/-- 'laws.FnMirrors', WHERE WHAT IT READS IS OF BULK AT MOST 1048576: true; the input reads as it did. -/
def fnMirrorsUptoRow : OpenClaim := { program := "ytgjmhihomklooaa", sum := "99bdb7e0025fd6a3aac9199350c04a43a2117d82319dd24c2abdbe28459527c7", func := "loop.example/g00927/laws.FnMirrors", spec := "fnMirrors", apart := false, narrowed := true }
def FnMirrorsUptoSaid : Prop := fnMirrorsUptoRow.holds Try.pinned (OpenSpec.upto fnMirrorsSpec)

/-- 'laws.FnExactReadMulti', WHERE WHAT IT READS IS OF BULK AT MOST 1048576: true; the input reads as it did. -/
def fnExactReadMultiUptoRow : OpenClaim := { program := "ytgjmhihomklooaa", sum := "99bdb7e0025fd6a3aac9199350c04a43a2117d82319dd24c2abdbe28459527c7", func := "loop.example/g00927/laws.FnExactReadMulti", spec := "fnExactReadMulti", inPlace := ["internal/abi.NoEscape"], unfollowed := true, recurses := true, apart := false, narrowed := true }
def FnExactReadMultiUptoSaid : Prop := fnExactReadMultiUptoRow.holds Try.pinned (OpenSpec.upto fnExactReadMultiSpec)

/-- 'laws.FnExactStarSync', WHERE WHAT IT READS IS OF BULK AT MOST 1048576: true; the input reads as it did. -/
def fnExactStarSyncUptoRow : OpenClaim := { program := "ytgjmhihomklooaa", sum := "99bdb7e0025fd6a3aac9199350c04a43a2117d82319dd24c2abdbe28459527c7", func := "loop.example/g00927/laws.FnExactStarSync", spec := "fnExactStarSync", apart := false, narrowed := true }
def FnExactStarSyncUptoSaid : Prop := fnExactStarSyncUptoRow.holds Try.pinned (OpenSpec.upto fnExactStarSyncSpec)

/-- 'laws.FnExactKindOfText', WHERE WHAT IT READS IS OF BULK AT MOST 1048576: true; the input reads as it did. -/
def fnExactKindOfTextUptoRow : OpenClaim := { program := "ytgjmhihomklooaa", sum := "99bdb7e0025fd6a3aac9199350c04a43a2117d82319dd24c2abdbe28459527c7", func := "loop.example/g00927/laws.FnExactKindOfText", spec := "fnExactKindOfText", inPlace := ["internal/bytealg.IndexByteString", "internal/bytealg.IndexString"], named := ["internal/bytealg.MaxLen"], apart := false, narrowed := true }
def FnExactKindOfTextUptoSaid : Prop := fnExactKindOfTextUptoRow.holds Try.pinned (OpenSpec.upto fnExactKindOfTextSpec)

/-- 'laws.FnExactSameNotation', WHERE WHAT IT READS IS OF BULK AT MOST 1048576: true; the input reads as it did. -/
def fnExactSameNotationUptoRow : OpenClaim := { program := "ytgjmhihomklooaa", sum := "99bdb7e0025fd6a3aac9199350c04a43a2117d82319dd24c2abdbe28459527c7", func := "loop.example/g00927/laws.FnExactSameNotation", spec := "fnExactSameNotation", unfollowed := true, recurses := true, apart := false, narrowed := true }
def FnExactSameNotationUptoSaid : Prop := fnExactSameNotationUptoRow.holds Try.pinned (OpenSpec.upto fnExactSameNotationSpec)

end Rows
end Go.Proofs.Ytgjmhihomklooaa
