/-
  No cell of these rows narrows 'for every input' (looked for: loops, veiled, ifaces, maps, wideKeys, modest, calm, conditions, laid).
  DERIVED. THE GIVEN ROWS OF THIS SEAT. 12 by the template 'for every input the law returns true; each argument reads behind the call as it read before'; 0 by the template 'total and deterministic' (their statements: YtdnihapijlchlabTotals.lean).
  GIVEN WITH THE SEED: the statements are not yours to turn. If you find one false, say at which input.
  Laid BY PROGRAM, IN A SANDBOX (cutbox-rows.mjs): the forced cells as the released guide's own fill.sh prints them over the translation 204ae3966786618d… (all of the seat's roots in one cut). By AI agents, Wed Nov 11 2026. No macro, syntax, notation, axiom, sorry.
-/
import Derived.Test.YtdnihapijlchlabChecked
import GoSem.Claim
import GoSem.ClaimJoined
import GoSem.ClaimMapViews
import Derived.JoinedTies
import Derived.KernelRfl
namespace Go.Proofs.Ytdnihapijlchlab
/- THE CELL 'sum', in the pinned program and in every row, IS THE sha256 OF THE DUMP (.gsa) THAT YtdnihapijlchlabProg.lean LOADS. Nothing in Lean hashes anything: it is a label: what it is worth is what the hold of that sum in a sandbox is worth. -/
noncomputable def Try.pinned : Pinned := { name := "ytdnihapijlchlab", sum := "204ae3966786618d7c20ced3bf1ac1a1a40e5cf7b4d0b7a53a17550946d1f744", checked := Try.checked }
namespace Rows
def none {H : Type} : Left H := { results := [], args := [] }

/-- 'laws.FnExactReadPattern': WHATEVER THE INPUT: true; the input reads as it did. -/
def fnExactReadPatternSpec : ChangeSpec := { name := "fnExactReadPattern", fn := fun _ => fun
  | [d] => { results := [.lit (.bool true)], args := [d] }
  | _ => none }
def fnExactReadPatternRow : OpenClaim := { program := "ytdnihapijlchlab", sum := "204ae3966786618d7c20ced3bf1ac1a1a40e5cf7b4d0b7a53a17550946d1f744", func := "loop.example/g00927/laws.FnExactReadPattern", spec := "fnExactReadPattern", apart := false }
def FnExactReadPatternSaid : Prop := fnExactReadPatternRow.holds Try.pinned (OpenSpec.ofChange fnExactReadPatternSpec)

/-- ITS FALSE NEIGHBOUR: 'it returns false'. Refute it at one input. -/
def fnExactReadPatternWrong : ChangeSpec := { name := "fnExactReadPattern", fn := fun _ => fun
  | [d] => { results := [.lit (.bool false)], args := [d] }
  | _ => none }
def FnExactReadPatternWrongFalsely : Prop := fnExactReadPatternRow.holds Try.pinned (OpenSpec.ofChange fnExactReadPatternWrong)

/-- 'laws.FnExactRepeatPattern': WHATEVER THE INPUT: true; the input reads as it did. -/
def fnExactRepeatPatternSpec : ChangeSpec := { name := "fnExactRepeatPattern", fn := fun _ => fun
  | [d1, d2] => { results := [.lit (.bool true)], args := [d1, d2] }
  | _ => none }
def fnExactRepeatPatternRow : OpenClaim := { program := "ytdnihapijlchlab", sum := "204ae3966786618d7c20ced3bf1ac1a1a40e5cf7b4d0b7a53a17550946d1f744", func := "loop.example/g00927/laws.FnExactRepeatPattern", spec := "fnExactRepeatPattern", apart := false }
def FnExactRepeatPatternSaid : Prop := fnExactRepeatPatternRow.holds Try.pinned (OpenSpec.ofChange fnExactRepeatPatternSpec)

/-- ITS FALSE NEIGHBOUR: 'it returns false'. Refute it at one input. -/
def fnExactRepeatPatternWrong : ChangeSpec := { name := "fnExactRepeatPattern", fn := fun _ => fun
  | [d1, d2] => { results := [.lit (.bool false)], args := [d1, d2] }
  | _ => none }
def FnExactRepeatPatternWrongFalsely : Prop := fnExactRepeatPatternRow.holds Try.pinned (OpenSpec.ofChange fnExactRepeatPatternWrong)

/-- 'laws.FnExactReversePattern': WHATEVER THE INPUT: true; the input reads as it did. -/
def fnExactReversePatternSpec : ChangeSpec := { name := "fnExactReversePattern", fn := fun _ => fun
  | [d] => { results := [.lit (.bool true)], args := [d] }
  | _ => none }
def fnExactReversePatternRow : OpenClaim := { program := "ytdnihapijlchlab", sum := "204ae3966786618d7c20ced3bf1ac1a1a40e5cf7b4d0b7a53a17550946d1f744", func := "loop.example/g00927/laws.FnExactReversePattern", spec := "fnExactReversePattern", unfollowed := true, recurses := true, apart := false }
def FnExactReversePatternSaid : Prop := fnExactReversePatternRow.holds Try.pinned (OpenSpec.ofChange fnExactReversePatternSpec)

/-- ITS FALSE NEIGHBOUR: 'it returns false'. Refute it at one input. -/
def fnExactReversePatternWrong : ChangeSpec := { name := "fnExactReversePattern", fn := fun _ => fun
  | [d] => { results := [.lit (.bool false)], args := [d] }
  | _ => none }
def FnExactReversePatternWrongFalsely : Prop := fnExactReversePatternRow.holds Try.pinned (OpenSpec.ofChange fnExactReversePatternWrong)

/-- 'laws.FnExactRootPattern': WHATEVER THE INPUT: true; the input reads as it did. -/
def fnExactRootPatternSpec : ChangeSpec := { name := "fnExactRootPattern", fn := fun _ => fun
  | [d] => { results := [.lit (.bool true)], args := [d] }
  | _ => none }
def fnExactRootPatternRow : OpenClaim := { program := "ytdnihapijlchlab", sum := "204ae3966786618d7c20ced3bf1ac1a1a40e5cf7b4d0b7a53a17550946d1f744", func := "loop.example/g00927/laws.FnExactRootPattern", spec := "fnExactRootPattern", unfollowed := true, recurses := true, apart := false }
def FnExactRootPatternSaid : Prop := fnExactRootPatternRow.holds Try.pinned (OpenSpec.ofChange fnExactRootPatternSpec)

/-- ITS FALSE NEIGHBOUR: 'it returns false'. Refute it at one input. -/
def fnExactRootPatternWrong : ChangeSpec := { name := "fnExactRootPattern", fn := fun _ => fun
  | [d] => { results := [.lit (.bool false)], args := [d] }
  | _ => none }
def FnExactRootPatternWrongFalsely : Prop := fnExactRootPatternRow.holds Try.pinned (OpenSpec.ofChange fnExactRootPatternWrong)

/-- 'laws.FnExactRotatePattern': WHATEVER THE INPUT: true; the input reads as it did. -/
def fnExactRotatePatternSpec : ChangeSpec := { name := "fnExactRotatePattern", fn := fun _ => fun
  | [d1, d2] => { results := [.lit (.bool true)], args := [d1, d2] }
  | _ => none }
def fnExactRotatePatternRow : OpenClaim := { program := "ytdnihapijlchlab", sum := "204ae3966786618d7c20ced3bf1ac1a1a40e5cf7b4d0b7a53a17550946d1f744", func := "loop.example/g00927/laws.FnExactRotatePattern", spec := "fnExactRotatePattern", apart := false }
def FnExactRotatePatternSaid : Prop := fnExactRotatePatternRow.holds Try.pinned (OpenSpec.ofChange fnExactRotatePatternSpec)

/-- ITS FALSE NEIGHBOUR: 'it returns false'. Refute it at one input. -/
def fnExactRotatePatternWrong : ChangeSpec := { name := "fnExactRotatePattern", fn := fun _ => fun
  | [d1, d2] => { results := [.lit (.bool false)], args := [d1, d2] }
  | _ => none }
def FnExactRotatePatternWrongFalsely : Prop := fnExactRotatePatternRow.holds Try.pinned (OpenSpec.ofChange fnExactRotatePatternWrong)

/-- 'laws.FnExactShiftThrows': WHATEVER THE INPUT: true; the input reads as it did. -/
def fnExactShiftThrowsSpec : ChangeSpec := { name := "fnExactShiftThrows", fn := fun _ => fun
  | [d1, d2] => { results := [.lit (.bool true)], args := [d1, d2] }
  | _ => none }
def fnExactShiftThrowsRow : OpenClaim := { program := "ytdnihapijlchlab", sum := "204ae3966786618d7c20ced3bf1ac1a1a40e5cf7b4d0b7a53a17550946d1f744", func := "loop.example/g00927/laws.FnExactShiftThrows", spec := "fnExactShiftThrows", apart := false }
def FnExactShiftThrowsSaid : Prop := fnExactShiftThrowsRow.holds Try.pinned (OpenSpec.ofChange fnExactShiftThrowsSpec)

/-- ITS FALSE NEIGHBOUR: 'it returns false'. Refute it at one input. -/
def fnExactShiftThrowsWrong : ChangeSpec := { name := "fnExactShiftThrows", fn := fun _ => fun
  | [d1, d2] => { results := [.lit (.bool false)], args := [d1, d2] }
  | _ => none }
def FnExactShiftThrowsWrongFalsely : Prop := fnExactShiftThrowsRow.holds Try.pinned (OpenSpec.ofChange fnExactShiftThrowsWrong)

/-- 'laws.FnExactSwapLandings': WHATEVER THE INPUT: true; the input reads as it did. -/
def fnExactSwapLandingsSpec : ChangeSpec := { name := "fnExactSwapLandings", fn := fun _ => fun
  | [d1, d2, d3] => { results := [.lit (.bool true)], args := [d1, d2, d3] }
  | _ => none }
def fnExactSwapLandingsRow : OpenClaim := { program := "ytdnihapijlchlab", sum := "204ae3966786618d7c20ced3bf1ac1a1a40e5cf7b4d0b7a53a17550946d1f744", func := "loop.example/g00927/laws.FnExactSwapLandings", spec := "fnExactSwapLandings", apart := false }
def FnExactSwapLandingsSaid : Prop := fnExactSwapLandingsRow.holds Try.pinned (OpenSpec.ofChange fnExactSwapLandingsSpec)

/-- ITS FALSE NEIGHBOUR: 'it returns false'. Refute it at one input. -/
def fnExactSwapLandingsWrong : ChangeSpec := { name := "fnExactSwapLandings", fn := fun _ => fun
  | [d1, d2, d3] => { results := [.lit (.bool false)], args := [d1, d2, d3] }
  | _ => none }
def FnExactSwapLandingsWrongFalsely : Prop := fnExactSwapLandingsRow.holds Try.pinned (OpenSpec.ofChange fnExactSwapLandingsWrong)

/-- 'laws.FnExactThrowAt': WHATEVER THE INPUT: true; the input reads as it did. -/
def fnExactThrowAtSpec : ChangeSpec := { name := "fnExactThrowAt", fn := fun _ => fun
  | [d1, d2] => { results := [.lit (.bool true)], args := [d1, d2] }
  | _ => none }
def fnExactThrowAtRow : OpenClaim := { program := "ytdnihapijlchlab", sum := "204ae3966786618d7c20ced3bf1ac1a1a40e5cf7b4d0b7a53a17550946d1f744", func := "loop.example/g00927/laws.FnExactThrowAt", spec := "fnExactThrowAt", apart := false }
def FnExactThrowAtSaid : Prop := fnExactThrowAtRow.holds Try.pinned (OpenSpec.ofChange fnExactThrowAtSpec)

/-- ITS FALSE NEIGHBOUR: 'it returns false'. Refute it at one input. -/
def fnExactThrowAtWrong : ChangeSpec := { name := "fnExactThrowAt", fn := fun _ => fun
  | [d1, d2] => { results := [.lit (.bool false)], args := [d1, d2] }
  | _ => none }
def FnExactThrowAtWrongFalsely : Prop := fnExactThrowAtRow.holds Try.pinned (OpenSpec.ofChange fnExactThrowAtWrong)

/-- 'laws.FnExactValidPattern': WHATEVER THE INPUT: true; the input reads as it did. -/
def fnExactValidPatternSpec : ChangeSpec := { name := "fnExactValidPattern", fn := fun _ => fun
  | [d] => { results := [.lit (.bool true)], args := [d] }
  | _ => none }
def fnExactValidPatternRow : OpenClaim := { program := "ytdnihapijlchlab", sum := "204ae3966786618d7c20ced3bf1ac1a1a40e5cf7b4d0b7a53a17550946d1f744", func := "loop.example/g00927/laws.FnExactValidPattern", spec := "fnExactValidPattern", apart := false }
def FnExactValidPatternSaid : Prop := fnExactValidPatternRow.holds Try.pinned (OpenSpec.ofChange fnExactValidPatternSpec)

/-- ITS FALSE NEIGHBOUR: 'it returns false'. Refute it at one input. -/
def fnExactValidPatternWrong : ChangeSpec := { name := "fnExactValidPattern", fn := fun _ => fun
  | [d] => { results := [.lit (.bool false)], args := [d] }
  | _ => none }
def FnExactValidPatternWrongFalsely : Prop := fnExactValidPatternRow.holds Try.pinned (OpenSpec.ofChange fnExactValidPatternWrong)

/-- 'laws.FnPatterns': WHATEVER THE INPUT: true; the input reads as it did. -/
def fnPatternsSpec : ChangeSpec := { name := "fnPatterns", fn := fun _ => fun
  | [d1, d2] => { results := [.lit (.bool true)], args := [d1, d2] }
  | _ => none }
def fnPatternsRow : OpenClaim := { program := "ytdnihapijlchlab", sum := "204ae3966786618d7c20ced3bf1ac1a1a40e5cf7b4d0b7a53a17550946d1f744", func := "loop.example/g00927/laws.FnPatterns", spec := "fnPatterns", inPlace := ["internal/abi.NoEscape"], apart := false }
def FnPatternsSaid : Prop := fnPatternsRow.holds Try.pinned (OpenSpec.ofChange fnPatternsSpec)

/-- ITS FALSE NEIGHBOUR: 'it returns false'. Refute it at one input. -/
def fnPatternsWrong : ChangeSpec := { name := "fnPatterns", fn := fun _ => fun
  | [d1, d2] => { results := [.lit (.bool false)], args := [d1, d2] }
  | _ => none }
def FnPatternsWrongFalsely : Prop := fnPatternsRow.holds Try.pinned (OpenSpec.ofChange fnPatternsWrong)

/-- 'laws.FnRaised': WHATEVER THE INPUT: true; the input reads as it did. -/
def fnRaisedSpec : ChangeSpec := { name := "fnRaised", fn := fun _ => fun
  | [d1, d2] => { results := [.lit (.bool true)], args := [d1, d2] }
  | _ => none }
def fnRaisedRow : OpenClaim := { program := "ytdnihapijlchlab", sum := "204ae3966786618d7c20ced3bf1ac1a1a40e5cf7b4d0b7a53a17550946d1f744", func := "loop.example/g00927/laws.FnRaised", spec := "fnRaised", apart := false }
def FnRaisedSaid : Prop := fnRaisedRow.holds Try.pinned (OpenSpec.ofChange fnRaisedSpec)

/-- ITS FALSE NEIGHBOUR: 'it returns false'. Refute it at one input. -/
def fnRaisedWrong : ChangeSpec := { name := "fnRaised", fn := fun _ => fun
  | [d1, d2] => { results := [.lit (.bool false)], args := [d1, d2] }
  | _ => none }
def FnRaisedWrongFalsely : Prop := fnRaisedRow.holds Try.pinned (OpenSpec.ofChange fnRaisedWrong)

/-- 'laws.FnTurns': WHATEVER THE INPUT: true; the input reads as it did. -/
def fnTurnsSpec : ChangeSpec := { name := "fnTurns", fn := fun _ => fun
  | [d1, d2] => { results := [.lit (.bool true)], args := [d1, d2] }
  | _ => none }
def fnTurnsRow : OpenClaim := { program := "ytdnihapijlchlab", sum := "204ae3966786618d7c20ced3bf1ac1a1a40e5cf7b4d0b7a53a17550946d1f744", func := "loop.example/g00927/laws.FnTurns", spec := "fnTurns", unfollowed := true, recurses := true, apart := false }
def FnTurnsSaid : Prop := fnTurnsRow.holds Try.pinned (OpenSpec.ofChange fnTurnsSpec)

/-- ITS FALSE NEIGHBOUR: 'it returns false'. Refute it at one input. -/
def fnTurnsWrong : ChangeSpec := { name := "fnTurns", fn := fun _ => fun
  | [d1, d2] => { results := [.lit (.bool false)], args := [d1, d2] }
  | _ => none }
def FnTurnsWrongFalsely : Prop := fnTurnsRow.holds Try.pinned (OpenSpec.ofChange fnTurnsWrong)

/- THE SECOND FORM. 'bulk': how many values and letters a reading holds, each counted each time it is reached (what is shared counts as often as it is met; a slice's spare places count too). A statement '..UptoSaid' is the law's where the arguments, and the package variables that the reading takes, are together of bulk at most 1048576: NARROWER than '..Said'. Prove '..Said' where nothing that the law and all that it calls make is longer than what came in: it says more and counts as full. Else prove '..UptoSaid'. A law counts once. -/
mutual
def uptoBulk {H : Type} : DataW H → Nat
  | .lit (.string bytes) => bytes.length + 1
  | .lit _ => 1
  | .nil => 1
  | .ptr d => uptoBulk d + 1
  | .slice elems spare => uptoBulkAll elems + uptoBulkAll spare + 1
  | .agg parts => uptoBulkAll parts + 1
  | .iface _ d => uptoBulk d + 1
  | .map entries => uptoBulkEntries entries + 1
  | .held _ => 1
def uptoBulkAll {H : Type} : List (DataW H) → Nat
  | [] => 0
  | d :: r => uptoBulk d + uptoBulkAll r
def uptoBulkEntries {H : Type} : List (Lit × DataW H) → Nat
  | [] => 0
  | x :: r => uptoBulkEntry x + uptoBulkEntries r
def uptoBulkEntry {H : Type} : Lit × DataW H → Nat
  | (.string bytes, d) => bytes.length + uptoBulk d + 1
  | (_, d) => uptoBulk d + 1
 end
def uptoSmall : (H : Type) → List (DataW H) → Bool := fun _ ds => decide (uptoBulkAll ds ≤ 1048576)
def OpenSpec.upto (s : _root_.Go.ChangeSpec) : _root_.Go.OpenSpec := { _root_.Go.OpenSpec.ofChange s with cond := some uptoSmall }

/-- 'laws.FnExactReadPattern', WHERE WHAT IT READS IS OF BULK AT MOST 1048576: true; the input reads as it did. -/
def fnExactReadPatternUptoRow : OpenClaim := { program := "ytdnihapijlchlab", sum := "204ae3966786618d7c20ced3bf1ac1a1a40e5cf7b4d0b7a53a17550946d1f744", func := "loop.example/g00927/laws.FnExactReadPattern", spec := "fnExactReadPattern", apart := false, narrowed := true }
def FnExactReadPatternUptoSaid : Prop := fnExactReadPatternUptoRow.holds Try.pinned (OpenSpec.upto fnExactReadPatternSpec)

/-- 'laws.FnExactRepeatPattern', WHERE WHAT IT READS IS OF BULK AT MOST 1048576: true; the input reads as it did. -/
def fnExactRepeatPatternUptoRow : OpenClaim := { program := "ytdnihapijlchlab", sum := "204ae3966786618d7c20ced3bf1ac1a1a40e5cf7b4d0b7a53a17550946d1f744", func := "loop.example/g00927/laws.FnExactRepeatPattern", spec := "fnExactRepeatPattern", apart := false, narrowed := true }
def FnExactRepeatPatternUptoSaid : Prop := fnExactRepeatPatternUptoRow.holds Try.pinned (OpenSpec.upto fnExactRepeatPatternSpec)

/-- 'laws.FnExactReversePattern', WHERE WHAT IT READS IS OF BULK AT MOST 1048576: true; the input reads as it did. -/
def fnExactReversePatternUptoRow : OpenClaim := { program := "ytdnihapijlchlab", sum := "204ae3966786618d7c20ced3bf1ac1a1a40e5cf7b4d0b7a53a17550946d1f744", func := "loop.example/g00927/laws.FnExactReversePattern", spec := "fnExactReversePattern", unfollowed := true, recurses := true, apart := false, narrowed := true }
def FnExactReversePatternUptoSaid : Prop := fnExactReversePatternUptoRow.holds Try.pinned (OpenSpec.upto fnExactReversePatternSpec)

/-- 'laws.FnExactRootPattern', WHERE WHAT IT READS IS OF BULK AT MOST 1048576: true; the input reads as it did. -/
def fnExactRootPatternUptoRow : OpenClaim := { program := "ytdnihapijlchlab", sum := "204ae3966786618d7c20ced3bf1ac1a1a40e5cf7b4d0b7a53a17550946d1f744", func := "loop.example/g00927/laws.FnExactRootPattern", spec := "fnExactRootPattern", unfollowed := true, recurses := true, apart := false, narrowed := true }
def FnExactRootPatternUptoSaid : Prop := fnExactRootPatternUptoRow.holds Try.pinned (OpenSpec.upto fnExactRootPatternSpec)

/-- 'laws.FnExactRotatePattern', WHERE WHAT IT READS IS OF BULK AT MOST 1048576: true; the input reads as it did. -/
def fnExactRotatePatternUptoRow : OpenClaim := { program := "ytdnihapijlchlab", sum := "204ae3966786618d7c20ced3bf1ac1a1a40e5cf7b4d0b7a53a17550946d1f744", func := "loop.example/g00927/laws.FnExactRotatePattern", spec := "fnExactRotatePattern", apart := false, narrowed := true }
def FnExactRotatePatternUptoSaid : Prop := fnExactRotatePatternUptoRow.holds Try.pinned (OpenSpec.upto fnExactRotatePatternSpec)

/-- 'laws.FnExactShiftThrows', WHERE WHAT IT READS IS OF BULK AT MOST 1048576: true; the input reads as it did. -/
def fnExactShiftThrowsUptoRow : OpenClaim := { program := "ytdnihapijlchlab", sum := "204ae3966786618d7c20ced3bf1ac1a1a40e5cf7b4d0b7a53a17550946d1f744", func := "loop.example/g00927/laws.FnExactShiftThrows", spec := "fnExactShiftThrows", apart := false, narrowed := true }
def FnExactShiftThrowsUptoSaid : Prop := fnExactShiftThrowsUptoRow.holds Try.pinned (OpenSpec.upto fnExactShiftThrowsSpec)

/-- 'laws.FnExactSwapLandings', WHERE WHAT IT READS IS OF BULK AT MOST 1048576: true; the input reads as it did. -/
def fnExactSwapLandingsUptoRow : OpenClaim := { program := "ytdnihapijlchlab", sum := "204ae3966786618d7c20ced3bf1ac1a1a40e5cf7b4d0b7a53a17550946d1f744", func := "loop.example/g00927/laws.FnExactSwapLandings", spec := "fnExactSwapLandings", apart := false, narrowed := true }
def FnExactSwapLandingsUptoSaid : Prop := fnExactSwapLandingsUptoRow.holds Try.pinned (OpenSpec.upto fnExactSwapLandingsSpec)

/-- 'laws.FnExactThrowAt', WHERE WHAT IT READS IS OF BULK AT MOST 1048576: true; the input reads as it did. -/
def fnExactThrowAtUptoRow : OpenClaim := { program := "ytdnihapijlchlab", sum := "204ae3966786618d7c20ced3bf1ac1a1a40e5cf7b4d0b7a53a17550946d1f744", func := "loop.example/g00927/laws.FnExactThrowAt", spec := "fnExactThrowAt", apart := false, narrowed := true }
def FnExactThrowAtUptoSaid : Prop := fnExactThrowAtUptoRow.holds Try.pinned (OpenSpec.upto fnExactThrowAtSpec)

/-- 'laws.FnExactValidPattern', WHERE WHAT IT READS IS OF BULK AT MOST 1048576: true; the input reads as it did. -/
def fnExactValidPatternUptoRow : OpenClaim := { program := "ytdnihapijlchlab", sum := "204ae3966786618d7c20ced3bf1ac1a1a40e5cf7b4d0b7a53a17550946d1f744", func := "loop.example/g00927/laws.FnExactValidPattern", spec := "fnExactValidPattern", apart := false, narrowed := true }
def FnExactValidPatternUptoSaid : Prop := fnExactValidPatternUptoRow.holds Try.pinned (OpenSpec.upto fnExactValidPatternSpec)

/-- 'laws.FnPatterns', WHERE WHAT IT READS IS OF BULK AT MOST 1048576: true; the input reads as it did. -/
def fnPatternsUptoRow : OpenClaim := { program := "ytdnihapijlchlab", sum := "204ae3966786618d7c20ced3bf1ac1a1a40e5cf7b4d0b7a53a17550946d1f744", func := "loop.example/g00927/laws.FnPatterns", spec := "fnPatterns", inPlace := ["internal/abi.NoEscape"], apart := false, narrowed := true }
def FnPatternsUptoSaid : Prop := fnPatternsUptoRow.holds Try.pinned (OpenSpec.upto fnPatternsSpec)

/-- 'laws.FnRaised', WHERE WHAT IT READS IS OF BULK AT MOST 1048576: true; the input reads as it did. -/
def fnRaisedUptoRow : OpenClaim := { program := "ytdnihapijlchlab", sum := "204ae3966786618d7c20ced3bf1ac1a1a40e5cf7b4d0b7a53a17550946d1f744", func := "loop.example/g00927/laws.FnRaised", spec := "fnRaised", apart := false, narrowed := true }
def FnRaisedUptoSaid : Prop := fnRaisedUptoRow.holds Try.pinned (OpenSpec.upto fnRaisedSpec)

/-- 'laws.FnTurns', WHERE WHAT IT READS IS OF BULK AT MOST 1048576: true; the input reads as it did. -/
def fnTurnsUptoRow : OpenClaim := { program := "ytdnihapijlchlab", sum := "204ae3966786618d7c20ced3bf1ac1a1a40e5cf7b4d0b7a53a17550946d1f744", func := "loop.example/g00927/laws.FnTurns", spec := "fnTurns", unfollowed := true, recurses := true, apart := false, narrowed := true }
def FnTurnsUptoSaid : Prop := fnTurnsUptoRow.holds Try.pinned (OpenSpec.upto fnTurnsSpec)

end Rows
end Go.Proofs.Ytdnihapijlchlab
