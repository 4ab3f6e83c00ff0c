/-
  No cell of these rows narrows 'for every input' (looked for: loops, veiled, ifaces, maps, wideKeys, modest, calm, conditions, laid).
  DERIVED. THE GIVEN ROWS OF THIS SEAT. 15 by the template 'for every input the law returns true; each argument reads behind the call as it read before'; 0 by the template 'total and deterministic' (their statements: YtebgahdioidhbaaTotals.lean).
  GIVEN WITH THE SEED: the statements are not yours to turn. If you find one false, say at which input.
  Laid BY PROGRAM, IN A SANDBOX (cutbox-rows.mjs): the forced cells as the released guide's own fill.sh prints them over the translation db5e1e0f44f089e6… (all of the seat's roots in one cut). By AI agents, Wed Nov 11 2026. No macro, syntax, notation, axiom, sorry.
-/
import Derived.Test.YtebgahdioidhbaaChecked
import GoSem.Claim
import GoSem.ClaimJoined
import GoSem.ClaimMapViews
import Derived.JoinedTies
import Derived.KernelRfl
namespace Go.Proofs.Ytebgahdioidhbaa
/- THE CELL 'sum', in the pinned program and in every row, IS THE sha256 OF THE DUMP (.gsa) THAT YtebgahdioidhbaaProg.lean LOADS. Nothing in Lean hashes anything: it is a label: what it is worth is what the hold of that sum in a sandbox is worth. -/
noncomputable def Try.pinned : Pinned := { name := "ytebgahdioidhbaa", sum := "db5e1e0f44f089e6e79f996d35f1de6e72898bc27d0825088b0e0023d4ebf0ca", checked := Try.checked }
namespace Rows
def none {H : Type} : Left H := { results := [], args := [] }

/-- 'laws.FnPatterns': WHATEVER THE INPUT: true; the input reads as it did. -/
def fnPatternsSpec : ChangeSpec := { name := "fnPatterns", fn := fun _ => fun
  | [d1, d2] => { results := [.lit (.bool true)], args := [d1, d2] }
  | _ => none }
def fnPatternsRow : OpenClaim := { program := "ytebgahdioidhbaa", sum := "db5e1e0f44f089e6e79f996d35f1de6e72898bc27d0825088b0e0023d4ebf0ca", func := "loop.example/g00927/laws.FnPatterns", spec := "fnPatterns", inPlace := ["internal/abi.NoEscape"], apart := false }
def FnPatternsSaid : Prop := fnPatternsRow.holds Try.pinned (OpenSpec.ofChange fnPatternsSpec)

/-- ITS FALSE NEIGHBOUR: 'it returns false'. Refute it at one input. -/
def fnPatternsWrong : ChangeSpec := { name := "fnPatterns", fn := fun _ => fun
  | [d1, d2] => { results := [.lit (.bool false)], args := [d1, d2] }
  | _ => none }
def FnPatternsWrongFalsely : Prop := fnPatternsRow.holds Try.pinned (OpenSpec.ofChange fnPatternsWrong)

/-- 'laws.FnTurns': WHATEVER THE INPUT: true; the input reads as it did. -/
def fnTurnsSpec : ChangeSpec := { name := "fnTurns", fn := fun _ => fun
  | [d1, d2] => { results := [.lit (.bool true)], args := [d1, d2] }
  | _ => none }
def fnTurnsRow : OpenClaim := { program := "ytebgahdioidhbaa", sum := "db5e1e0f44f089e6e79f996d35f1de6e72898bc27d0825088b0e0023d4ebf0ca", func := "loop.example/g00927/laws.FnTurns", spec := "fnTurns", unfollowed := true, recurses := true, apart := false }
def FnTurnsSaid : Prop := fnTurnsRow.holds Try.pinned (OpenSpec.ofChange fnTurnsSpec)

/-- ITS FALSE NEIGHBOUR: 'it returns false'. Refute it at one input. -/
def fnTurnsWrong : ChangeSpec := { name := "fnTurns", fn := fun _ => fun
  | [d1, d2] => { results := [.lit (.bool false)], args := [d1, d2] }
  | _ => none }
def FnTurnsWrongFalsely : Prop := fnTurnsRow.holds Try.pinned (OpenSpec.ofChange fnTurnsWrong)

/-- 'laws.FnRaised': WHATEVER THE INPUT: true; the input reads as it did. -/
def fnRaisedSpec : ChangeSpec := { name := "fnRaised", fn := fun _ => fun
  | [d1, d2] => { results := [.lit (.bool true)], args := [d1, d2] }
  | _ => none }
def fnRaisedRow : OpenClaim := { program := "ytebgahdioidhbaa", sum := "db5e1e0f44f089e6e79f996d35f1de6e72898bc27d0825088b0e0023d4ebf0ca", func := "loop.example/g00927/laws.FnRaised", spec := "fnRaised", apart := false }
def FnRaisedSaid : Prop := fnRaisedRow.holds Try.pinned (OpenSpec.ofChange fnRaisedSpec)

/-- ITS FALSE NEIGHBOUR: 'it returns false'. Refute it at one input. -/
def fnRaisedWrong : ChangeSpec := { name := "fnRaised", fn := fun _ => fun
  | [d1, d2] => { results := [.lit (.bool false)], args := [d1, d2] }
  | _ => none }
def FnRaisedWrongFalsely : Prop := fnRaisedRow.holds Try.pinned (OpenSpec.ofChange fnRaisedWrong)

/-- 'laws.FnCanons': WHATEVER THE INPUT: true; the input reads as it did. -/
def fnCanonsSpec : ChangeSpec := { name := "fnCanons", fn := fun _ => fun
  | [d1, d2] => { results := [.lit (.bool true)], args := [d1, d2] }
  | _ => none }
def fnCanonsRow : OpenClaim := { program := "ytebgahdioidhbaa", sum := "db5e1e0f44f089e6e79f996d35f1de6e72898bc27d0825088b0e0023d4ebf0ca", func := "loop.example/g00927/laws.FnCanons", spec := "fnCanons", unfollowed := true, recurses := true, apart := false }
def FnCanonsSaid : Prop := fnCanonsRow.holds Try.pinned (OpenSpec.ofChange fnCanonsSpec)

/-- ITS FALSE NEIGHBOUR: 'it returns false'. Refute it at one input. -/
def fnCanonsWrong : ChangeSpec := { name := "fnCanons", fn := fun _ => fun
  | [d1, d2] => { results := [.lit (.bool false)], args := [d1, d2] }
  | _ => none }
def FnCanonsWrongFalsely : Prop := fnCanonsRow.holds Try.pinned (OpenSpec.ofChange fnCanonsWrong)

/-- 'laws.FnExactRotatePattern': WHATEVER THE INPUT: true; the input reads as it did. -/
def fnExactRotatePatternSpec : ChangeSpec := { name := "fnExactRotatePattern", fn := fun _ => fun
  | [d1, d2] => { results := [.lit (.bool true)], args := [d1, d2] }
  | _ => none }
def fnExactRotatePatternRow : OpenClaim := { program := "ytebgahdioidhbaa", sum := "db5e1e0f44f089e6e79f996d35f1de6e72898bc27d0825088b0e0023d4ebf0ca", func := "loop.example/g00927/laws.FnExactRotatePattern", spec := "fnExactRotatePattern", apart := false }
def FnExactRotatePatternSaid : Prop := fnExactRotatePatternRow.holds Try.pinned (OpenSpec.ofChange fnExactRotatePatternSpec)

/-- ITS FALSE NEIGHBOUR: 'it returns false'. Refute it at one input. -/
def fnExactRotatePatternWrong : ChangeSpec := { name := "fnExactRotatePattern", fn := fun _ => fun
  | [d1, d2] => { results := [.lit (.bool false)], args := [d1, d2] }
  | _ => none }
def FnExactRotatePatternWrongFalsely : Prop := fnExactRotatePatternRow.holds Try.pinned (OpenSpec.ofChange fnExactRotatePatternWrong)

/-- 'laws.FnExactReversePattern': WHATEVER THE INPUT: true; the input reads as it did. -/
def fnExactReversePatternSpec : ChangeSpec := { name := "fnExactReversePattern", fn := fun _ => fun
  | [d] => { results := [.lit (.bool true)], args := [d] }
  | _ => none }
def fnExactReversePatternRow : OpenClaim := { program := "ytebgahdioidhbaa", sum := "db5e1e0f44f089e6e79f996d35f1de6e72898bc27d0825088b0e0023d4ebf0ca", func := "loop.example/g00927/laws.FnExactReversePattern", spec := "fnExactReversePattern", unfollowed := true, recurses := true, apart := false }
def FnExactReversePatternSaid : Prop := fnExactReversePatternRow.holds Try.pinned (OpenSpec.ofChange fnExactReversePatternSpec)

/-- ITS FALSE NEIGHBOUR: 'it returns false'. Refute it at one input. -/
def fnExactReversePatternWrong : ChangeSpec := { name := "fnExactReversePattern", fn := fun _ => fun
  | [d] => { results := [.lit (.bool false)], args := [d] }
  | _ => none }
def FnExactReversePatternWrongFalsely : Prop := fnExactReversePatternRow.holds Try.pinned (OpenSpec.ofChange fnExactReversePatternWrong)

/-- 'laws.FnExactSwapLandings': WHATEVER THE INPUT: true; the input reads as it did. -/
def fnExactSwapLandingsSpec : ChangeSpec := { name := "fnExactSwapLandings", fn := fun _ => fun
  | [d1, d2, d3] => { results := [.lit (.bool true)], args := [d1, d2, d3] }
  | _ => none }
def fnExactSwapLandingsRow : OpenClaim := { program := "ytebgahdioidhbaa", sum := "db5e1e0f44f089e6e79f996d35f1de6e72898bc27d0825088b0e0023d4ebf0ca", func := "loop.example/g00927/laws.FnExactSwapLandings", spec := "fnExactSwapLandings", apart := false }
def FnExactSwapLandingsSaid : Prop := fnExactSwapLandingsRow.holds Try.pinned (OpenSpec.ofChange fnExactSwapLandingsSpec)

/-- ITS FALSE NEIGHBOUR: 'it returns false'. Refute it at one input. -/
def fnExactSwapLandingsWrong : ChangeSpec := { name := "fnExactSwapLandings", fn := fun _ => fun
  | [d1, d2, d3] => { results := [.lit (.bool false)], args := [d1, d2, d3] }
  | _ => none }
def FnExactSwapLandingsWrongFalsely : Prop := fnExactSwapLandingsRow.holds Try.pinned (OpenSpec.ofChange fnExactSwapLandingsWrong)

/-- 'laws.FnExactRaiseThrow': WHATEVER THE INPUT: true; the input reads as it did. -/
def fnExactRaiseThrowSpec : ChangeSpec := { name := "fnExactRaiseThrow", fn := fun _ => fun
  | [d1, d2] => { results := [.lit (.bool true)], args := [d1, d2] }
  | _ => none }
def fnExactRaiseThrowRow : OpenClaim := { program := "ytebgahdioidhbaa", sum := "db5e1e0f44f089e6e79f996d35f1de6e72898bc27d0825088b0e0023d4ebf0ca", func := "loop.example/g00927/laws.FnExactRaiseThrow", spec := "fnExactRaiseThrow", apart := false }
def FnExactRaiseThrowSaid : Prop := fnExactRaiseThrowRow.holds Try.pinned (OpenSpec.ofChange fnExactRaiseThrowSpec)

/-- ITS FALSE NEIGHBOUR: 'it returns false'. Refute it at one input. -/
def fnExactRaiseThrowWrong : ChangeSpec := { name := "fnExactRaiseThrow", fn := fun _ => fun
  | [d1, d2] => { results := [.lit (.bool false)], args := [d1, d2] }
  | _ => none }
def FnExactRaiseThrowWrongFalsely : Prop := fnExactRaiseThrowRow.holds Try.pinned (OpenSpec.ofChange fnExactRaiseThrowWrong)

/-- 'laws.FnExactShiftThrows': WHATEVER THE INPUT: true; the input reads as it did. -/
def fnExactShiftThrowsSpec : ChangeSpec := { name := "fnExactShiftThrows", fn := fun _ => fun
  | [d1, d2] => { results := [.lit (.bool true)], args := [d1, d2] }
  | _ => none }
def fnExactShiftThrowsRow : OpenClaim := { program := "ytebgahdioidhbaa", sum := "db5e1e0f44f089e6e79f996d35f1de6e72898bc27d0825088b0e0023d4ebf0ca", func := "loop.example/g00927/laws.FnExactShiftThrows", spec := "fnExactShiftThrows", apart := false }
def FnExactShiftThrowsSaid : Prop := fnExactShiftThrowsRow.holds Try.pinned (OpenSpec.ofChange fnExactShiftThrowsSpec)

/-- ITS FALSE NEIGHBOUR: 'it returns false'. Refute it at one input. -/
def fnExactShiftThrowsWrong : ChangeSpec := { name := "fnExactShiftThrows", fn := fun _ => fun
  | [d1, d2] => { results := [.lit (.bool false)], args := [d1, d2] }
  | _ => none }
def FnExactShiftThrowsWrongFalsely : Prop := fnExactShiftThrowsRow.holds Try.pinned (OpenSpec.ofChange fnExactShiftThrowsWrong)

/-- 'laws.FnExactDualPattern': WHATEVER THE INPUT: true; the input reads as it did. -/
def fnExactDualPatternSpec : ChangeSpec := { name := "fnExactDualPattern", fn := fun _ => fun
  | [d1, d2] => { results := [.lit (.bool true)], args := [d1, d2] }
  | _ => none }
def fnExactDualPatternRow : OpenClaim := { program := "ytebgahdioidhbaa", sum := "db5e1e0f44f089e6e79f996d35f1de6e72898bc27d0825088b0e0023d4ebf0ca", func := "loop.example/g00927/laws.FnExactDualPattern", spec := "fnExactDualPattern", apart := false }
def FnExactDualPatternSaid : Prop := fnExactDualPatternRow.holds Try.pinned (OpenSpec.ofChange fnExactDualPatternSpec)

/-- ITS FALSE NEIGHBOUR: 'it returns false'. Refute it at one input. -/
def fnExactDualPatternWrong : ChangeSpec := { name := "fnExactDualPattern", fn := fun _ => fun
  | [d1, d2] => { results := [.lit (.bool false)], args := [d1, d2] }
  | _ => none }
def FnExactDualPatternWrongFalsely : Prop := fnExactDualPatternRow.holds Try.pinned (OpenSpec.ofChange fnExactDualPatternWrong)

/-- 'laws.FnExactRepeatPattern': WHATEVER THE INPUT: true; the input reads as it did. -/
def fnExactRepeatPatternSpec : ChangeSpec := { name := "fnExactRepeatPattern", fn := fun _ => fun
  | [d1, d2] => { results := [.lit (.bool true)], args := [d1, d2] }
  | _ => none }
def fnExactRepeatPatternRow : OpenClaim := { program := "ytebgahdioidhbaa", sum := "db5e1e0f44f089e6e79f996d35f1de6e72898bc27d0825088b0e0023d4ebf0ca", func := "loop.example/g00927/laws.FnExactRepeatPattern", spec := "fnExactRepeatPattern", apart := false }
def FnExactRepeatPatternSaid : Prop := fnExactRepeatPatternRow.holds Try.pinned (OpenSpec.ofChange fnExactRepeatPatternSpec)

/-- ITS FALSE NEIGHBOUR: 'it returns false'. Refute it at one input. -/
def fnExactRepeatPatternWrong : ChangeSpec := { name := "fnExactRepeatPattern", fn := fun _ => fun
  | [d1, d2] => { results := [.lit (.bool false)], args := [d1, d2] }
  | _ => none }
def FnExactRepeatPatternWrongFalsely : Prop := fnExactRepeatPatternRow.holds Try.pinned (OpenSpec.ofChange fnExactRepeatPatternWrong)

/-- 'laws.FnExactRootPattern': WHATEVER THE INPUT: true; the input reads as it did. -/
def fnExactRootPatternSpec : ChangeSpec := { name := "fnExactRootPattern", fn := fun _ => fun
  | [d] => { results := [.lit (.bool true)], args := [d] }
  | _ => none }
def fnExactRootPatternRow : OpenClaim := { program := "ytebgahdioidhbaa", sum := "db5e1e0f44f089e6e79f996d35f1de6e72898bc27d0825088b0e0023d4ebf0ca", func := "loop.example/g00927/laws.FnExactRootPattern", spec := "fnExactRootPattern", unfollowed := true, recurses := true, apart := false }
def FnExactRootPatternSaid : Prop := fnExactRootPatternRow.holds Try.pinned (OpenSpec.ofChange fnExactRootPatternSpec)

/-- ITS FALSE NEIGHBOUR: 'it returns false'. Refute it at one input. -/
def fnExactRootPatternWrong : ChangeSpec := { name := "fnExactRootPattern", fn := fun _ => fun
  | [d] => { results := [.lit (.bool false)], args := [d] }
  | _ => none }
def FnExactRootPatternWrongFalsely : Prop := fnExactRootPatternRow.holds Try.pinned (OpenSpec.ofChange fnExactRootPatternWrong)

/-- 'laws.FnExactCanonicalPattern': WHATEVER THE INPUT: true; the input reads as it did. -/
def fnExactCanonicalPatternSpec : ChangeSpec := { name := "fnExactCanonicalPattern", fn := fun _ => fun
  | [d] => { results := [.lit (.bool true)], args := [d] }
  | _ => none }
def fnExactCanonicalPatternRow : OpenClaim := { program := "ytebgahdioidhbaa", sum := "db5e1e0f44f089e6e79f996d35f1de6e72898bc27d0825088b0e0023d4ebf0ca", func := "loop.example/g00927/laws.FnExactCanonicalPattern", spec := "fnExactCanonicalPattern", unfollowed := true, recurses := true, apart := false }
def FnExactCanonicalPatternSaid : Prop := fnExactCanonicalPatternRow.holds Try.pinned (OpenSpec.ofChange fnExactCanonicalPatternSpec)

/-- ITS FALSE NEIGHBOUR: 'it returns false'. Refute it at one input. -/
def fnExactCanonicalPatternWrong : ChangeSpec := { name := "fnExactCanonicalPattern", fn := fun _ => fun
  | [d] => { results := [.lit (.bool false)], args := [d] }
  | _ => none }
def FnExactCanonicalPatternWrongFalsely : Prop := fnExactCanonicalPatternRow.holds Try.pinned (OpenSpec.ofChange fnExactCanonicalPatternWrong)

/-- 'laws.FnExactAlikePatterns': WHATEVER THE INPUT: true; the input reads as it did. -/
def fnExactAlikePatternsSpec : ChangeSpec := { name := "fnExactAlikePatterns", fn := fun _ => fun
  | [d1, d2] => { results := [.lit (.bool true)], args := [d1, d2] }
  | _ => none }
def fnExactAlikePatternsRow : OpenClaim := { program := "ytebgahdioidhbaa", sum := "db5e1e0f44f089e6e79f996d35f1de6e72898bc27d0825088b0e0023d4ebf0ca", func := "loop.example/g00927/laws.FnExactAlikePatterns", spec := "fnExactAlikePatterns", apart := false }
def FnExactAlikePatternsSaid : Prop := fnExactAlikePatternsRow.holds Try.pinned (OpenSpec.ofChange fnExactAlikePatternsSpec)

/-- ITS FALSE NEIGHBOUR: 'it returns false'. Refute it at one input. -/
def fnExactAlikePatternsWrong : ChangeSpec := { name := "fnExactAlikePatterns", fn := fun _ => fun
  | [d1, d2] => { results := [.lit (.bool false)], args := [d1, d2] }
  | _ => none }
def FnExactAlikePatternsWrongFalsely : Prop := fnExactAlikePatternsRow.holds Try.pinned (OpenSpec.ofChange fnExactAlikePatternsWrong)

/-- 'laws.FnExactIsSymmetric': WHATEVER THE INPUT: true; the input reads as it did. -/
def fnExactIsSymmetricSpec : ChangeSpec := { name := "fnExactIsSymmetric", fn := fun _ => fun
  | [d] => { results := [.lit (.bool true)], args := [d] }
  | _ => none }
def fnExactIsSymmetricRow : OpenClaim := { program := "ytebgahdioidhbaa", sum := "db5e1e0f44f089e6e79f996d35f1de6e72898bc27d0825088b0e0023d4ebf0ca", func := "loop.example/g00927/laws.FnExactIsSymmetric", spec := "fnExactIsSymmetric", unfollowed := true, recurses := true, apart := false }
def FnExactIsSymmetricSaid : Prop := fnExactIsSymmetricRow.holds Try.pinned (OpenSpec.ofChange fnExactIsSymmetricSpec)

/-- ITS FALSE NEIGHBOUR: 'it returns false'. Refute it at one input. -/
def fnExactIsSymmetricWrong : ChangeSpec := { name := "fnExactIsSymmetric", fn := fun _ => fun
  | [d] => { results := [.lit (.bool false)], args := [d] }
  | _ => none }
def FnExactIsSymmetricWrongFalsely : Prop := fnExactIsSymmetricRow.holds Try.pinned (OpenSpec.ofChange fnExactIsSymmetricWrong)

/- THE SECOND FORM. 'bulk': how many values and letters a reading holds, each counted each time it is reached (what is shared counts as often as it is met; a slice's spare places count too). A statement '..UptoSaid' is the law's where the arguments, and the package variables that the reading takes, are together of bulk at most 1048576: NARROWER than '..Said'. Prove '..Said' where nothing that the law and all that it calls make is longer than what came in: it says more and counts as full. Else prove '..UptoSaid'. A law counts once. -/
mutual
def uptoBulk {H : Type} : DataW H → Nat
  | .lit (.string bytes) => bytes.length + 1
  | .lit _ => 1
  | .nil => 1
  | .ptr d => uptoBulk d + 1
  | .slice elems spare => uptoBulkAll elems + uptoBulkAll spare + 1
  | .agg parts => uptoBulkAll parts + 1
  | .iface _ d => uptoBulk d + 1
  | .map entries => uptoBulkEntries entries + 1
  | .held _ => 1
def uptoBulkAll {H : Type} : List (DataW H) → Nat
  | [] => 0
  | d :: r => uptoBulk d + uptoBulkAll r
def uptoBulkEntries {H : Type} : List (Lit × DataW H) → Nat
  | [] => 0
  | x :: r => uptoBulkEntry x + uptoBulkEntries r
def uptoBulkEntry {H : Type} : Lit × DataW H → Nat
  | (.string bytes, d) => bytes.length + uptoBulk d + 1
  | (_, d) => uptoBulk d + 1
 end
def uptoSmall : (H : Type) → List (DataW H) → Bool := fun _ ds => decide (uptoBulkAll ds ≤ 1048576)
def OpenSpec.upto (s : _root_.Go.ChangeSpec) : _root_.Go.OpenSpec := { _root_.Go.OpenSpec.ofChange s with cond := some uptoSmall }

/-- 'laws.FnPatterns', WHERE WHAT IT READS IS OF BULK AT MOST 1048576: true; the input reads as it did. -/
def fnPatternsUptoRow : OpenClaim := { program := "ytebgahdioidhbaa", sum := "db5e1e0f44f089e6e79f996d35f1de6e72898bc27d0825088b0e0023d4ebf0ca", func := "loop.example/g00927/laws.FnPatterns", spec := "fnPatterns", inPlace := ["internal/abi.NoEscape"], apart := false, narrowed := true }
def FnPatternsUptoSaid : Prop := fnPatternsUptoRow.holds Try.pinned (OpenSpec.upto fnPatternsSpec)

/-- 'laws.FnTurns', WHERE WHAT IT READS IS OF BULK AT MOST 1048576: true; the input reads as it did. -/
def fnTurnsUptoRow : OpenClaim := { program := "ytebgahdioidhbaa", sum := "db5e1e0f44f089e6e79f996d35f1de6e72898bc27d0825088b0e0023d4ebf0ca", func := "loop.example/g00927/laws.FnTurns", spec := "fnTurns", unfollowed := true, recurses := true, apart := false, narrowed := true }
def FnTurnsUptoSaid : Prop := fnTurnsUptoRow.holds Try.pinned (OpenSpec.upto fnTurnsSpec)

/-- 'laws.FnRaised', WHERE WHAT IT READS IS OF BULK AT MOST 1048576: true; the input reads as it did. -/
def fnRaisedUptoRow : OpenClaim := { program := "ytebgahdioidhbaa", sum := "db5e1e0f44f089e6e79f996d35f1de6e72898bc27d0825088b0e0023d4ebf0ca", func := "loop.example/g00927/laws.FnRaised", spec := "fnRaised", apart := false, narrowed := true }
def FnRaisedUptoSaid : Prop := fnRaisedUptoRow.holds Try.pinned (OpenSpec.upto fnRaisedSpec)

/-- 'laws.FnCanons', WHERE WHAT IT READS IS OF BULK AT MOST 1048576: true; the input reads as it did. -/
def fnCanonsUptoRow : OpenClaim := { program := "ytebgahdioidhbaa", sum := "db5e1e0f44f089e6e79f996d35f1de6e72898bc27d0825088b0e0023d4ebf0ca", func := "loop.example/g00927/laws.FnCanons", spec := "fnCanons", unfollowed := true, recurses := true, apart := false, narrowed := true }
def FnCanonsUptoSaid : Prop := fnCanonsUptoRow.holds Try.pinned (OpenSpec.upto fnCanonsSpec)

/-- 'laws.FnExactRotatePattern', WHERE WHAT IT READS IS OF BULK AT MOST 1048576: true; the input reads as it did. -/
def fnExactRotatePatternUptoRow : OpenClaim := { program := "ytebgahdioidhbaa", sum := "db5e1e0f44f089e6e79f996d35f1de6e72898bc27d0825088b0e0023d4ebf0ca", func := "loop.example/g00927/laws.FnExactRotatePattern", spec := "fnExactRotatePattern", apart := false, narrowed := true }
def FnExactRotatePatternUptoSaid : Prop := fnExactRotatePatternUptoRow.holds Try.pinned (OpenSpec.upto fnExactRotatePatternSpec)

/-- 'laws.FnExactReversePattern', WHERE WHAT IT READS IS OF BULK AT MOST 1048576: true; the input reads as it did. -/
def fnExactReversePatternUptoRow : OpenClaim := { program := "ytebgahdioidhbaa", sum := "db5e1e0f44f089e6e79f996d35f1de6e72898bc27d0825088b0e0023d4ebf0ca", func := "loop.example/g00927/laws.FnExactReversePattern", spec := "fnExactReversePattern", unfollowed := true, recurses := true, apart := false, narrowed := true }
def FnExactReversePatternUptoSaid : Prop := fnExactReversePatternUptoRow.holds Try.pinned (OpenSpec.upto fnExactReversePatternSpec)

/-- 'laws.FnExactSwapLandings', WHERE WHAT IT READS IS OF BULK AT MOST 1048576: true; the input reads as it did. -/
def fnExactSwapLandingsUptoRow : OpenClaim := { program := "ytebgahdioidhbaa", sum := "db5e1e0f44f089e6e79f996d35f1de6e72898bc27d0825088b0e0023d4ebf0ca", func := "loop.example/g00927/laws.FnExactSwapLandings", spec := "fnExactSwapLandings", apart := false, narrowed := true }
def FnExactSwapLandingsUptoSaid : Prop := fnExactSwapLandingsUptoRow.holds Try.pinned (OpenSpec.upto fnExactSwapLandingsSpec)

/-- 'laws.FnExactRaiseThrow', WHERE WHAT IT READS IS OF BULK AT MOST 1048576: true; the input reads as it did. -/
def fnExactRaiseThrowUptoRow : OpenClaim := { program := "ytebgahdioidhbaa", sum := "db5e1e0f44f089e6e79f996d35f1de6e72898bc27d0825088b0e0023d4ebf0ca", func := "loop.example/g00927/laws.FnExactRaiseThrow", spec := "fnExactRaiseThrow", apart := false, narrowed := true }
def FnExactRaiseThrowUptoSaid : Prop := fnExactRaiseThrowUptoRow.holds Try.pinned (OpenSpec.upto fnExactRaiseThrowSpec)

/-- 'laws.FnExactShiftThrows', WHERE WHAT IT READS IS OF BULK AT MOST 1048576: true; the input reads as it did. -/
def fnExactShiftThrowsUptoRow : OpenClaim := { program := "ytebgahdioidhbaa", sum := "db5e1e0f44f089e6e79f996d35f1de6e72898bc27d0825088b0e0023d4ebf0ca", func := "loop.example/g00927/laws.FnExactShiftThrows", spec := "fnExactShiftThrows", apart := false, narrowed := true }
def FnExactShiftThrowsUptoSaid : Prop := fnExactShiftThrowsUptoRow.holds Try.pinned (OpenSpec.upto fnExactShiftThrowsSpec)

/-- 'laws.FnExactDualPattern', WHERE WHAT IT READS IS OF BULK AT MOST 1048576: true; the input reads as it did. -/
def fnExactDualPatternUptoRow : OpenClaim := { program := "ytebgahdioidhbaa", sum := "db5e1e0f44f089e6e79f996d35f1de6e72898bc27d0825088b0e0023d4ebf0ca", func := "loop.example/g00927/laws.FnExactDualPattern", spec := "fnExactDualPattern", apart := false, narrowed := true }
def FnExactDualPatternUptoSaid : Prop := fnExactDualPatternUptoRow.holds Try.pinned (OpenSpec.upto fnExactDualPatternSpec)

/-- 'laws.FnExactRepeatPattern', WHERE WHAT IT READS IS OF BULK AT MOST 1048576: true; the input reads as it did. -/
def fnExactRepeatPatternUptoRow : OpenClaim := { program := "ytebgahdioidhbaa", sum := "db5e1e0f44f089e6e79f996d35f1de6e72898bc27d0825088b0e0023d4ebf0ca", func := "loop.example/g00927/laws.FnExactRepeatPattern", spec := "fnExactRepeatPattern", apart := false, narrowed := true }
def FnExactRepeatPatternUptoSaid : Prop := fnExactRepeatPatternUptoRow.holds Try.pinned (OpenSpec.upto fnExactRepeatPatternSpec)

/-- 'laws.FnExactRootPattern', WHERE WHAT IT READS IS OF BULK AT MOST 1048576: true; the input reads as it did. -/
def fnExactRootPatternUptoRow : OpenClaim := { program := "ytebgahdioidhbaa", sum := "db5e1e0f44f089e6e79f996d35f1de6e72898bc27d0825088b0e0023d4ebf0ca", func := "loop.example/g00927/laws.FnExactRootPattern", spec := "fnExactRootPattern", unfollowed := true, recurses := true, apart := false, narrowed := true }
def FnExactRootPatternUptoSaid : Prop := fnExactRootPatternUptoRow.holds Try.pinned (OpenSpec.upto fnExactRootPatternSpec)

/-- 'laws.FnExactCanonicalPattern', WHERE WHAT IT READS IS OF BULK AT MOST 1048576: true; the input reads as it did. -/
def fnExactCanonicalPatternUptoRow : OpenClaim := { program := "ytebgahdioidhbaa", sum := "db5e1e0f44f089e6e79f996d35f1de6e72898bc27d0825088b0e0023d4ebf0ca", func := "loop.example/g00927/laws.FnExactCanonicalPattern", spec := "fnExactCanonicalPattern", unfollowed := true, recurses := true, apart := false, narrowed := true }
def FnExactCanonicalPatternUptoSaid : Prop := fnExactCanonicalPatternUptoRow.holds Try.pinned (OpenSpec.upto fnExactCanonicalPatternSpec)

/-- 'laws.FnExactAlikePatterns', WHERE WHAT IT READS IS OF BULK AT MOST 1048576: true; the input reads as it did. -/
def fnExactAlikePatternsUptoRow : OpenClaim := { program := "ytebgahdioidhbaa", sum := "db5e1e0f44f089e6e79f996d35f1de6e72898bc27d0825088b0e0023d4ebf0ca", func := "loop.example/g00927/laws.FnExactAlikePatterns", spec := "fnExactAlikePatterns", apart := false, narrowed := true }
def FnExactAlikePatternsUptoSaid : Prop := fnExactAlikePatternsUptoRow.holds Try.pinned (OpenSpec.upto fnExactAlikePatternsSpec)

/-- 'laws.FnExactIsSymmetric', WHERE WHAT IT READS IS OF BULK AT MOST 1048576: true; the input reads as it did. -/
def fnExactIsSymmetricUptoRow : OpenClaim := { program := "ytebgahdioidhbaa", sum := "db5e1e0f44f089e6e79f996d35f1de6e72898bc27d0825088b0e0023d4ebf0ca", func := "loop.example/g00927/laws.FnExactIsSymmetric", spec := "fnExactIsSymmetric", unfollowed := true, recurses := true, apart := false, narrowed := true }
def FnExactIsSymmetricUptoSaid : Prop := fnExactIsSymmetricUptoRow.holds Try.pinned (OpenSpec.upto fnExactIsSymmetricSpec)

end Rows
end Go.Proofs.Ytebgahdioidhbaa
