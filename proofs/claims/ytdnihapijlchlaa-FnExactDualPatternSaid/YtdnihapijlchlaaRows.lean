/-
  No cell of these rows narrows 'for every input' (looked for: loops, veiled, ifaces, maps, wideKeys, modest, calm, conditions, laid).
  DERIVED. THE GIVEN ROWS OF THIS SEAT. 13 by the template 'for every input the law returns true; each argument reads behind the call as it read before'; 0 by the template 'total and deterministic' (their statements: YtdnihapijlchlaaTotals.lean).
  GIVEN WITH THE SEED: the statements are not yours to turn. If you find one false, say at which input.
  Laid BY PROGRAM, IN A SANDBOX (cutbox-rows.mjs): the forced cells as the released guide's own fill.sh prints them over the translation f4533e3ce2638f48… (all of the seat's roots in one cut). By AI agents, Wed Nov 11 2026. No macro, syntax, notation, axiom, sorry.
-/
import Derived.Test.YtdnihapijlchlaaChecked
import GoSem.Claim
import GoSem.ClaimJoined
import GoSem.ClaimMapViews
import Derived.JoinedTies
import Derived.KernelRfl
namespace Go.Proofs.Ytdnihapijlchlaa
/- THE CELL 'sum', in the pinned program and in every row, IS THE sha256 OF THE DUMP (.gsa) THAT YtdnihapijlchlaaProg.lean LOADS. Nothing in Lean hashes anything: it is a label: what it is worth is what the hold of that sum in a sandbox is worth. -/
noncomputable def Try.pinned : Pinned := { name := "ytdnihapijlchlaa", sum := "f4533e3ce2638f4839610a4bbba1dbce21fc62179e744c6a9be9a3df7fab66b7", checked := Try.checked }
namespace Rows
def none {H : Type} : Left H := { results := [], args := [] }

/-- 'laws.FnCanons': WHATEVER THE INPUT: true; the input reads as it did. -/
def fnCanonsSpec : ChangeSpec := { name := "fnCanons", fn := fun _ => fun
  | [d1, d2] => { results := [.lit (.bool true)], args := [d1, d2] }
  | _ => none }
def fnCanonsRow : OpenClaim := { program := "ytdnihapijlchlaa", sum := "f4533e3ce2638f4839610a4bbba1dbce21fc62179e744c6a9be9a3df7fab66b7", func := "loop.example/g00927/laws.FnCanons", spec := "fnCanons", unfollowed := true, recurses := true, apart := false }
def FnCanonsSaid : Prop := fnCanonsRow.holds Try.pinned (OpenSpec.ofChange fnCanonsSpec)

/-- ITS FALSE NEIGHBOUR: 'it returns false'. Refute it at one input. -/
def fnCanonsWrong : ChangeSpec := { name := "fnCanons", fn := fun _ => fun
  | [d1, d2] => { results := [.lit (.bool false)], args := [d1, d2] }
  | _ => none }
def FnCanonsWrongFalsely : Prop := fnCanonsRow.holds Try.pinned (OpenSpec.ofChange fnCanonsWrong)

/-- 'laws.FnCollisions': WHATEVER THE INPUT: true; the input reads as it did. -/
def fnCollisionsSpec : ChangeSpec := { name := "fnCollisions", fn := fun _ => fun
  | [d1, d2] => { results := [.lit (.bool true)], args := [d1, d2] }
  | _ => none }
def fnCollisionsRow : OpenClaim := { program := "ytdnihapijlchlaa", sum := "f4533e3ce2638f4839610a4bbba1dbce21fc62179e744c6a9be9a3df7fab66b7", func := "loop.example/g00927/laws.FnCollisions", spec := "fnCollisions", apart := false }
def FnCollisionsSaid : Prop := fnCollisionsRow.holds Try.pinned (OpenSpec.ofChange fnCollisionsSpec)

/-- ITS FALSE NEIGHBOUR: 'it returns false'. Refute it at one input. -/
def fnCollisionsWrong : ChangeSpec := { name := "fnCollisions", fn := fun _ => fun
  | [d1, d2] => { results := [.lit (.bool false)], args := [d1, d2] }
  | _ => none }
def FnCollisionsWrongFalsely : Prop := fnCollisionsRow.holds Try.pinned (OpenSpec.ofChange fnCollisionsWrong)

/-- 'laws.FnExactAlikePatterns': WHATEVER THE INPUT: true; the input reads as it did. -/
def fnExactAlikePatternsSpec : ChangeSpec := { name := "fnExactAlikePatterns", fn := fun _ => fun
  | [d1, d2] => { results := [.lit (.bool true)], args := [d1, d2] }
  | _ => none }
def fnExactAlikePatternsRow : OpenClaim := { program := "ytdnihapijlchlaa", sum := "f4533e3ce2638f4839610a4bbba1dbce21fc62179e744c6a9be9a3df7fab66b7", func := "loop.example/g00927/laws.FnExactAlikePatterns", spec := "fnExactAlikePatterns", apart := false }
def FnExactAlikePatternsSaid : Prop := fnExactAlikePatternsRow.holds Try.pinned (OpenSpec.ofChange fnExactAlikePatternsSpec)

/-- ITS FALSE NEIGHBOUR: 'it returns false'. Refute it at one input. -/
def fnExactAlikePatternsWrong : ChangeSpec := { name := "fnExactAlikePatterns", fn := fun _ => fun
  | [d1, d2] => { results := [.lit (.bool false)], args := [d1, d2] }
  | _ => none }
def FnExactAlikePatternsWrongFalsely : Prop := fnExactAlikePatternsRow.holds Try.pinned (OpenSpec.ofChange fnExactAlikePatternsWrong)

/-- 'laws.FnExactCanonicalPattern': WHATEVER THE INPUT: true; the input reads as it did. -/
def fnExactCanonicalPatternSpec : ChangeSpec := { name := "fnExactCanonicalPattern", fn := fun _ => fun
  | [d] => { results := [.lit (.bool true)], args := [d] }
  | _ => none }
def fnExactCanonicalPatternRow : OpenClaim := { program := "ytdnihapijlchlaa", sum := "f4533e3ce2638f4839610a4bbba1dbce21fc62179e744c6a9be9a3df7fab66b7", func := "loop.example/g00927/laws.FnExactCanonicalPattern", spec := "fnExactCanonicalPattern", unfollowed := true, recurses := true, apart := false }
def FnExactCanonicalPatternSaid : Prop := fnExactCanonicalPatternRow.holds Try.pinned (OpenSpec.ofChange fnExactCanonicalPatternSpec)

/-- ITS FALSE NEIGHBOUR: 'it returns false'. Refute it at one input. -/
def fnExactCanonicalPatternWrong : ChangeSpec := { name := "fnExactCanonicalPattern", fn := fun _ => fun
  | [d] => { results := [.lit (.bool false)], args := [d] }
  | _ => none }
def FnExactCanonicalPatternWrongFalsely : Prop := fnExactCanonicalPatternRow.holds Try.pinned (OpenSpec.ofChange fnExactCanonicalPatternWrong)

/-- 'laws.FnExactCollisionOf': WHATEVER THE INPUT: true; the input reads as it did. -/
def fnExactCollisionOfSpec : ChangeSpec := { name := "fnExactCollisionOf", fn := fun _ => fun
  | [d] => { results := [.lit (.bool true)], args := [d] }
  | _ => none }
def fnExactCollisionOfRow : OpenClaim := { program := "ytdnihapijlchlaa", sum := "f4533e3ce2638f4839610a4bbba1dbce21fc62179e744c6a9be9a3df7fab66b7", func := "loop.example/g00927/laws.FnExactCollisionOf", spec := "fnExactCollisionOf", apart := false }
def FnExactCollisionOfSaid : Prop := fnExactCollisionOfRow.holds Try.pinned (OpenSpec.ofChange fnExactCollisionOfSpec)

/-- ITS FALSE NEIGHBOUR: 'it returns false'. Refute it at one input. -/
def fnExactCollisionOfWrong : ChangeSpec := { name := "fnExactCollisionOf", fn := fun _ => fun
  | [d] => { results := [.lit (.bool false)], args := [d] }
  | _ => none }
def FnExactCollisionOfWrongFalsely : Prop := fnExactCollisionOfRow.holds Try.pinned (OpenSpec.ofChange fnExactCollisionOfWrong)

/-- 'laws.FnExactDualPattern': WHATEVER THE INPUT: true; the input reads as it did. -/
def fnExactDualPatternSpec : ChangeSpec := { name := "fnExactDualPattern", fn := fun _ => fun
  | [d1, d2] => { results := [.lit (.bool true)], args := [d1, d2] }
  | _ => none }
def fnExactDualPatternRow : OpenClaim := { program := "ytdnihapijlchlaa", sum := "f4533e3ce2638f4839610a4bbba1dbce21fc62179e744c6a9be9a3df7fab66b7", func := "loop.example/g00927/laws.FnExactDualPattern", spec := "fnExactDualPattern", apart := false }
def FnExactDualPatternSaid : Prop := fnExactDualPatternRow.holds Try.pinned (OpenSpec.ofChange fnExactDualPatternSpec)

/-- ITS FALSE NEIGHBOUR: 'it returns false'. Refute it at one input. -/
def fnExactDualPatternWrong : ChangeSpec := { name := "fnExactDualPattern", fn := fun _ => fun
  | [d1, d2] => { results := [.lit (.bool false)], args := [d1, d2] }
  | _ => none }
def FnExactDualPatternWrongFalsely : Prop := fnExactDualPatternRow.holds Try.pinned (OpenSpec.ofChange fnExactDualPatternWrong)

/-- 'laws.FnExactHighestOf': WHATEVER THE INPUT: true; the input reads as it did. -/
def fnExactHighestOfSpec : ChangeSpec := { name := "fnExactHighestOf", fn := fun _ => fun
  | [d] => { results := [.lit (.bool true)], args := [d] }
  | _ => none }
def fnExactHighestOfRow : OpenClaim := { program := "ytdnihapijlchlaa", sum := "f4533e3ce2638f4839610a4bbba1dbce21fc62179e744c6a9be9a3df7fab66b7", func := "loop.example/g00927/laws.FnExactHighestOf", spec := "fnExactHighestOf", apart := false }
def FnExactHighestOfSaid : Prop := fnExactHighestOfRow.holds Try.pinned (OpenSpec.ofChange fnExactHighestOfSpec)

/-- ITS FALSE NEIGHBOUR: 'it returns false'. Refute it at one input. -/
def fnExactHighestOfWrong : ChangeSpec := { name := "fnExactHighestOf", fn := fun _ => fun
  | [d] => { results := [.lit (.bool false)], args := [d] }
  | _ => none }
def FnExactHighestOfWrongFalsely : Prop := fnExactHighestOfRow.holds Try.pinned (OpenSpec.ofChange fnExactHighestOfWrong)

/-- 'laws.FnExactIsSymmetric': WHATEVER THE INPUT: true; the input reads as it did. -/
def fnExactIsSymmetricSpec : ChangeSpec := { name := "fnExactIsSymmetric", fn := fun _ => fun
  | [d] => { results := [.lit (.bool true)], args := [d] }
  | _ => none }
def fnExactIsSymmetricRow : OpenClaim := { program := "ytdnihapijlchlaa", sum := "f4533e3ce2638f4839610a4bbba1dbce21fc62179e744c6a9be9a3df7fab66b7", func := "loop.example/g00927/laws.FnExactIsSymmetric", spec := "fnExactIsSymmetric", unfollowed := true, recurses := true, apart := false }
def FnExactIsSymmetricSaid : Prop := fnExactIsSymmetricRow.holds Try.pinned (OpenSpec.ofChange fnExactIsSymmetricSpec)

/-- ITS FALSE NEIGHBOUR: 'it returns false'. Refute it at one input. -/
def fnExactIsSymmetricWrong : ChangeSpec := { name := "fnExactIsSymmetric", fn := fun _ => fun
  | [d] => { results := [.lit (.bool false)], args := [d] }
  | _ => none }
def FnExactIsSymmetricWrongFalsely : Prop := fnExactIsSymmetricRow.holds Try.pinned (OpenSpec.ofChange fnExactIsSymmetricWrong)

/-- 'laws.FnExactLandingBeats': WHATEVER THE INPUT: true; the input reads as it did. -/
def fnExactLandingBeatsSpec : ChangeSpec := { name := "fnExactLandingBeats", fn := fun _ => fun
  | [d] => { results := [.lit (.bool true)], args := [d] }
  | _ => none }
def fnExactLandingBeatsRow : OpenClaim := { program := "ytdnihapijlchlaa", sum := "f4533e3ce2638f4839610a4bbba1dbce21fc62179e744c6a9be9a3df7fab66b7", func := "loop.example/g00927/laws.FnExactLandingBeats", spec := "fnExactLandingBeats", apart := false }
def FnExactLandingBeatsSaid : Prop := fnExactLandingBeatsRow.holds Try.pinned (OpenSpec.ofChange fnExactLandingBeatsSpec)

/-- ITS FALSE NEIGHBOUR: 'it returns false'. Refute it at one input. -/
def fnExactLandingBeatsWrong : ChangeSpec := { name := "fnExactLandingBeats", fn := fun _ => fun
  | [d] => { results := [.lit (.bool false)], args := [d] }
  | _ => none }
def FnExactLandingBeatsWrongFalsely : Prop := fnExactLandingBeatsRow.holds Try.pinned (OpenSpec.ofChange fnExactLandingBeatsWrong)

/-- 'laws.FnExactLandsFrom': WHATEVER THE INPUT: true; the input reads as it did. -/
def fnExactLandsFromSpec : ChangeSpec := { name := "fnExactLandsFrom", fn := fun _ => fun
  | [d1, d2] => { results := [.lit (.bool true)], args := [d1, d2] }
  | _ => none }
def fnExactLandsFromRow : OpenClaim := { program := "ytdnihapijlchlaa", sum := "f4533e3ce2638f4839610a4bbba1dbce21fc62179e744c6a9be9a3df7fab66b7", func := "loop.example/g00927/laws.FnExactLandsFrom", spec := "fnExactLandsFrom", apart := false }
def FnExactLandsFromSaid : Prop := fnExactLandsFromRow.holds Try.pinned (OpenSpec.ofChange fnExactLandsFromSpec)

/-- ITS FALSE NEIGHBOUR: 'it returns false'. Refute it at one input. -/
def fnExactLandsFromWrong : ChangeSpec := { name := "fnExactLandsFrom", fn := fun _ => fun
  | [d1, d2] => { results := [.lit (.bool false)], args := [d1, d2] }
  | _ => none }
def FnExactLandsFromWrongFalsely : Prop := fnExactLandsFromRow.holds Try.pinned (OpenSpec.ofChange fnExactLandsFromWrong)

/-- 'laws.FnExactPatternText': WHATEVER THE INPUT: true; the input reads as it did. -/
def fnExactPatternTextSpec : ChangeSpec := { name := "fnExactPatternText", fn := fun _ => fun
  | [d] => { results := [.lit (.bool true)], args := [d] }
  | _ => none }
def fnExactPatternTextRow : OpenClaim := { program := "ytdnihapijlchlaa", sum := "f4533e3ce2638f4839610a4bbba1dbce21fc62179e744c6a9be9a3df7fab66b7", func := "loop.example/g00927/laws.FnExactPatternText", spec := "fnExactPatternText", inPlace := ["internal/abi.NoEscape"], apart := false }
def FnExactPatternTextSaid : Prop := fnExactPatternTextRow.holds Try.pinned (OpenSpec.ofChange fnExactPatternTextSpec)

/-- ITS FALSE NEIGHBOUR: 'it returns false'. Refute it at one input. -/
def fnExactPatternTextWrong : ChangeSpec := { name := "fnExactPatternText", fn := fun _ => fun
  | [d] => { results := [.lit (.bool false)], args := [d] }
  | _ => none }
def FnExactPatternTextWrongFalsely : Prop := fnExactPatternTextRow.holds Try.pinned (OpenSpec.ofChange fnExactPatternTextWrong)

/-- 'laws.FnExactPropsOf': WHATEVER THE INPUT: true; the input reads as it did. -/
def fnExactPropsOfSpec : ChangeSpec := { name := "fnExactPropsOf", fn := fun _ => fun
  | [d] => { results := [.lit (.bool true)], args := [d] }
  | _ => none }
def fnExactPropsOfRow : OpenClaim := { program := "ytdnihapijlchlaa", sum := "f4533e3ce2638f4839610a4bbba1dbce21fc62179e744c6a9be9a3df7fab66b7", func := "loop.example/g00927/laws.FnExactPropsOf", spec := "fnExactPropsOf", apart := false }
def FnExactPropsOfSaid : Prop := fnExactPropsOfRow.holds Try.pinned (OpenSpec.ofChange fnExactPropsOfSpec)

/-- ITS FALSE NEIGHBOUR: 'it returns false'. Refute it at one input. -/
def fnExactPropsOfWrong : ChangeSpec := { name := "fnExactPropsOf", fn := fun _ => fun
  | [d] => { results := [.lit (.bool false)], args := [d] }
  | _ => none }
def FnExactPropsOfWrongFalsely : Prop := fnExactPropsOfRow.holds Try.pinned (OpenSpec.ofChange fnExactPropsOfWrong)

/-- 'laws.FnExactRaiseThrow': WHATEVER THE INPUT: true; the input reads as it did. -/
def fnExactRaiseThrowSpec : ChangeSpec := { name := "fnExactRaiseThrow", fn := fun _ => fun
  | [d1, d2] => { results := [.lit (.bool true)], args := [d1, d2] }
  | _ => none }
def fnExactRaiseThrowRow : OpenClaim := { program := "ytdnihapijlchlaa", sum := "f4533e3ce2638f4839610a4bbba1dbce21fc62179e744c6a9be9a3df7fab66b7", func := "loop.example/g00927/laws.FnExactRaiseThrow", spec := "fnExactRaiseThrow", apart := false }
def FnExactRaiseThrowSaid : Prop := fnExactRaiseThrowRow.holds Try.pinned (OpenSpec.ofChange fnExactRaiseThrowSpec)

/-- ITS FALSE NEIGHBOUR: 'it returns false'. Refute it at one input. -/
def fnExactRaiseThrowWrong : ChangeSpec := { name := "fnExactRaiseThrow", fn := fun _ => fun
  | [d1, d2] => { results := [.lit (.bool false)], args := [d1, d2] }
  | _ => none }
def FnExactRaiseThrowWrongFalsely : Prop := fnExactRaiseThrowRow.holds Try.pinned (OpenSpec.ofChange fnExactRaiseThrowWrong)

/- THE SECOND FORM. 'bulk': how many values and letters a reading holds, each counted each time it is reached (what is shared counts as often as it is met; a slice's spare places count too). A statement '..UptoSaid' is the law's where the arguments, and the package variables that the reading takes, are together of bulk at most 1048576: NARROWER than '..Said'. Prove '..Said' where nothing that the law and all that it calls make is longer than what came in: it says more and counts as full. Else prove '..UptoSaid'. A law counts once. -/
mutual
def uptoBulk {H : Type} : DataW H → Nat
  | .lit (.string bytes) => bytes.length + 1
  | .lit _ => 1
  | .nil => 1
  | .ptr d => uptoBulk d + 1
  | .slice elems spare => uptoBulkAll elems + uptoBulkAll spare + 1
  | .agg parts => uptoBulkAll parts + 1
  | .iface _ d => uptoBulk d + 1
  | .map entries => uptoBulkEntries entries + 1
  | .held _ => 1
def uptoBulkAll {H : Type} : List (DataW H) → Nat
  | [] => 0
  | d :: r => uptoBulk d + uptoBulkAll r
def uptoBulkEntries {H : Type} : List (Lit × DataW H) → Nat
  | [] => 0
  | x :: r => uptoBulkEntry x + uptoBulkEntries r
def uptoBulkEntry {H : Type} : Lit × DataW H → Nat
  | (.string bytes, d) => bytes.length + uptoBulk d + 1
  | (_, d) => uptoBulk d + 1
 end
def uptoSmall : (H : Type) → List (DataW H) → Bool := fun _ ds => decide (uptoBulkAll ds ≤ 1048576)
def OpenSpec.upto (s : _root_.Go.ChangeSpec) : _root_.Go.OpenSpec := { _root_.Go.OpenSpec.ofChange s with cond := some uptoSmall }

/-- 'laws.FnCanons', WHERE WHAT IT READS IS OF BULK AT MOST 1048576: true; the input reads as it did. -/
def fnCanonsUptoRow : OpenClaim := { program := "ytdnihapijlchlaa", sum := "f4533e3ce2638f4839610a4bbba1dbce21fc62179e744c6a9be9a3df7fab66b7", func := "loop.example/g00927/laws.FnCanons", spec := "fnCanons", unfollowed := true, recurses := true, apart := false, narrowed := true }
def FnCanonsUptoSaid : Prop := fnCanonsUptoRow.holds Try.pinned (OpenSpec.upto fnCanonsSpec)

/-- 'laws.FnCollisions', WHERE WHAT IT READS IS OF BULK AT MOST 1048576: true; the input reads as it did. -/
def fnCollisionsUptoRow : OpenClaim := { program := "ytdnihapijlchlaa", sum := "f4533e3ce2638f4839610a4bbba1dbce21fc62179e744c6a9be9a3df7fab66b7", func := "loop.example/g00927/laws.FnCollisions", spec := "fnCollisions", apart := false, narrowed := true }
def FnCollisionsUptoSaid : Prop := fnCollisionsUptoRow.holds Try.pinned (OpenSpec.upto fnCollisionsSpec)

/-- 'laws.FnExactAlikePatterns', WHERE WHAT IT READS IS OF BULK AT MOST 1048576: true; the input reads as it did. -/
def fnExactAlikePatternsUptoRow : OpenClaim := { program := "ytdnihapijlchlaa", sum := "f4533e3ce2638f4839610a4bbba1dbce21fc62179e744c6a9be9a3df7fab66b7", func := "loop.example/g00927/laws.FnExactAlikePatterns", spec := "fnExactAlikePatterns", apart := false, narrowed := true }
def FnExactAlikePatternsUptoSaid : Prop := fnExactAlikePatternsUptoRow.holds Try.pinned (OpenSpec.upto fnExactAlikePatternsSpec)

/-- 'laws.FnExactCanonicalPattern', WHERE WHAT IT READS IS OF BULK AT MOST 1048576: true; the input reads as it did. -/
def fnExactCanonicalPatternUptoRow : OpenClaim := { program := "ytdnihapijlchlaa", sum := "f4533e3ce2638f4839610a4bbba1dbce21fc62179e744c6a9be9a3df7fab66b7", func := "loop.example/g00927/laws.FnExactCanonicalPattern", spec := "fnExactCanonicalPattern", unfollowed := true, recurses := true, apart := false, narrowed := true }
def FnExactCanonicalPatternUptoSaid : Prop := fnExactCanonicalPatternUptoRow.holds Try.pinned (OpenSpec.upto fnExactCanonicalPatternSpec)

/-- 'laws.FnExactCollisionOf', WHERE WHAT IT READS IS OF BULK AT MOST 1048576: true; the input reads as it did. -/
def fnExactCollisionOfUptoRow : OpenClaim := { program := "ytdnihapijlchlaa", sum := "f4533e3ce2638f4839610a4bbba1dbce21fc62179e744c6a9be9a3df7fab66b7", func := "loop.example/g00927/laws.FnExactCollisionOf", spec := "fnExactCollisionOf", apart := false, narrowed := true }
def FnExactCollisionOfUptoSaid : Prop := fnExactCollisionOfUptoRow.holds Try.pinned (OpenSpec.upto fnExactCollisionOfSpec)

/-- 'laws.FnExactDualPattern', WHERE WHAT IT READS IS OF BULK AT MOST 1048576: true; the input reads as it did. -/
def fnExactDualPatternUptoRow : OpenClaim := { program := "ytdnihapijlchlaa", sum := "f4533e3ce2638f4839610a4bbba1dbce21fc62179e744c6a9be9a3df7fab66b7", func := "loop.example/g00927/laws.FnExactDualPattern", spec := "fnExactDualPattern", apart := false, narrowed := true }
def FnExactDualPatternUptoSaid : Prop := fnExactDualPatternUptoRow.holds Try.pinned (OpenSpec.upto fnExactDualPatternSpec)

/-- 'laws.FnExactHighestOf', WHERE WHAT IT READS IS OF BULK AT MOST 1048576: true; the input reads as it did. -/
def fnExactHighestOfUptoRow : OpenClaim := { program := "ytdnihapijlchlaa", sum := "f4533e3ce2638f4839610a4bbba1dbce21fc62179e744c6a9be9a3df7fab66b7", func := "loop.example/g00927/laws.FnExactHighestOf", spec := "fnExactHighestOf", apart := false, narrowed := true }
def FnExactHighestOfUptoSaid : Prop := fnExactHighestOfUptoRow.holds Try.pinned (OpenSpec.upto fnExactHighestOfSpec)

/-- 'laws.FnExactIsSymmetric', WHERE WHAT IT READS IS OF BULK AT MOST 1048576: true; the input reads as it did. -/
def fnExactIsSymmetricUptoRow : OpenClaim := { program := "ytdnihapijlchlaa", sum := "f4533e3ce2638f4839610a4bbba1dbce21fc62179e744c6a9be9a3df7fab66b7", func := "loop.example/g00927/laws.FnExactIsSymmetric", spec := "fnExactIsSymmetric", unfollowed := true, recurses := true, apart := false, narrowed := true }
def FnExactIsSymmetricUptoSaid : Prop := fnExactIsSymmetricUptoRow.holds Try.pinned (OpenSpec.upto fnExactIsSymmetricSpec)

/-- 'laws.FnExactLandingBeats', WHERE WHAT IT READS IS OF BULK AT MOST 1048576: true; the input reads as it did. -/
def fnExactLandingBeatsUptoRow : OpenClaim := { program := "ytdnihapijlchlaa", sum := "f4533e3ce2638f4839610a4bbba1dbce21fc62179e744c6a9be9a3df7fab66b7", func := "loop.example/g00927/laws.FnExactLandingBeats", spec := "fnExactLandingBeats", apart := false, narrowed := true }
def FnExactLandingBeatsUptoSaid : Prop := fnExactLandingBeatsUptoRow.holds Try.pinned (OpenSpec.upto fnExactLandingBeatsSpec)

/-- 'laws.FnExactLandsFrom', WHERE WHAT IT READS IS OF BULK AT MOST 1048576: true; the input reads as it did. -/
def fnExactLandsFromUptoRow : OpenClaim := { program := "ytdnihapijlchlaa", sum := "f4533e3ce2638f4839610a4bbba1dbce21fc62179e744c6a9be9a3df7fab66b7", func := "loop.example/g00927/laws.FnExactLandsFrom", spec := "fnExactLandsFrom", apart := false, narrowed := true }
def FnExactLandsFromUptoSaid : Prop := fnExactLandsFromUptoRow.holds Try.pinned (OpenSpec.upto fnExactLandsFromSpec)

/-- 'laws.FnExactPatternText', WHERE WHAT IT READS IS OF BULK AT MOST 1048576: true; the input reads as it did. -/
def fnExactPatternTextUptoRow : OpenClaim := { program := "ytdnihapijlchlaa", sum := "f4533e3ce2638f4839610a4bbba1dbce21fc62179e744c6a9be9a3df7fab66b7", func := "loop.example/g00927/laws.FnExactPatternText", spec := "fnExactPatternText", inPlace := ["internal/abi.NoEscape"], apart := false, narrowed := true }
def FnExactPatternTextUptoSaid : Prop := fnExactPatternTextUptoRow.holds Try.pinned (OpenSpec.upto fnExactPatternTextSpec)

/-- 'laws.FnExactPropsOf', WHERE WHAT IT READS IS OF BULK AT MOST 1048576: true; the input reads as it did. -/
def fnExactPropsOfUptoRow : OpenClaim := { program := "ytdnihapijlchlaa", sum := "f4533e3ce2638f4839610a4bbba1dbce21fc62179e744c6a9be9a3df7fab66b7", func := "loop.example/g00927/laws.FnExactPropsOf", spec := "fnExactPropsOf", apart := false, narrowed := true }
def FnExactPropsOfUptoSaid : Prop := fnExactPropsOfUptoRow.holds Try.pinned (OpenSpec.upto fnExactPropsOfSpec)

/-- 'laws.FnExactRaiseThrow', WHERE WHAT IT READS IS OF BULK AT MOST 1048576: true; the input reads as it did. -/
def fnExactRaiseThrowUptoRow : OpenClaim := { program := "ytdnihapijlchlaa", sum := "f4533e3ce2638f4839610a4bbba1dbce21fc62179e744c6a9be9a3df7fab66b7", func := "loop.example/g00927/laws.FnExactRaiseThrow", spec := "fnExactRaiseThrow", apart := false, narrowed := true }
def FnExactRaiseThrowUptoSaid : Prop := fnExactRaiseThrowUptoRow.holds Try.pinned (OpenSpec.upto fnExactRaiseThrowSpec)

end Rows
end Go.Proofs.Ytdnihapijlchlaa
