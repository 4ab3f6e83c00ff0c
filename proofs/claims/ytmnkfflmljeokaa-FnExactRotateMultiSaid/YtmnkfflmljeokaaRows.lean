/-
  No cell of these rows narrows 'for every input' (looked for: loops, veiled, ifaces, maps, wideKeys, modest, calm, conditions, laid).
  DERIVED. THE GIVEN ROWS OF THIS SEAT. 13 by the template 'for every input the law returns true; each argument reads behind the call as it read before'; 0 by the template 'total and deterministic' (their statements: YtmnkfflmljeokaaTotals.lean).
  GIVEN WITH THE SEED: the statements are not yours to turn. If you find one false, say at which input.
  Laid BY PROGRAM, IN A SANDBOX (cutbox-rows.mjs): the forced cells as the released guide's own fill.sh prints them over the translation cefde5695a2d4580… (all of the seat's roots in one cut). By AI agents, Wed Nov 11 2026. No macro, syntax, notation, axiom, sorry.
-/
import Derived.Test.YtmnkfflmljeokaaChecked
import GoSem.Claim
import GoSem.ClaimJoined
import GoSem.ClaimMapViews
import Derived.JoinedTies
import Derived.KernelRfl
namespace Go.Proofs.Ytmnkfflmljeokaa
/- THE CELL 'sum', in the pinned program and in every row, IS THE sha256 OF THE DUMP (.gsa) THAT YtmnkfflmljeokaaProg.lean LOADS. Nothing in Lean hashes anything: it is a label: what it is worth is what the hold of that sum in a sandbox is worth. -/
noncomputable def Try.pinned : Pinned := { name := "ytmnkfflmljeokaa", sum := "cefde5695a2d4580d7089d6bb444e22300b8c2448cde12cde1e675c6f5ba2f73", checked := Try.checked }
namespace Rows
def none {H : Type} : Left H := { results := [], args := [] }

/-- 'laws.FnMultis': WHATEVER THE INPUT: true; the input reads as it did. -/
def fnMultisSpec : ChangeSpec := { name := "fnMultis", fn := fun _ => fun
  | [d] => { results := [.lit (.bool true)], args := [d] }
  | _ => none }
def fnMultisRow : OpenClaim := { program := "ytmnkfflmljeokaa", sum := "cefde5695a2d4580d7089d6bb444e22300b8c2448cde12cde1e675c6f5ba2f73", func := "loop.example/g00927/laws.FnMultis", spec := "fnMultis", unfollowed := true, recurses := true, apart := false }
def FnMultisSaid : Prop := fnMultisRow.holds Try.pinned (OpenSpec.ofChange fnMultisSpec)

/-- ITS FALSE NEIGHBOUR: 'it returns false'. Refute it at one input. -/
def fnMultisWrong : ChangeSpec := { name := "fnMultis", fn := fun _ => fun
  | [d] => { results := [.lit (.bool false)], args := [d] }
  | _ => none }
def FnMultisWrongFalsely : Prop := fnMultisRow.holds Try.pinned (OpenSpec.ofChange fnMultisWrong)

/-- 'laws.FnMultiTexts': WHATEVER THE INPUT: true; the input reads as it did. -/
def fnMultiTextsSpec : ChangeSpec := { name := "fnMultiTexts", fn := fun _ => fun
  | [d] => { results := [.lit (.bool true)], args := [d] }
  | _ => none }
def fnMultiTextsRow : OpenClaim := { program := "ytmnkfflmljeokaa", sum := "cefde5695a2d4580d7089d6bb444e22300b8c2448cde12cde1e675c6f5ba2f73", func := "loop.example/g00927/laws.FnMultiTexts", spec := "fnMultiTexts", inPlace := ["internal/abi.NoEscape"], unfollowed := true, recurses := true, apart := false }
def FnMultiTextsSaid : Prop := fnMultiTextsRow.holds Try.pinned (OpenSpec.ofChange fnMultiTextsSpec)

/-- ITS FALSE NEIGHBOUR: 'it returns false'. Refute it at one input. -/
def fnMultiTextsWrong : ChangeSpec := { name := "fnMultiTexts", fn := fun _ => fun
  | [d] => { results := [.lit (.bool false)], args := [d] }
  | _ => none }
def FnMultiTextsWrongFalsely : Prop := fnMultiTextsRow.holds Try.pinned (OpenSpec.ofChange fnMultiTextsWrong)

/-- 'laws.FnExactValidMulti': WHATEVER THE INPUT: true; the input reads as it did. -/
def fnExactValidMultiSpec : ChangeSpec := { name := "fnExactValidMulti", fn := fun _ => fun
  | [d] => { results := [.lit (.bool true)], args := [d] }
  | _ => none }
def fnExactValidMultiRow : OpenClaim := { program := "ytmnkfflmljeokaa", sum := "cefde5695a2d4580d7089d6bb444e22300b8c2448cde12cde1e675c6f5ba2f73", func := "loop.example/g00927/laws.FnExactValidMulti", spec := "fnExactValidMulti", unfollowed := true, recurses := true, apart := false }
def FnExactValidMultiSaid : Prop := fnExactValidMultiRow.holds Try.pinned (OpenSpec.ofChange fnExactValidMultiSpec)

/-- ITS FALSE NEIGHBOUR: 'it returns false'. Refute it at one input. -/
def fnExactValidMultiWrong : ChangeSpec := { name := "fnExactValidMulti", fn := fun _ => fun
  | [d] => { results := [.lit (.bool false)], args := [d] }
  | _ => none }
def FnExactValidMultiWrongFalsely : Prop := fnExactValidMultiRow.holds Try.pinned (OpenSpec.ofChange fnExactValidMultiWrong)

/-- 'laws.FnExactSameMulti': WHATEVER THE INPUT: true; the input reads as it did. -/
def fnExactSameMultiSpec : ChangeSpec := { name := "fnExactSameMulti", fn := fun _ => fun
  | [d1, d2] => { results := [.lit (.bool true)], args := [d1, d2] }
  | _ => none }
def fnExactSameMultiRow : OpenClaim := { program := "ytmnkfflmljeokaa", sum := "cefde5695a2d4580d7089d6bb444e22300b8c2448cde12cde1e675c6f5ba2f73", func := "loop.example/g00927/laws.FnExactSameMulti", spec := "fnExactSameMulti", unfollowed := true, recurses := true, apart := false }
def FnExactSameMultiSaid : Prop := fnExactSameMultiRow.holds Try.pinned (OpenSpec.ofChange fnExactSameMultiSpec)

/-- ITS FALSE NEIGHBOUR: 'it returns false'. Refute it at one input. -/
def fnExactSameMultiWrong : ChangeSpec := { name := "fnExactSameMulti", fn := fun _ => fun
  | [d1, d2] => { results := [.lit (.bool false)], args := [d1, d2] }
  | _ => none }
def FnExactSameMultiWrongFalsely : Prop := fnExactSameMultiRow.holds Try.pinned (OpenSpec.ofChange fnExactSameMultiWrong)

/-- 'laws.FnExactMultiOf': WHATEVER THE INPUT: true; the input reads as it did. -/
def fnExactMultiOfSpec : ChangeSpec := { name := "fnExactMultiOf", fn := fun _ => fun
  | [d] => { results := [.lit (.bool true)], args := [d] }
  | _ => none }
def fnExactMultiOfRow : OpenClaim := { program := "ytmnkfflmljeokaa", sum := "cefde5695a2d4580d7089d6bb444e22300b8c2448cde12cde1e675c6f5ba2f73", func := "loop.example/g00927/laws.FnExactMultiOf", spec := "fnExactMultiOf", apart := false }
def FnExactMultiOfSaid : Prop := fnExactMultiOfRow.holds Try.pinned (OpenSpec.ofChange fnExactMultiOfSpec)

/-- ITS FALSE NEIGHBOUR: 'it returns false'. Refute it at one input. -/
def fnExactMultiOfWrong : ChangeSpec := { name := "fnExactMultiOf", fn := fun _ => fun
  | [d] => { results := [.lit (.bool false)], args := [d] }
  | _ => none }
def FnExactMultiOfWrongFalsely : Prop := fnExactMultiOfRow.holds Try.pinned (OpenSpec.ofChange fnExactMultiOfWrong)

/-- 'laws.FnExactSingleOf': WHATEVER THE INPUT: true; the input reads as it did. -/
def fnExactSingleOfSpec : ChangeSpec := { name := "fnExactSingleOf", fn := fun _ => fun
  | [d] => { results := [.lit (.bool true)], args := [d] }
  | _ => none }
def fnExactSingleOfRow : OpenClaim := { program := "ytmnkfflmljeokaa", sum := "cefde5695a2d4580d7089d6bb444e22300b8c2448cde12cde1e675c6f5ba2f73", func := "loop.example/g00927/laws.FnExactSingleOf", spec := "fnExactSingleOf", unfollowed := true, recurses := true, apart := false }
def FnExactSingleOfSaid : Prop := fnExactSingleOfRow.holds Try.pinned (OpenSpec.ofChange fnExactSingleOfSpec)

/-- ITS FALSE NEIGHBOUR: 'it returns false'. Refute it at one input. -/
def fnExactSingleOfWrong : ChangeSpec := { name := "fnExactSingleOf", fn := fun _ => fun
  | [d] => { results := [.lit (.bool false)], args := [d] }
  | _ => none }
def FnExactSingleOfWrongFalsely : Prop := fnExactSingleOfRow.holds Try.pinned (OpenSpec.ofChange fnExactSingleOfWrong)

/-- 'laws.FnExactMultiProps': WHATEVER THE INPUT: true; the input reads as it did. -/
def fnExactMultiPropsSpec : ChangeSpec := { name := "fnExactMultiProps", fn := fun _ => fun
  | [d] => { results := [.lit (.bool true)], args := [d] }
  | _ => none }
def fnExactMultiPropsRow : OpenClaim := { program := "ytmnkfflmljeokaa", sum := "cefde5695a2d4580d7089d6bb444e22300b8c2448cde12cde1e675c6f5ba2f73", func := "loop.example/g00927/laws.FnExactMultiProps", spec := "fnExactMultiProps", unfollowed := true, recurses := true, apart := false }
def FnExactMultiPropsSaid : Prop := fnExactMultiPropsRow.holds Try.pinned (OpenSpec.ofChange fnExactMultiPropsSpec)

/-- ITS FALSE NEIGHBOUR: 'it returns false'. Refute it at one input. -/
def fnExactMultiPropsWrong : ChangeSpec := { name := "fnExactMultiProps", fn := fun _ => fun
  | [d] => { results := [.lit (.bool false)], args := [d] }
  | _ => none }
def FnExactMultiPropsWrongFalsely : Prop := fnExactMultiPropsRow.holds Try.pinned (OpenSpec.ofChange fnExactMultiPropsWrong)

/-- 'laws.FnExactMultiLandings': WHATEVER THE INPUT: true; the input reads as it did. -/
def fnExactMultiLandingsSpec : ChangeSpec := { name := "fnExactMultiLandings", fn := fun _ => fun
  | [d] => { results := [.lit (.bool true)], args := [d] }
  | _ => none }
def fnExactMultiLandingsRow : OpenClaim := { program := "ytmnkfflmljeokaa", sum := "cefde5695a2d4580d7089d6bb444e22300b8c2448cde12cde1e675c6f5ba2f73", func := "loop.example/g00927/laws.FnExactMultiLandings", spec := "fnExactMultiLandings", unfollowed := true, recurses := true, apart := false }
def FnExactMultiLandingsSaid : Prop := fnExactMultiLandingsRow.holds Try.pinned (OpenSpec.ofChange fnExactMultiLandingsSpec)

/-- ITS FALSE NEIGHBOUR: 'it returns false'. Refute it at one input. -/
def fnExactMultiLandingsWrong : ChangeSpec := { name := "fnExactMultiLandings", fn := fun _ => fun
  | [d] => { results := [.lit (.bool false)], args := [d] }
  | _ => none }
def FnExactMultiLandingsWrongFalsely : Prop := fnExactMultiLandingsRow.holds Try.pinned (OpenSpec.ofChange fnExactMultiLandingsWrong)

/-- 'laws.FnExactSortBeat': WHATEVER THE INPUT: true; the input reads as it did. -/
def fnExactSortBeatSpec : ChangeSpec := { name := "fnExactSortBeat", fn := fun _ => fun
  | [d] => { results := [.lit (.bool true)], args := [d] }
  | _ => none }
def fnExactSortBeatRow : OpenClaim := { program := "ytmnkfflmljeokaa", sum := "cefde5695a2d4580d7089d6bb444e22300b8c2448cde12cde1e675c6f5ba2f73", func := "loop.example/g00927/laws.FnExactSortBeat", spec := "fnExactSortBeat", unfollowed := true, recurses := true, apart := false }
def FnExactSortBeatSaid : Prop := fnExactSortBeatRow.holds Try.pinned (OpenSpec.ofChange fnExactSortBeatSpec)

/-- ITS FALSE NEIGHBOUR: 'it returns false'. Refute it at one input. -/
def fnExactSortBeatWrong : ChangeSpec := { name := "fnExactSortBeat", fn := fun _ => fun
  | [d] => { results := [.lit (.bool false)], args := [d] }
  | _ => none }
def FnExactSortBeatWrongFalsely : Prop := fnExactSortBeatRow.holds Try.pinned (OpenSpec.ofChange fnExactSortBeatWrong)

/-- 'laws.FnExactRotateMulti': WHATEVER THE INPUT: true; the input reads as it did. -/
def fnExactRotateMultiSpec : ChangeSpec := { name := "fnExactRotateMulti", fn := fun _ => fun
  | [d1, d2] => { results := [.lit (.bool true)], args := [d1, d2] }
  | _ => none }
def fnExactRotateMultiRow : OpenClaim := { program := "ytmnkfflmljeokaa", sum := "cefde5695a2d4580d7089d6bb444e22300b8c2448cde12cde1e675c6f5ba2f73", func := "loop.example/g00927/laws.FnExactRotateMulti", spec := "fnExactRotateMulti", unfollowed := true, recurses := true, apart := false }
def FnExactRotateMultiSaid : Prop := fnExactRotateMultiRow.holds Try.pinned (OpenSpec.ofChange fnExactRotateMultiSpec)

/-- ITS FALSE NEIGHBOUR: 'it returns false'. Refute it at one input. -/
def fnExactRotateMultiWrong : ChangeSpec := { name := "fnExactRotateMulti", fn := fun _ => fun
  | [d1, d2] => { results := [.lit (.bool false)], args := [d1, d2] }
  | _ => none }
def FnExactRotateMultiWrongFalsely : Prop := fnExactRotateMultiRow.holds Try.pinned (OpenSpec.ofChange fnExactRotateMultiWrong)

/-- 'laws.FnExactAddMulti': WHATEVER THE INPUT: true; the input reads as it did. -/
def fnExactAddMultiSpec : ChangeSpec := { name := "fnExactAddMulti", fn := fun _ => fun
  | [d1, d2] => { results := [.lit (.bool true)], args := [d1, d2] }
  | _ => none }
def fnExactAddMultiRow : OpenClaim := { program := "ytmnkfflmljeokaa", sum := "cefde5695a2d4580d7089d6bb444e22300b8c2448cde12cde1e675c6f5ba2f73", func := "loop.example/g00927/laws.FnExactAddMulti", spec := "fnExactAddMulti", unfollowed := true, recurses := true, apart := false }
def FnExactAddMultiSaid : Prop := fnExactAddMultiRow.holds Try.pinned (OpenSpec.ofChange fnExactAddMultiSpec)

/-- ITS FALSE NEIGHBOUR: 'it returns false'. Refute it at one input. -/
def fnExactAddMultiWrong : ChangeSpec := { name := "fnExactAddMulti", fn := fun _ => fun
  | [d1, d2] => { results := [.lit (.bool false)], args := [d1, d2] }
  | _ => none }
def FnExactAddMultiWrongFalsely : Prop := fnExactAddMultiRow.holds Try.pinned (OpenSpec.ofChange fnExactAddMultiWrong)

/-- 'laws.FnExactMultiText': WHATEVER THE INPUT: true; the input reads as it did. -/
def fnExactMultiTextSpec : ChangeSpec := { name := "fnExactMultiText", fn := fun _ => fun
  | [d] => { results := [.lit (.bool true)], args := [d] }
  | _ => none }
def fnExactMultiTextRow : OpenClaim := { program := "ytmnkfflmljeokaa", sum := "cefde5695a2d4580d7089d6bb444e22300b8c2448cde12cde1e675c6f5ba2f73", func := "loop.example/g00927/laws.FnExactMultiText", spec := "fnExactMultiText", inPlace := ["internal/abi.NoEscape"], unfollowed := true, recurses := true, apart := false }
def FnExactMultiTextSaid : Prop := fnExactMultiTextRow.holds Try.pinned (OpenSpec.ofChange fnExactMultiTextSpec)

/-- ITS FALSE NEIGHBOUR: 'it returns false'. Refute it at one input. -/
def fnExactMultiTextWrong : ChangeSpec := { name := "fnExactMultiText", fn := fun _ => fun
  | [d] => { results := [.lit (.bool false)], args := [d] }
  | _ => none }
def FnExactMultiTextWrongFalsely : Prop := fnExactMultiTextRow.holds Try.pinned (OpenSpec.ofChange fnExactMultiTextWrong)

/-- 'laws.FnExactReadMulti': WHATEVER THE INPUT: true; the input reads as it did. -/
def fnExactReadMultiSpec : ChangeSpec := { name := "fnExactReadMulti", fn := fun _ => fun
  | [d] => { results := [.lit (.bool true)], args := [d] }
  | _ => none }
def fnExactReadMultiRow : OpenClaim := { program := "ytmnkfflmljeokaa", sum := "cefde5695a2d4580d7089d6bb444e22300b8c2448cde12cde1e675c6f5ba2f73", func := "loop.example/g00927/laws.FnExactReadMulti", spec := "fnExactReadMulti", inPlace := ["internal/abi.NoEscape"], unfollowed := true, recurses := true, apart := false }
def FnExactReadMultiSaid : Prop := fnExactReadMultiRow.holds Try.pinned (OpenSpec.ofChange fnExactReadMultiSpec)

/-- ITS FALSE NEIGHBOUR: 'it returns false'. Refute it at one input. -/
def fnExactReadMultiWrong : ChangeSpec := { name := "fnExactReadMulti", fn := fun _ => fun
  | [d] => { results := [.lit (.bool false)], args := [d] }
  | _ => none }
def FnExactReadMultiWrongFalsely : Prop := fnExactReadMultiRow.holds Try.pinned (OpenSpec.ofChange fnExactReadMultiWrong)

/- THE SECOND FORM. 'bulk': how many values and letters a reading holds, each counted each time it is reached (what is shared counts as often as it is met; a slice's spare places count too). A statement '..UptoSaid' is the law's where the arguments, and the package variables that the reading takes, are together of bulk at most 1048576: NARROWER than '..Said'. Prove '..Said' where nothing that the law and all that it calls make is longer than what came in: it says more and counts as full. Else prove '..UptoSaid'. A law counts once. -/
mutual
def uptoBulk {H : Type} : DataW H → Nat
  | .lit (.string bytes) => bytes.length + 1
  | .lit _ => 1
  | .nil => 1
  | .ptr d => uptoBulk d + 1
  | .slice elems spare => uptoBulkAll elems + uptoBulkAll spare + 1
  | .agg parts => uptoBulkAll parts + 1
  | .iface _ d => uptoBulk d + 1
  | .map entries => uptoBulkEntries entries + 1
  | .held _ => 1
def uptoBulkAll {H : Type} : List (DataW H) → Nat
  | [] => 0
  | d :: r => uptoBulk d + uptoBulkAll r
def uptoBulkEntries {H : Type} : List (Lit × DataW H) → Nat
  | [] => 0
  | x :: r => uptoBulkEntry x + uptoBulkEntries r
def uptoBulkEntry {H : Type} : Lit × DataW H → Nat
  | (.string bytes, d) => bytes.length + uptoBulk d + 1
  | (_, d) => uptoBulk d + 1
 end
def uptoSmall : (H : Type) → List (DataW H) → Bool := fun _ ds => decide (uptoBulkAll ds ≤ 1048576)
def OpenSpec.upto (s : _root_.Go.ChangeSpec) : _root_.Go.OpenSpec := { _root_.Go.OpenSpec.ofChange s with cond := some uptoSmall }

/-- 'laws.FnMultis', WHERE WHAT IT READS IS OF BULK AT MOST 1048576: true; the input reads as it did. -/
def fnMultisUptoRow : OpenClaim := { program := "ytmnkfflmljeokaa", sum := "cefde5695a2d4580d7089d6bb444e22300b8c2448cde12cde1e675c6f5ba2f73", func := "loop.example/g00927/laws.FnMultis", spec := "fnMultis", unfollowed := true, recurses := true, apart := false, narrowed := true }
def FnMultisUptoSaid : Prop := fnMultisUptoRow.holds Try.pinned (OpenSpec.upto fnMultisSpec)

/-- 'laws.FnMultiTexts', WHERE WHAT IT READS IS OF BULK AT MOST 1048576: true; the input reads as it did. -/
def fnMultiTextsUptoRow : OpenClaim := { program := "ytmnkfflmljeokaa", sum := "cefde5695a2d4580d7089d6bb444e22300b8c2448cde12cde1e675c6f5ba2f73", func := "loop.example/g00927/laws.FnMultiTexts", spec := "fnMultiTexts", inPlace := ["internal/abi.NoEscape"], unfollowed := true, recurses := true, apart := false, narrowed := true }
def FnMultiTextsUptoSaid : Prop := fnMultiTextsUptoRow.holds Try.pinned (OpenSpec.upto fnMultiTextsSpec)

/-- 'laws.FnExactValidMulti', WHERE WHAT IT READS IS OF BULK AT MOST 1048576: true; the input reads as it did. -/
def fnExactValidMultiUptoRow : OpenClaim := { program := "ytmnkfflmljeokaa", sum := "cefde5695a2d4580d7089d6bb444e22300b8c2448cde12cde1e675c6f5ba2f73", func := "loop.example/g00927/laws.FnExactValidMulti", spec := "fnExactValidMulti", unfollowed := true, recurses := true, apart := false, narrowed := true }
def FnExactValidMultiUptoSaid : Prop := fnExactValidMultiUptoRow.holds Try.pinned (OpenSpec.upto fnExactValidMultiSpec)

/-- 'laws.FnExactSameMulti', WHERE WHAT IT READS IS OF BULK AT MOST 1048576: true; the input reads as it did. -/
def fnExactSameMultiUptoRow : OpenClaim := { program := "ytmnkfflmljeokaa", sum := "cefde5695a2d4580d7089d6bb444e22300b8c2448cde12cde1e675c6f5ba2f73", func := "loop.example/g00927/laws.FnExactSameMulti", spec := "fnExactSameMulti", unfollowed := true, recurses := true, apart := false, narrowed := true }
def FnExactSameMultiUptoSaid : Prop := fnExactSameMultiUptoRow.holds Try.pinned (OpenSpec.upto fnExactSameMultiSpec)

/-- 'laws.FnExactMultiOf', WHERE WHAT IT READS IS OF BULK AT MOST 1048576: true; the input reads as it did. -/
def fnExactMultiOfUptoRow : OpenClaim := { program := "ytmnkfflmljeokaa", sum := "cefde5695a2d4580d7089d6bb444e22300b8c2448cde12cde1e675c6f5ba2f73", func := "loop.example/g00927/laws.FnExactMultiOf", spec := "fnExactMultiOf", apart := false, narrowed := true }
def FnExactMultiOfUptoSaid : Prop := fnExactMultiOfUptoRow.holds Try.pinned (OpenSpec.upto fnExactMultiOfSpec)

/-- 'laws.FnExactSingleOf', WHERE WHAT IT READS IS OF BULK AT MOST 1048576: true; the input reads as it did. -/
def fnExactSingleOfUptoRow : OpenClaim := { program := "ytmnkfflmljeokaa", sum := "cefde5695a2d4580d7089d6bb444e22300b8c2448cde12cde1e675c6f5ba2f73", func := "loop.example/g00927/laws.FnExactSingleOf", spec := "fnExactSingleOf", unfollowed := true, recurses := true, apart := false, narrowed := true }
def FnExactSingleOfUptoSaid : Prop := fnExactSingleOfUptoRow.holds Try.pinned (OpenSpec.upto fnExactSingleOfSpec)

/-- 'laws.FnExactMultiProps', WHERE WHAT IT READS IS OF BULK AT MOST 1048576: true; the input reads as it did. -/
def fnExactMultiPropsUptoRow : OpenClaim := { program := "ytmnkfflmljeokaa", sum := "cefde5695a2d4580d7089d6bb444e22300b8c2448cde12cde1e675c6f5ba2f73", func := "loop.example/g00927/laws.FnExactMultiProps", spec := "fnExactMultiProps", unfollowed := true, recurses := true, apart := false, narrowed := true }
def FnExactMultiPropsUptoSaid : Prop := fnExactMultiPropsUptoRow.holds Try.pinned (OpenSpec.upto fnExactMultiPropsSpec)

/-- 'laws.FnExactMultiLandings', WHERE WHAT IT READS IS OF BULK AT MOST 1048576: true; the input reads as it did. -/
def fnExactMultiLandingsUptoRow : OpenClaim := { program := "ytmnkfflmljeokaa", sum := "cefde5695a2d4580d7089d6bb444e22300b8c2448cde12cde1e675c6f5ba2f73", func := "loop.example/g00927/laws.FnExactMultiLandings", spec := "fnExactMultiLandings", unfollowed := true, recurses := true, apart := false, narrowed := true }
def FnExactMultiLandingsUptoSaid : Prop := fnExactMultiLandingsUptoRow.holds Try.pinned (OpenSpec.upto fnExactMultiLandingsSpec)

/-- 'laws.FnExactSortBeat', WHERE WHAT IT READS IS OF BULK AT MOST 1048576: true; the input reads as it did. -/
def fnExactSortBeatUptoRow : OpenClaim := { program := "ytmnkfflmljeokaa", sum := "cefde5695a2d4580d7089d6bb444e22300b8c2448cde12cde1e675c6f5ba2f73", func := "loop.example/g00927/laws.FnExactSortBeat", spec := "fnExactSortBeat", unfollowed := true, recurses := true, apart := false, narrowed := true }
def FnExactSortBeatUptoSaid : Prop := fnExactSortBeatUptoRow.holds Try.pinned (OpenSpec.upto fnExactSortBeatSpec)

/-- 'laws.FnExactRotateMulti', WHERE WHAT IT READS IS OF BULK AT MOST 1048576: true; the input reads as it did. -/
def fnExactRotateMultiUptoRow : OpenClaim := { program := "ytmnkfflmljeokaa", sum := "cefde5695a2d4580d7089d6bb444e22300b8c2448cde12cde1e675c6f5ba2f73", func := "loop.example/g00927/laws.FnExactRotateMulti", spec := "fnExactRotateMulti", unfollowed := true, recurses := true, apart := false, narrowed := true }
def FnExactRotateMultiUptoSaid : Prop := fnExactRotateMultiUptoRow.holds Try.pinned (OpenSpec.upto fnExactRotateMultiSpec)

/-- 'laws.FnExactAddMulti', WHERE WHAT IT READS IS OF BULK AT MOST 1048576: true; the input reads as it did. -/
def fnExactAddMultiUptoRow : OpenClaim := { program := "ytmnkfflmljeokaa", sum := "cefde5695a2d4580d7089d6bb444e22300b8c2448cde12cde1e675c6f5ba2f73", func := "loop.example/g00927/laws.FnExactAddMulti", spec := "fnExactAddMulti", unfollowed := true, recurses := true, apart := false, narrowed := true }
def FnExactAddMultiUptoSaid : Prop := fnExactAddMultiUptoRow.holds Try.pinned (OpenSpec.upto fnExactAddMultiSpec)

/-- 'laws.FnExactMultiText', WHERE WHAT IT READS IS OF BULK AT MOST 1048576: true; the input reads as it did. -/
def fnExactMultiTextUptoRow : OpenClaim := { program := "ytmnkfflmljeokaa", sum := "cefde5695a2d4580d7089d6bb444e22300b8c2448cde12cde1e675c6f5ba2f73", func := "loop.example/g00927/laws.FnExactMultiText", spec := "fnExactMultiText", inPlace := ["internal/abi.NoEscape"], unfollowed := true, recurses := true, apart := false, narrowed := true }
def FnExactMultiTextUptoSaid : Prop := fnExactMultiTextUptoRow.holds Try.pinned (OpenSpec.upto fnExactMultiTextSpec)

/-- 'laws.FnExactReadMulti', WHERE WHAT IT READS IS OF BULK AT MOST 1048576: true; the input reads as it did. -/
def fnExactReadMultiUptoRow : OpenClaim := { program := "ytmnkfflmljeokaa", sum := "cefde5695a2d4580d7089d6bb444e22300b8c2448cde12cde1e675c6f5ba2f73", func := "loop.example/g00927/laws.FnExactReadMulti", spec := "fnExactReadMulti", inPlace := ["internal/abi.NoEscape"], unfollowed := true, recurses := true, apart := false, narrowed := true }
def FnExactReadMultiUptoSaid : Prop := fnExactReadMultiUptoRow.holds Try.pinned (OpenSpec.upto fnExactReadMultiSpec)

end Rows
end Go.Proofs.Ytmnkfflmljeokaa
