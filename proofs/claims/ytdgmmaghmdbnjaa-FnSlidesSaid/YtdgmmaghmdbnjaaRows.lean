/-
  No cell of these rows narrows 'for every input' (looked for: loops, veiled, ifaces, maps, wideKeys, modest, calm, conditions, laid).
  DERIVED. THE GIVEN ROWS OF THIS SEAT. 7 by the template 'for every input the law returns true; each argument reads behind the call as it read before'; 0 by the template 'total and deterministic' (their statements: YtdgmmaghmdbnjaaTotals.lean).
  GIVEN WITH THE SEED: the statements are not yours to turn. If you find one false, say at which input.
  Laid BY PROGRAM, IN A SANDBOX (cutbox-rows.mjs): the forced cells as the released guide's own fill.sh prints them over the translation 2cc5b33ed8f0fcde… (all of the seat's roots in one cut). By AI agents, Wed Nov 11 2026. No macro, syntax, notation, axiom, sorry.
-/
import Derived.Test.YtdgmmaghmdbnjaaChecked
import GoSem.Claim
import GoSem.ClaimJoined
import GoSem.ClaimMapViews
import Derived.JoinedTies
import Derived.KernelRfl
namespace Go.Proofs.Ytdgmmaghmdbnjaa
/- THE CELL 'sum', in the pinned program and in every row, IS THE sha256 OF THE DUMP (.gsa) THAT YtdgmmaghmdbnjaaProg.lean LOADS. Nothing in Lean hashes anything: it is a label: what it is worth is what the hold of that sum in a sandbox is worth. -/
noncomputable def Try.pinned : Pinned := { name := "ytdgmmaghmdbnjaa", sum := "2cc5b33ed8f0fcde9595efe29a5d6ec349081bd7501f6e92e14f701df0783b8b", checked := Try.checked }
namespace Rows
def none {H : Type} : Left H := { results := [], args := [] }

/-- 'laws.FnMultis': WHATEVER THE INPUT: true; the input reads as it did. -/
def fnMultisSpec : ChangeSpec := { name := "fnMultis", fn := fun _ => fun
  | [d] => { results := [.lit (.bool true)], args := [d] }
  | _ => none }
def fnMultisRow : OpenClaim := { program := "ytdgmmaghmdbnjaa", sum := "2cc5b33ed8f0fcde9595efe29a5d6ec349081bd7501f6e92e14f701df0783b8b", func := "loop.example/g00927/laws.FnMultis", spec := "fnMultis", unfollowed := true, recurses := true, plainKeys := false, apart := false }
def FnMultisSaid : Prop := fnMultisRow.holds Try.pinned (OpenSpec.ofChange fnMultisSpec)

/-- ITS FALSE NEIGHBOUR: 'it returns false'. Refute it at one input. -/
def fnMultisWrong : ChangeSpec := { name := "fnMultis", fn := fun _ => fun
  | [d] => { results := [.lit (.bool false)], args := [d] }
  | _ => none }
def FnMultisWrongFalsely : Prop := fnMultisRow.holds Try.pinned (OpenSpec.ofChange fnMultisWrong)

/-- 'laws.FnMultiTexts': WHATEVER THE INPUT: true; the input reads as it did. -/
def fnMultiTextsSpec : ChangeSpec := { name := "fnMultiTexts", fn := fun _ => fun
  | [d] => { results := [.lit (.bool true)], args := [d] }
  | _ => none }
def fnMultiTextsRow : OpenClaim := { program := "ytdgmmaghmdbnjaa", sum := "2cc5b33ed8f0fcde9595efe29a5d6ec349081bd7501f6e92e14f701df0783b8b", func := "loop.example/g00927/laws.FnMultiTexts", spec := "fnMultiTexts", inPlace := ["internal/abi.NoEscape"], unfollowed := true, recurses := true, plainKeys := false, apart := false }
def FnMultiTextsSaid : Prop := fnMultiTextsRow.holds Try.pinned (OpenSpec.ofChange fnMultiTextsSpec)

/-- ITS FALSE NEIGHBOUR: 'it returns false'. Refute it at one input. -/
def fnMultiTextsWrong : ChangeSpec := { name := "fnMultiTexts", fn := fun _ => fun
  | [d] => { results := [.lit (.bool false)], args := [d] }
  | _ => none }
def FnMultiTextsWrongFalsely : Prop := fnMultiTextsRow.holds Try.pinned (OpenSpec.ofChange fnMultiTextsWrong)

/-- 'laws.FnSlides': WHATEVER THE INPUT: true; the input reads as it did. -/
def fnSlidesSpec : ChangeSpec := { name := "fnSlides", fn := fun _ => fun
  | [d] => { results := [.lit (.bool true)], args := [d] }
  | _ => none }
def fnSlidesRow : OpenClaim := { program := "ytdgmmaghmdbnjaa", sum := "2cc5b33ed8f0fcde9595efe29a5d6ec349081bd7501f6e92e14f701df0783b8b", func := "loop.example/g00927/laws.FnSlides", spec := "fnSlides", plainKeys := false, apart := false }
def FnSlidesSaid : Prop := fnSlidesRow.holds Try.pinned (OpenSpec.ofChange fnSlidesSpec)

/-- ITS FALSE NEIGHBOUR: 'it returns false'. Refute it at one input. -/
def fnSlidesWrong : ChangeSpec := { name := "fnSlides", fn := fun _ => fun
  | [d] => { results := [.lit (.bool false)], args := [d] }
  | _ => none }
def FnSlidesWrongFalsely : Prop := fnSlidesRow.holds Try.pinned (OpenSpec.ofChange fnSlidesWrong)

/-- 'laws.FnMirrors': WHATEVER THE INPUT: true; the input reads as it did. -/
def fnMirrorsSpec : ChangeSpec := { name := "fnMirrors", fn := fun _ => fun
  | [d] => { results := [.lit (.bool true)], args := [d] }
  | _ => none }
def fnMirrorsRow : OpenClaim := { program := "ytdgmmaghmdbnjaa", sum := "2cc5b33ed8f0fcde9595efe29a5d6ec349081bd7501f6e92e14f701df0783b8b", func := "loop.example/g00927/laws.FnMirrors", spec := "fnMirrors", plainKeys := false, apart := false }
def FnMirrorsSaid : Prop := fnMirrorsRow.holds Try.pinned (OpenSpec.ofChange fnMirrorsSpec)

/-- ITS FALSE NEIGHBOUR: 'it returns false'. Refute it at one input. -/
def fnMirrorsWrong : ChangeSpec := { name := "fnMirrors", fn := fun _ => fun
  | [d] => { results := [.lit (.bool false)], args := [d] }
  | _ => none }
def FnMirrorsWrongFalsely : Prop := fnMirrorsRow.holds Try.pinned (OpenSpec.ofChange fnMirrorsWrong)

/-- 'laws.FnExactAddMulti': WHATEVER THE INPUT: true; the input reads as it did. -/
def fnExactAddMultiSpec : ChangeSpec := { name := "fnExactAddMulti", fn := fun _ => fun
  | [d1, d2] => { results := [.lit (.bool true)], args := [d1, d2] }
  | _ => none }
def fnExactAddMultiRow : OpenClaim := { program := "ytdgmmaghmdbnjaa", sum := "2cc5b33ed8f0fcde9595efe29a5d6ec349081bd7501f6e92e14f701df0783b8b", func := "loop.example/g00927/laws.FnExactAddMulti", spec := "fnExactAddMulti", unfollowed := true, recurses := true, plainKeys := false, apart := false }
def FnExactAddMultiSaid : Prop := fnExactAddMultiRow.holds Try.pinned (OpenSpec.ofChange fnExactAddMultiSpec)

/-- ITS FALSE NEIGHBOUR: 'it returns false'. Refute it at one input. -/
def fnExactAddMultiWrong : ChangeSpec := { name := "fnExactAddMulti", fn := fun _ => fun
  | [d1, d2] => { results := [.lit (.bool false)], args := [d1, d2] }
  | _ => none }
def FnExactAddMultiWrongFalsely : Prop := fnExactAddMultiRow.holds Try.pinned (OpenSpec.ofChange fnExactAddMultiWrong)

/-- 'laws.FnExactReadMulti': WHATEVER THE INPUT: true; the input reads as it did. -/
def fnExactReadMultiSpec : ChangeSpec := { name := "fnExactReadMulti", fn := fun _ => fun
  | [d] => { results := [.lit (.bool true)], args := [d] }
  | _ => none }
def fnExactReadMultiRow : OpenClaim := { program := "ytdgmmaghmdbnjaa", sum := "2cc5b33ed8f0fcde9595efe29a5d6ec349081bd7501f6e92e14f701df0783b8b", func := "loop.example/g00927/laws.FnExactReadMulti", spec := "fnExactReadMulti", inPlace := ["internal/abi.NoEscape"], unfollowed := true, recurses := true, plainKeys := false, apart := false }
def FnExactReadMultiSaid : Prop := fnExactReadMultiRow.holds Try.pinned (OpenSpec.ofChange fnExactReadMultiSpec)

/-- ITS FALSE NEIGHBOUR: 'it returns false'. Refute it at one input. -/
def fnExactReadMultiWrong : ChangeSpec := { name := "fnExactReadMulti", fn := fun _ => fun
  | [d] => { results := [.lit (.bool false)], args := [d] }
  | _ => none }
def FnExactReadMultiWrongFalsely : Prop := fnExactReadMultiRow.holds Try.pinned (OpenSpec.ofChange fnExactReadMultiWrong)

/-- 'laws.FnExactPairUp': WHATEVER THE INPUT: true; the input reads as it did. -/
def fnExactPairUpSpec : ChangeSpec := { name := "fnExactPairUp", fn := fun _ => fun
  | [d] => { results := [.lit (.bool true)], args := [d] }
  | _ => none }
def fnExactPairUpRow : OpenClaim := { program := "ytdgmmaghmdbnjaa", sum := "2cc5b33ed8f0fcde9595efe29a5d6ec349081bd7501f6e92e14f701df0783b8b", func := "loop.example/g00927/laws.FnExactPairUp", spec := "fnExactPairUp", plainKeys := false, apart := false }
def FnExactPairUpSaid : Prop := fnExactPairUpRow.holds Try.pinned (OpenSpec.ofChange fnExactPairUpSpec)

/-- ITS FALSE NEIGHBOUR: 'it returns false'. Refute it at one input. -/
def fnExactPairUpWrong : ChangeSpec := { name := "fnExactPairUp", fn := fun _ => fun
  | [d] => { results := [.lit (.bool false)], args := [d] }
  | _ => none }
def FnExactPairUpWrongFalsely : Prop := fnExactPairUpRow.holds Try.pinned (OpenSpec.ofChange fnExactPairUpWrong)

/- THE SECOND FORM. 'bulk': how many values and letters a reading holds, each counted each time it is reached (what is shared counts as often as it is met; a slice's spare places count too). A statement '..UptoSaid' is the law's where the arguments, and the package variables that the reading takes, are together of bulk at most 1048576: NARROWER than '..Said'. Prove '..Said' where nothing that the law and all that it calls make is longer than what came in: it says more and counts as full. Else prove '..UptoSaid'. A law counts once. -/
mutual
def uptoBulk {H : Type} : DataW H → Nat
  | .lit (.string bytes) => bytes.length + 1
  | .lit _ => 1
  | .nil => 1
  | .ptr d => uptoBulk d + 1
  | .slice elems spare => uptoBulkAll elems + uptoBulkAll spare + 1
  | .agg parts => uptoBulkAll parts + 1
  | .iface _ d => uptoBulk d + 1
  | .map entries => uptoBulkEntries entries + 1
  | .held _ => 1
def uptoBulkAll {H : Type} : List (DataW H) → Nat
  | [] => 0
  | d :: r => uptoBulk d + uptoBulkAll r
def uptoBulkEntries {H : Type} : List (Lit × DataW H) → Nat
  | [] => 0
  | x :: r => uptoBulkEntry x + uptoBulkEntries r
def uptoBulkEntry {H : Type} : Lit × DataW H → Nat
  | (.string bytes, d) => bytes.length + uptoBulk d + 1
  | (_, d) => uptoBulk d + 1
 end
def uptoSmall : (H : Type) → List (DataW H) → Bool := fun _ ds => decide (uptoBulkAll ds ≤ 1048576)
def OpenSpec.upto (s : _root_.Go.ChangeSpec) : _root_.Go.OpenSpec := { _root_.Go.OpenSpec.ofChange s with cond := some uptoSmall }

/-- 'laws.FnMultis', WHERE WHAT IT READS IS OF BULK AT MOST 1048576: true; the input reads as it did. -/
def fnMultisUptoRow : OpenClaim := { program := "ytdgmmaghmdbnjaa", sum := "2cc5b33ed8f0fcde9595efe29a5d6ec349081bd7501f6e92e14f701df0783b8b", func := "loop.example/g00927/laws.FnMultis", spec := "fnMultis", unfollowed := true, recurses := true, plainKeys := false, apart := false, narrowed := true }
def FnMultisUptoSaid : Prop := fnMultisUptoRow.holds Try.pinned (OpenSpec.upto fnMultisSpec)

/-- 'laws.FnMultiTexts', WHERE WHAT IT READS IS OF BULK AT MOST 1048576: true; the input reads as it did. -/
def fnMultiTextsUptoRow : OpenClaim := { program := "ytdgmmaghmdbnjaa", sum := "2cc5b33ed8f0fcde9595efe29a5d6ec349081bd7501f6e92e14f701df0783b8b", func := "loop.example/g00927/laws.FnMultiTexts", spec := "fnMultiTexts", inPlace := ["internal/abi.NoEscape"], unfollowed := true, recurses := true, plainKeys := false, apart := false, narrowed := true }
def FnMultiTextsUptoSaid : Prop := fnMultiTextsUptoRow.holds Try.pinned (OpenSpec.upto fnMultiTextsSpec)

/-- 'laws.FnSlides', WHERE WHAT IT READS IS OF BULK AT MOST 1048576: true; the input reads as it did. -/
def fnSlidesUptoRow : OpenClaim := { program := "ytdgmmaghmdbnjaa", sum := "2cc5b33ed8f0fcde9595efe29a5d6ec349081bd7501f6e92e14f701df0783b8b", func := "loop.example/g00927/laws.FnSlides", spec := "fnSlides", plainKeys := false, apart := false, narrowed := true }
def FnSlidesUptoSaid : Prop := fnSlidesUptoRow.holds Try.pinned (OpenSpec.upto fnSlidesSpec)

/-- 'laws.FnMirrors', WHERE WHAT IT READS IS OF BULK AT MOST 1048576: true; the input reads as it did. -/
def fnMirrorsUptoRow : OpenClaim := { program := "ytdgmmaghmdbnjaa", sum := "2cc5b33ed8f0fcde9595efe29a5d6ec349081bd7501f6e92e14f701df0783b8b", func := "loop.example/g00927/laws.FnMirrors", spec := "fnMirrors", plainKeys := false, apart := false, narrowed := true }
def FnMirrorsUptoSaid : Prop := fnMirrorsUptoRow.holds Try.pinned (OpenSpec.upto fnMirrorsSpec)

/-- 'laws.FnExactAddMulti', WHERE WHAT IT READS IS OF BULK AT MOST 1048576: true; the input reads as it did. -/
def fnExactAddMultiUptoRow : OpenClaim := { program := "ytdgmmaghmdbnjaa", sum := "2cc5b33ed8f0fcde9595efe29a5d6ec349081bd7501f6e92e14f701df0783b8b", func := "loop.example/g00927/laws.FnExactAddMulti", spec := "fnExactAddMulti", unfollowed := true, recurses := true, plainKeys := false, apart := false, narrowed := true }
def FnExactAddMultiUptoSaid : Prop := fnExactAddMultiUptoRow.holds Try.pinned (OpenSpec.upto fnExactAddMultiSpec)

/-- 'laws.FnExactReadMulti', WHERE WHAT IT READS IS OF BULK AT MOST 1048576: true; the input reads as it did. -/
def fnExactReadMultiUptoRow : OpenClaim := { program := "ytdgmmaghmdbnjaa", sum := "2cc5b33ed8f0fcde9595efe29a5d6ec349081bd7501f6e92e14f701df0783b8b", func := "loop.example/g00927/laws.FnExactReadMulti", spec := "fnExactReadMulti", inPlace := ["internal/abi.NoEscape"], unfollowed := true, recurses := true, plainKeys := false, apart := false, narrowed := true }
def FnExactReadMultiUptoSaid : Prop := fnExactReadMultiUptoRow.holds Try.pinned (OpenSpec.upto fnExactReadMultiSpec)

/-- 'laws.FnExactPairUp', WHERE WHAT IT READS IS OF BULK AT MOST 1048576: true; the input reads as it did. -/
def fnExactPairUpUptoRow : OpenClaim := { program := "ytdgmmaghmdbnjaa", sum := "2cc5b33ed8f0fcde9595efe29a5d6ec349081bd7501f6e92e14f701df0783b8b", func := "loop.example/g00927/laws.FnExactPairUp", spec := "fnExactPairUp", plainKeys := false, apart := false, narrowed := true }
def FnExactPairUpUptoSaid : Prop := fnExactPairUpUptoRow.holds Try.pinned (OpenSpec.upto fnExactPairUpSpec)

end Rows
end Go.Proofs.Ytdgmmaghmdbnjaa
