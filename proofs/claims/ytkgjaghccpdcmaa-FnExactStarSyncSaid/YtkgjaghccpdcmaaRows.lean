/-
  No cell of these rows narrows 'for every input' (looked for: loops, veiled, ifaces, maps, wideKeys, modest, calm, conditions, laid).
  DERIVED. THE GIVEN ROWS OF THIS SEAT. 11 by the template 'for every input the law returns true; each argument reads behind the call as it read before'; 0 by the template 'total and deterministic' (their statements: YtkgjaghccpdcmaaTotals.lean).
  GIVEN WITH THE SEED: the statements are not yours to turn. If you find one false, say at which input.
  Laid BY PROGRAM, IN A SANDBOX (cutbox-rows.mjs): the forced cells as the released guide's own fill.sh prints them over the translation 63eba5a926d00644… (all of the seat's roots in one cut). By AI agents, Wed Nov 11 2026. No macro, syntax, notation, axiom, sorry.
-/
import Derived.Test.YtkgjaghccpdcmaaChecked
import GoSem.Claim
import GoSem.ClaimJoined
import GoSem.ClaimMapViews
import Derived.JoinedTies
import Derived.KernelRfl
namespace Go.Proofs.Ytkgjaghccpdcmaa
/- THE CELL 'sum', in the pinned program and in every row, IS THE sha256 OF THE DUMP (.gsa) THAT YtkgjaghccpdcmaaProg.lean LOADS. Nothing in Lean hashes anything: it is a label: what it is worth is what the hold of that sum in a sandbox is worth. -/
noncomputable def Try.pinned : Pinned := { name := "ytkgjaghccpdcmaa", sum := "63eba5a926d006449658381301543f92ba24644524628c14952b66a25ccaa4cd", checked := Try.checked }
namespace Rows
def none {H : Type} : Left H := { results := [], args := [] }

/-- 'laws.FnSlides': WHATEVER THE INPUT: true; the input reads as it did. -/
def fnSlidesSpec : ChangeSpec := { name := "fnSlides", fn := fun _ => fun
  | [d] => { results := [.lit (.bool true)], args := [d] }
  | _ => none }
def fnSlidesRow : OpenClaim := { program := "ytkgjaghccpdcmaa", sum := "63eba5a926d006449658381301543f92ba24644524628c14952b66a25ccaa4cd", func := "loop.example/g00927/laws.FnSlides", spec := "fnSlides", plainKeys := false, apart := false }
def FnSlidesSaid : Prop := fnSlidesRow.holds Try.pinned (OpenSpec.ofChange fnSlidesSpec)

/-- ITS FALSE NEIGHBOUR: 'it returns false'. Refute it at one input. -/
def fnSlidesWrong : ChangeSpec := { name := "fnSlides", fn := fun _ => fun
  | [d] => { results := [.lit (.bool false)], args := [d] }
  | _ => none }
def FnSlidesWrongFalsely : Prop := fnSlidesRow.holds Try.pinned (OpenSpec.ofChange fnSlidesWrong)

/-- 'laws.FnMirrors': WHATEVER THE INPUT: true; the input reads as it did. -/
def fnMirrorsSpec : ChangeSpec := { name := "fnMirrors", fn := fun _ => fun
  | [d] => { results := [.lit (.bool true)], args := [d] }
  | _ => none }
def fnMirrorsRow : OpenClaim := { program := "ytkgjaghccpdcmaa", sum := "63eba5a926d006449658381301543f92ba24644524628c14952b66a25ccaa4cd", func := "loop.example/g00927/laws.FnMirrors", spec := "fnMirrors", plainKeys := false, apart := false }
def FnMirrorsSaid : Prop := fnMirrorsRow.holds Try.pinned (OpenSpec.ofChange fnMirrorsSpec)

/-- ITS FALSE NEIGHBOUR: 'it returns false'. Refute it at one input. -/
def fnMirrorsWrong : ChangeSpec := { name := "fnMirrors", fn := fun _ => fun
  | [d] => { results := [.lit (.bool false)], args := [d] }
  | _ => none }
def FnMirrorsWrongFalsely : Prop := fnMirrorsRow.holds Try.pinned (OpenSpec.ofChange fnMirrorsWrong)

/-- 'laws.FnExactValidSync': WHATEVER THE INPUT: true; the input reads as it did. -/
def fnExactValidSyncSpec : ChangeSpec := { name := "fnExactValidSync", fn := fun _ => fun
  | [d] => { results := [.lit (.bool true)], args := [d] }
  | _ => none }
def fnExactValidSyncRow : OpenClaim := { program := "ytkgjaghccpdcmaa", sum := "63eba5a926d006449658381301543f92ba24644524628c14952b66a25ccaa4cd", func := "loop.example/g00927/laws.FnExactValidSync", spec := "fnExactValidSync", plainKeys := false, apart := false }
def FnExactValidSyncSaid : Prop := fnExactValidSyncRow.holds Try.pinned (OpenSpec.ofChange fnExactValidSyncSpec)

/-- ITS FALSE NEIGHBOUR: 'it returns false'. Refute it at one input. -/
def fnExactValidSyncWrong : ChangeSpec := { name := "fnExactValidSync", fn := fun _ => fun
  | [d] => { results := [.lit (.bool false)], args := [d] }
  | _ => none }
def FnExactValidSyncWrongFalsely : Prop := fnExactValidSyncRow.holds Try.pinned (OpenSpec.ofChange fnExactValidSyncWrong)

/-- 'laws.FnExactSameSync': WHATEVER THE INPUT: true; the input reads as it did. -/
def fnExactSameSyncSpec : ChangeSpec := { name := "fnExactSameSync", fn := fun _ => fun
  | [d1, d2] => { results := [.lit (.bool true)], args := [d1, d2] }
  | _ => none }
def fnExactSameSyncRow : OpenClaim := { program := "ytkgjaghccpdcmaa", sum := "63eba5a926d006449658381301543f92ba24644524628c14952b66a25ccaa4cd", func := "loop.example/g00927/laws.FnExactSameSync", spec := "fnExactSameSync", plainKeys := false, apart := false }
def FnExactSameSyncSaid : Prop := fnExactSameSyncRow.holds Try.pinned (OpenSpec.ofChange fnExactSameSyncSpec)

/-- ITS FALSE NEIGHBOUR: 'it returns false'. Refute it at one input. -/
def fnExactSameSyncWrong : ChangeSpec := { name := "fnExactSameSync", fn := fun _ => fun
  | [d1, d2] => { results := [.lit (.bool false)], args := [d1, d2] }
  | _ => none }
def FnExactSameSyncWrongFalsely : Prop := fnExactSameSyncRow.holds Try.pinned (OpenSpec.ofChange fnExactSameSyncWrong)

/-- 'laws.FnExactSyncClash': WHATEVER THE INPUT: true; the input reads as it did. -/
def fnExactSyncClashSpec : ChangeSpec := { name := "fnExactSyncClash", fn := fun _ => fun
  | [d] => { results := [.lit (.bool true)], args := [d] }
  | _ => none }
def fnExactSyncClashRow : OpenClaim := { program := "ytkgjaghccpdcmaa", sum := "63eba5a926d006449658381301543f92ba24644524628c14952b66a25ccaa4cd", func := "loop.example/g00927/laws.FnExactSyncClash", spec := "fnExactSyncClash", plainKeys := false, apart := false }
def FnExactSyncClashSaid : Prop := fnExactSyncClashRow.holds Try.pinned (OpenSpec.ofChange fnExactSyncClashSpec)

/-- ITS FALSE NEIGHBOUR: 'it returns false'. Refute it at one input. -/
def fnExactSyncClashWrong : ChangeSpec := { name := "fnExactSyncClash", fn := fun _ => fun
  | [d] => { results := [.lit (.bool false)], args := [d] }
  | _ => none }
def FnExactSyncClashWrongFalsely : Prop := fnExactSyncClashRow.holds Try.pinned (OpenSpec.ofChange fnExactSyncClashWrong)

/-- 'laws.FnExactSyncProps': WHATEVER THE INPUT: true; the input reads as it did. -/
def fnExactSyncPropsSpec : ChangeSpec := { name := "fnExactSyncProps", fn := fun _ => fun
  | [d] => { results := [.lit (.bool true)], args := [d] }
  | _ => none }
def fnExactSyncPropsRow : OpenClaim := { program := "ytkgjaghccpdcmaa", sum := "63eba5a926d006449658381301543f92ba24644524628c14952b66a25ccaa4cd", func := "loop.example/g00927/laws.FnExactSyncProps", spec := "fnExactSyncProps", plainKeys := false, apart := false }
def FnExactSyncPropsSaid : Prop := fnExactSyncPropsRow.holds Try.pinned (OpenSpec.ofChange fnExactSyncPropsSpec)

/-- ITS FALSE NEIGHBOUR: 'it returns false'. Refute it at one input. -/
def fnExactSyncPropsWrong : ChangeSpec := { name := "fnExactSyncProps", fn := fun _ => fun
  | [d] => { results := [.lit (.bool false)], args := [d] }
  | _ => none }
def FnExactSyncPropsWrongFalsely : Prop := fnExactSyncPropsRow.holds Try.pinned (OpenSpec.ofChange fnExactSyncPropsWrong)

/-- 'laws.FnExactCrossCount': WHATEVER THE INPUT: true; the input reads as it did. -/
def fnExactCrossCountSpec : ChangeSpec := { name := "fnExactCrossCount", fn := fun _ => fun
  | [d] => { results := [.lit (.bool true)], args := [d] }
  | _ => none }
def fnExactCrossCountRow : OpenClaim := { program := "ytkgjaghccpdcmaa", sum := "63eba5a926d006449658381301543f92ba24644524628c14952b66a25ccaa4cd", func := "loop.example/g00927/laws.FnExactCrossCount", spec := "fnExactCrossCount", plainKeys := false, apart := false }
def FnExactCrossCountSaid : Prop := fnExactCrossCountRow.holds Try.pinned (OpenSpec.ofChange fnExactCrossCountSpec)

/-- ITS FALSE NEIGHBOUR: 'it returns false'. Refute it at one input. -/
def fnExactCrossCountWrong : ChangeSpec := { name := "fnExactCrossCount", fn := fun _ => fun
  | [d] => { results := [.lit (.bool false)], args := [d] }
  | _ => none }
def FnExactCrossCountWrongFalsely : Prop := fnExactCrossCountRow.holds Try.pinned (OpenSpec.ofChange fnExactCrossCountWrong)

/-- 'laws.FnExactMirrorSync': WHATEVER THE INPUT: true; the input reads as it did. -/
def fnExactMirrorSyncSpec : ChangeSpec := { name := "fnExactMirrorSync", fn := fun _ => fun
  | [d] => { results := [.lit (.bool true)], args := [d] }
  | _ => none }
def fnExactMirrorSyncRow : OpenClaim := { program := "ytkgjaghccpdcmaa", sum := "63eba5a926d006449658381301543f92ba24644524628c14952b66a25ccaa4cd", func := "loop.example/g00927/laws.FnExactMirrorSync", spec := "fnExactMirrorSync", plainKeys := false, apart := false }
def FnExactMirrorSyncSaid : Prop := fnExactMirrorSyncRow.holds Try.pinned (OpenSpec.ofChange fnExactMirrorSyncSpec)

/-- ITS FALSE NEIGHBOUR: 'it returns false'. Refute it at one input. -/
def fnExactMirrorSyncWrong : ChangeSpec := { name := "fnExactMirrorSync", fn := fun _ => fun
  | [d] => { results := [.lit (.bool false)], args := [d] }
  | _ => none }
def FnExactMirrorSyncWrongFalsely : Prop := fnExactMirrorSyncRow.holds Try.pinned (OpenSpec.ofChange fnExactMirrorSyncWrong)

/-- 'laws.FnExactStarSync': WHATEVER THE INPUT: true; the input reads as it did. -/
def fnExactStarSyncSpec : ChangeSpec := { name := "fnExactStarSync", fn := fun _ => fun
  | [d] => { results := [.lit (.bool true)], args := [d] }
  | _ => none }
def fnExactStarSyncRow : OpenClaim := { program := "ytkgjaghccpdcmaa", sum := "63eba5a926d006449658381301543f92ba24644524628c14952b66a25ccaa4cd", func := "loop.example/g00927/laws.FnExactStarSync", spec := "fnExactStarSync", plainKeys := false, apart := false }
def FnExactStarSyncSaid : Prop := fnExactStarSyncRow.holds Try.pinned (OpenSpec.ofChange fnExactStarSyncSpec)

/-- ITS FALSE NEIGHBOUR: 'it returns false'. Refute it at one input. -/
def fnExactStarSyncWrong : ChangeSpec := { name := "fnExactStarSync", fn := fun _ => fun
  | [d] => { results := [.lit (.bool false)], args := [d] }
  | _ => none }
def FnExactStarSyncWrongFalsely : Prop := fnExactStarSyncRow.holds Try.pinned (OpenSpec.ofChange fnExactStarSyncWrong)

/-- 'laws.FnExactSlideSync': WHATEVER THE INPUT: true; the input reads as it did. -/
def fnExactSlideSyncSpec : ChangeSpec := { name := "fnExactSlideSync", fn := fun _ => fun
  | [d] => { results := [.lit (.bool true)], args := [d] }
  | _ => none }
def fnExactSlideSyncRow : OpenClaim := { program := "ytkgjaghccpdcmaa", sum := "63eba5a926d006449658381301543f92ba24644524628c14952b66a25ccaa4cd", func := "loop.example/g00927/laws.FnExactSlideSync", spec := "fnExactSlideSync", plainKeys := false, apart := false }
def FnExactSlideSyncSaid : Prop := fnExactSlideSyncRow.holds Try.pinned (OpenSpec.ofChange fnExactSlideSyncSpec)

/-- ITS FALSE NEIGHBOUR: 'it returns false'. Refute it at one input. -/
def fnExactSlideSyncWrong : ChangeSpec := { name := "fnExactSlideSync", fn := fun _ => fun
  | [d] => { results := [.lit (.bool false)], args := [d] }
  | _ => none }
def FnExactSlideSyncWrongFalsely : Prop := fnExactSlideSyncRow.holds Try.pinned (OpenSpec.ofChange fnExactSlideSyncWrong)

/-- 'laws.FnExactPairUp': WHATEVER THE INPUT: true; the input reads as it did. -/
def fnExactPairUpSpec : ChangeSpec := { name := "fnExactPairUp", fn := fun _ => fun
  | [d] => { results := [.lit (.bool true)], args := [d] }
  | _ => none }
def fnExactPairUpRow : OpenClaim := { program := "ytkgjaghccpdcmaa", sum := "63eba5a926d006449658381301543f92ba24644524628c14952b66a25ccaa4cd", func := "loop.example/g00927/laws.FnExactPairUp", spec := "fnExactPairUp", plainKeys := false, apart := false }
def FnExactPairUpSaid : Prop := fnExactPairUpRow.holds Try.pinned (OpenSpec.ofChange fnExactPairUpSpec)

/-- ITS FALSE NEIGHBOUR: 'it returns false'. Refute it at one input. -/
def fnExactPairUpWrong : ChangeSpec := { name := "fnExactPairUp", fn := fun _ => fun
  | [d] => { results := [.lit (.bool false)], args := [d] }
  | _ => none }
def FnExactPairUpWrongFalsely : Prop := fnExactPairUpRow.holds Try.pinned (OpenSpec.ofChange fnExactPairUpWrong)

/- THE SECOND FORM. 'bulk': how many values and letters a reading holds, each counted each time it is reached (what is shared counts as often as it is met; a slice's spare places count too). A statement '..UptoSaid' is the law's where the arguments, and the package variables that the reading takes, are together of bulk at most 1048576: NARROWER than '..Said'. Prove '..Said' where nothing that the law and all that it calls make is longer than what came in: it says more and counts as full. Else prove '..UptoSaid'. A law counts once. -/
mutual
def uptoBulk {H : Type} : DataW H → Nat
  | .lit (.string bytes) => bytes.length + 1
  | .lit _ => 1
  | .nil => 1
  | .ptr d => uptoBulk d + 1
  | .slice elems spare => uptoBulkAll elems + uptoBulkAll spare + 1
  | .agg parts => uptoBulkAll parts + 1
  | .iface _ d => uptoBulk d + 1
  | .map entries => uptoBulkEntries entries + 1
  | .held _ => 1
def uptoBulkAll {H : Type} : List (DataW H) → Nat
  | [] => 0
  | d :: r => uptoBulk d + uptoBulkAll r
def uptoBulkEntries {H : Type} : List (Lit × DataW H) → Nat
  | [] => 0
  | x :: r => uptoBulkEntry x + uptoBulkEntries r
def uptoBulkEntry {H : Type} : Lit × DataW H → Nat
  | (.string bytes, d) => bytes.length + uptoBulk d + 1
  | (_, d) => uptoBulk d + 1
 end
def uptoSmall : (H : Type) → List (DataW H) → Bool := fun _ ds => decide (uptoBulkAll ds ≤ 1048576)
def OpenSpec.upto (s : _root_.Go.ChangeSpec) : _root_.Go.OpenSpec := { _root_.Go.OpenSpec.ofChange s with cond := some uptoSmall }

/-- 'laws.FnSlides', WHERE WHAT IT READS IS OF BULK AT MOST 1048576: true; the input reads as it did. -/
def fnSlidesUptoRow : OpenClaim := { program := "ytkgjaghccpdcmaa", sum := "63eba5a926d006449658381301543f92ba24644524628c14952b66a25ccaa4cd", func := "loop.example/g00927/laws.FnSlides", spec := "fnSlides", plainKeys := false, apart := false, narrowed := true }
def FnSlidesUptoSaid : Prop := fnSlidesUptoRow.holds Try.pinned (OpenSpec.upto fnSlidesSpec)

/-- 'laws.FnMirrors', WHERE WHAT IT READS IS OF BULK AT MOST 1048576: true; the input reads as it did. -/
def fnMirrorsUptoRow : OpenClaim := { program := "ytkgjaghccpdcmaa", sum := "63eba5a926d006449658381301543f92ba24644524628c14952b66a25ccaa4cd", func := "loop.example/g00927/laws.FnMirrors", spec := "fnMirrors", plainKeys := false, apart := false, narrowed := true }
def FnMirrorsUptoSaid : Prop := fnMirrorsUptoRow.holds Try.pinned (OpenSpec.upto fnMirrorsSpec)

/-- 'laws.FnExactValidSync', WHERE WHAT IT READS IS OF BULK AT MOST 1048576: true; the input reads as it did. -/
def fnExactValidSyncUptoRow : OpenClaim := { program := "ytkgjaghccpdcmaa", sum := "63eba5a926d006449658381301543f92ba24644524628c14952b66a25ccaa4cd", func := "loop.example/g00927/laws.FnExactValidSync", spec := "fnExactValidSync", plainKeys := false, apart := false, narrowed := true }
def FnExactValidSyncUptoSaid : Prop := fnExactValidSyncUptoRow.holds Try.pinned (OpenSpec.upto fnExactValidSyncSpec)

/-- 'laws.FnExactSameSync', WHERE WHAT IT READS IS OF BULK AT MOST 1048576: true; the input reads as it did. -/
def fnExactSameSyncUptoRow : OpenClaim := { program := "ytkgjaghccpdcmaa", sum := "63eba5a926d006449658381301543f92ba24644524628c14952b66a25ccaa4cd", func := "loop.example/g00927/laws.FnExactSameSync", spec := "fnExactSameSync", plainKeys := false, apart := false, narrowed := true }
def FnExactSameSyncUptoSaid : Prop := fnExactSameSyncUptoRow.holds Try.pinned (OpenSpec.upto fnExactSameSyncSpec)

/-- 'laws.FnExactSyncClash', WHERE WHAT IT READS IS OF BULK AT MOST 1048576: true; the input reads as it did. -/
def fnExactSyncClashUptoRow : OpenClaim := { program := "ytkgjaghccpdcmaa", sum := "63eba5a926d006449658381301543f92ba24644524628c14952b66a25ccaa4cd", func := "loop.example/g00927/laws.FnExactSyncClash", spec := "fnExactSyncClash", plainKeys := false, apart := false, narrowed := true }
def FnExactSyncClashUptoSaid : Prop := fnExactSyncClashUptoRow.holds Try.pinned (OpenSpec.upto fnExactSyncClashSpec)

/-- 'laws.FnExactSyncProps', WHERE WHAT IT READS IS OF BULK AT MOST 1048576: true; the input reads as it did. -/
def fnExactSyncPropsUptoRow : OpenClaim := { program := "ytkgjaghccpdcmaa", sum := "63eba5a926d006449658381301543f92ba24644524628c14952b66a25ccaa4cd", func := "loop.example/g00927/laws.FnExactSyncProps", spec := "fnExactSyncProps", plainKeys := false, apart := false, narrowed := true }
def FnExactSyncPropsUptoSaid : Prop := fnExactSyncPropsUptoRow.holds Try.pinned (OpenSpec.upto fnExactSyncPropsSpec)

/-- 'laws.FnExactCrossCount', WHERE WHAT IT READS IS OF BULK AT MOST 1048576: true; the input reads as it did. -/
def fnExactCrossCountUptoRow : OpenClaim := { program := "ytkgjaghccpdcmaa", sum := "63eba5a926d006449658381301543f92ba24644524628c14952b66a25ccaa4cd", func := "loop.example/g00927/laws.FnExactCrossCount", spec := "fnExactCrossCount", plainKeys := false, apart := false, narrowed := true }
def FnExactCrossCountUptoSaid : Prop := fnExactCrossCountUptoRow.holds Try.pinned (OpenSpec.upto fnExactCrossCountSpec)

/-- 'laws.FnExactMirrorSync', WHERE WHAT IT READS IS OF BULK AT MOST 1048576: true; the input reads as it did. -/
def fnExactMirrorSyncUptoRow : OpenClaim := { program := "ytkgjaghccpdcmaa", sum := "63eba5a926d006449658381301543f92ba24644524628c14952b66a25ccaa4cd", func := "loop.example/g00927/laws.FnExactMirrorSync", spec := "fnExactMirrorSync", plainKeys := false, apart := false, narrowed := true }
def FnExactMirrorSyncUptoSaid : Prop := fnExactMirrorSyncUptoRow.holds Try.pinned (OpenSpec.upto fnExactMirrorSyncSpec)

/-- 'laws.FnExactStarSync', WHERE WHAT IT READS IS OF BULK AT MOST 1048576: true; the input reads as it did. -/
def fnExactStarSyncUptoRow : OpenClaim := { program := "ytkgjaghccpdcmaa", sum := "63eba5a926d006449658381301543f92ba24644524628c14952b66a25ccaa4cd", func := "loop.example/g00927/laws.FnExactStarSync", spec := "fnExactStarSync", plainKeys := false, apart := false, narrowed := true }
def FnExactStarSyncUptoSaid : Prop := fnExactStarSyncUptoRow.holds Try.pinned (OpenSpec.upto fnExactStarSyncSpec)

/-- 'laws.FnExactSlideSync', WHERE WHAT IT READS IS OF BULK AT MOST 1048576: true; the input reads as it did. -/
def fnExactSlideSyncUptoRow : OpenClaim := { program := "ytkgjaghccpdcmaa", sum := "63eba5a926d006449658381301543f92ba24644524628c14952b66a25ccaa4cd", func := "loop.example/g00927/laws.FnExactSlideSync", spec := "fnExactSlideSync", plainKeys := false, apart := false, narrowed := true }
def FnExactSlideSyncUptoSaid : Prop := fnExactSlideSyncUptoRow.holds Try.pinned (OpenSpec.upto fnExactSlideSyncSpec)

/-- 'laws.FnExactPairUp', WHERE WHAT IT READS IS OF BULK AT MOST 1048576: true; the input reads as it did. -/
def fnExactPairUpUptoRow : OpenClaim := { program := "ytkgjaghccpdcmaa", sum := "63eba5a926d006449658381301543f92ba24644524628c14952b66a25ccaa4cd", func := "loop.example/g00927/laws.FnExactPairUp", spec := "fnExactPairUp", plainKeys := false, apart := false, narrowed := true }
def FnExactPairUpUptoSaid : Prop := fnExactPairUpUptoRow.holds Try.pinned (OpenSpec.upto fnExactPairUpSpec)

end Rows
end Go.Proofs.Ytkgjaghccpdcmaa
