/-
  No cell of these rows narrows 'for every input' (looked for: loops, veiled, ifaces, maps, wideKeys, modest, calm, conditions, laid).
  DERIVED. THE GIVEN ROWS OF THIS SEAT. 12 by the template 'for every input the law returns true; each argument reads behind the call as it read before'; 0 by the template 'total and deterministic' (their statements: YtjhijmaolnngmaaTotals.lean).
  GIVEN WITH THE SEED: the statements are not yours to turn. If you find one false, say at which input.
  Laid BY PROGRAM, IN A SANDBOX (cutbox-rows.mjs): the forced cells as the released guide's own fill.sh prints them over the translation 3e58df8fd9d5eed1… (all of the seat's roots in one cut). By AI agents, Wed Nov 11 2026. No macro, syntax, notation, axiom, sorry.
-/
import Derived.Test.YtjhijmaolnngmaaChecked
import GoSem.Claim
import GoSem.ClaimJoined
import GoSem.ClaimMapViews
import Derived.JoinedTies
import Derived.KernelRfl
namespace Go.Proofs.Ytjhijmaolnngmaa
/- THE CELL 'sum', in the pinned program and in every row, IS THE sha256 OF THE DUMP (.gsa) THAT YtjhijmaolnngmaaProg.lean LOADS. Nothing in Lean hashes anything: it is a label: what it is worth is what the hold of that sum in a sandbox is worth. -/
noncomputable def Try.pinned : Pinned := { name := "ytjhijmaolnngmaa", sum := "3e58df8fd9d5eed1ac5346f37220c7b1c518c3e35ca1f77a022700deadaed1fc", checked := Try.checked }
namespace Rows
def none {H : Type} : Left H := { results := [], args := [] }

/-- 'laws.FnExactValidState': WHATEVER THE INPUT: true; the input reads as it did. -/
def fnExactValidStateSpec : ChangeSpec := { name := "fnExactValidState", fn := fun _ => fun
  | [d] => { results := [.lit (.bool true)], args := [d] }
  | _ => none }
def fnExactValidStateRow : OpenClaim := { program := "ytjhijmaolnngmaa", sum := "3e58df8fd9d5eed1ac5346f37220c7b1c518c3e35ca1f77a022700deadaed1fc", func := "loop.example/g00927/laws.FnExactValidState", spec := "fnExactValidState", apart := false }
def FnExactValidStateSaid : Prop := fnExactValidStateRow.holds Try.pinned (OpenSpec.ofChange fnExactValidStateSpec)

/-- ITS FALSE NEIGHBOUR: 'it returns false'. Refute it at one input. -/
def fnExactValidStateWrong : ChangeSpec := { name := "fnExactValidState", fn := fun _ => fun
  | [d] => { results := [.lit (.bool false)], args := [d] }
  | _ => none }
def FnExactValidStateWrongFalsely : Prop := fnExactValidStateRow.holds Try.pinned (OpenSpec.ofChange fnExactValidStateWrong)

/-- 'laws.FnExactPropsIn': WHATEVER THE INPUT: true; the input reads as it did. -/
def fnExactPropsInSpec : ChangeSpec := { name := "fnExactPropsIn", fn := fun _ => fun
  | [d] => { results := [.lit (.bool true)], args := [d] }
  | _ => none }
def fnExactPropsInRow : OpenClaim := { program := "ytjhijmaolnngmaa", sum := "3e58df8fd9d5eed1ac5346f37220c7b1c518c3e35ca1f77a022700deadaed1fc", func := "loop.example/g00927/laws.FnExactPropsIn", spec := "fnExactPropsIn", apart := false }
def FnExactPropsInSaid : Prop := fnExactPropsInRow.holds Try.pinned (OpenSpec.ofChange fnExactPropsInSpec)

/-- ITS FALSE NEIGHBOUR: 'it returns false'. Refute it at one input. -/
def fnExactPropsInWrong : ChangeSpec := { name := "fnExactPropsIn", fn := fun _ => fun
  | [d] => { results := [.lit (.bool false)], args := [d] }
  | _ => none }
def FnExactPropsInWrongFalsely : Prop := fnExactPropsInRow.holds Try.pinned (OpenSpec.ofChange fnExactPropsInWrong)

/-- 'laws.FnExactGroundState': WHATEVER THE INPUT: true; the input reads as it did. -/
def fnExactGroundStateSpec : ChangeSpec := { name := "fnExactGroundState", fn := fun _ => fun
  | [d1, d2] => { results := [.lit (.bool true)], args := [d1, d2] }
  | _ => none }
def fnExactGroundStateRow : OpenClaim := { program := "ytjhijmaolnngmaa", sum := "3e58df8fd9d5eed1ac5346f37220c7b1c518c3e35ca1f77a022700deadaed1fc", func := "loop.example/g00927/laws.FnExactGroundState", spec := "fnExactGroundState", apart := false }
def FnExactGroundStateSaid : Prop := fnExactGroundStateRow.holds Try.pinned (OpenSpec.ofChange fnExactGroundStateSpec)

/-- ITS FALSE NEIGHBOUR: 'it returns false'. Refute it at one input. -/
def fnExactGroundStateWrong : ChangeSpec := { name := "fnExactGroundState", fn := fun _ => fun
  | [d1, d2] => { results := [.lit (.bool false)], args := [d1, d2] }
  | _ => none }
def FnExactGroundStateWrongFalsely : Prop := fnExactGroundStateRow.holds Try.pinned (OpenSpec.ofChange fnExactGroundStateWrong)

/-- 'laws.FnExactCanThrow': WHATEVER THE INPUT: true; the input reads as it did. -/
def fnExactCanThrowSpec : ChangeSpec := { name := "fnExactCanThrow", fn := fun _ => fun
  | [d1, d2] => { results := [.lit (.bool true)], args := [d1, d2] }
  | _ => none }
def fnExactCanThrowRow : OpenClaim := { program := "ytjhijmaolnngmaa", sum := "3e58df8fd9d5eed1ac5346f37220c7b1c518c3e35ca1f77a022700deadaed1fc", func := "loop.example/g00927/laws.FnExactCanThrow", spec := "fnExactCanThrow", apart := false }
def FnExactCanThrowSaid : Prop := fnExactCanThrowRow.holds Try.pinned (OpenSpec.ofChange fnExactCanThrowSpec)

/-- ITS FALSE NEIGHBOUR: 'it returns false'. Refute it at one input. -/
def fnExactCanThrowWrong : ChangeSpec := { name := "fnExactCanThrow", fn := fun _ => fun
  | [d1, d2] => { results := [.lit (.bool false)], args := [d1, d2] }
  | _ => none }
def FnExactCanThrowWrongFalsely : Prop := fnExactCanThrowRow.holds Try.pinned (OpenSpec.ofChange fnExactCanThrowWrong)

/-- 'laws.FnExactNextState': WHATEVER THE INPUT: true; the input reads as it did. -/
def fnExactNextStateSpec : ChangeSpec := { name := "fnExactNextState", fn := fun _ => fun
  | [d1, d2] => { results := [.lit (.bool true)], args := [d1, d2] }
  | _ => none }
def fnExactNextStateRow : OpenClaim := { program := "ytjhijmaolnngmaa", sum := "3e58df8fd9d5eed1ac5346f37220c7b1c518c3e35ca1f77a022700deadaed1fc", func := "loop.example/g00927/laws.FnExactNextState", spec := "fnExactNextState", apart := false }
def FnExactNextStateSaid : Prop := fnExactNextStateRow.holds Try.pinned (OpenSpec.ofChange fnExactNextStateSpec)

/-- ITS FALSE NEIGHBOUR: 'it returns false'. Refute it at one input. -/
def fnExactNextStateWrong : ChangeSpec := { name := "fnExactNextState", fn := fun _ => fun
  | [d1, d2] => { results := [.lit (.bool false)], args := [d1, d2] }
  | _ => none }
def FnExactNextStateWrongFalsely : Prop := fnExactNextStateRow.holds Try.pinned (OpenSpec.ofChange fnExactNextStateWrong)

/-- 'laws.FnExactStateOf': WHATEVER THE INPUT: true; the input reads as it did. -/
def fnExactStateOfSpec : ChangeSpec := { name := "fnExactStateOf", fn := fun _ => fun
  | [d1, d2, d3] => { results := [.lit (.bool true)], args := [d1, d2, d3] }
  | _ => none }
def fnExactStateOfRow : OpenClaim := { program := "ytjhijmaolnngmaa", sum := "3e58df8fd9d5eed1ac5346f37220c7b1c518c3e35ca1f77a022700deadaed1fc", func := "loop.example/g00927/laws.FnExactStateOf", spec := "fnExactStateOf", apart := false }
def FnExactStateOfSaid : Prop := fnExactStateOfRow.holds Try.pinned (OpenSpec.ofChange fnExactStateOfSpec)

/-- ITS FALSE NEIGHBOUR: 'it returns false'. Refute it at one input. -/
def fnExactStateOfWrong : ChangeSpec := { name := "fnExactStateOf", fn := fun _ => fun
  | [d1, d2, d3] => { results := [.lit (.bool false)], args := [d1, d2, d3] }
  | _ => none }
def FnExactStateOfWrongFalsely : Prop := fnExactStateOfRow.holds Try.pinned (OpenSpec.ofChange fnExactStateOfWrong)

/-- 'laws.FnExactStatesOf': WHATEVER THE INPUT: true; the input reads as it did. -/
def fnExactStatesOfSpec : ChangeSpec := { name := "fnExactStatesOf", fn := fun _ => fun
  | [d1, d2] => { results := [.lit (.bool true)], args := [d1, d2] }
  | _ => none }
def fnExactStatesOfRow : OpenClaim := { program := "ytjhijmaolnngmaa", sum := "3e58df8fd9d5eed1ac5346f37220c7b1c518c3e35ca1f77a022700deadaed1fc", func := "loop.example/g00927/laws.FnExactStatesOf", spec := "fnExactStatesOf", apart := false }
def FnExactStatesOfSaid : Prop := fnExactStatesOfRow.holds Try.pinned (OpenSpec.ofChange fnExactStatesOfSpec)

/-- ITS FALSE NEIGHBOUR: 'it returns false'. Refute it at one input. -/
def fnExactStatesOfWrong : ChangeSpec := { name := "fnExactStatesOf", fn := fun _ => fun
  | [d1, d2] => { results := [.lit (.bool false)], args := [d1, d2] }
  | _ => none }
def FnExactStatesOfWrongFalsely : Prop := fnExactStatesOfRow.holds Try.pinned (OpenSpec.ofChange fnExactStatesOfWrong)

/-- 'laws.FnExactRunThrows': WHATEVER THE INPUT: true; the input reads as it did. -/
def fnExactRunThrowsSpec : ChangeSpec := { name := "fnExactRunThrows", fn := fun _ => fun
  | [d1, d2] => { results := [.lit (.bool true)], args := [d1, d2] }
  | _ => none }
def fnExactRunThrowsRow : OpenClaim := { program := "ytjhijmaolnngmaa", sum := "3e58df8fd9d5eed1ac5346f37220c7b1c518c3e35ca1f77a022700deadaed1fc", func := "loop.example/g00927/laws.FnExactRunThrows", spec := "fnExactRunThrows", apart := false }
def FnExactRunThrowsSaid : Prop := fnExactRunThrowsRow.holds Try.pinned (OpenSpec.ofChange fnExactRunThrowsSpec)

/-- ITS FALSE NEIGHBOUR: 'it returns false'. Refute it at one input. -/
def fnExactRunThrowsWrong : ChangeSpec := { name := "fnExactRunThrows", fn := fun _ => fun
  | [d1, d2] => { results := [.lit (.bool false)], args := [d1, d2] }
  | _ => none }
def FnExactRunThrowsWrongFalsely : Prop := fnExactRunThrowsRow.holds Try.pinned (OpenSpec.ofChange fnExactRunThrowsWrong)

/-- 'laws.FnExactStateText': WHATEVER THE INPUT: true; the input reads as it did. -/
def fnExactStateTextSpec : ChangeSpec := { name := "fnExactStateText", fn := fun _ => fun
  | [d] => { results := [.lit (.bool true)], args := [d] }
  | _ => none }
def fnExactStateTextRow : OpenClaim := { program := "ytjhijmaolnngmaa", sum := "3e58df8fd9d5eed1ac5346f37220c7b1c518c3e35ca1f77a022700deadaed1fc", func := "loop.example/g00927/laws.FnExactStateText", spec := "fnExactStateText", inPlace := ["internal/abi.NoEscape"], apart := false }
def FnExactStateTextSaid : Prop := fnExactStateTextRow.holds Try.pinned (OpenSpec.ofChange fnExactStateTextSpec)

/-- ITS FALSE NEIGHBOUR: 'it returns false'. Refute it at one input. -/
def fnExactStateTextWrong : ChangeSpec := { name := "fnExactStateText", fn := fun _ => fun
  | [d] => { results := [.lit (.bool false)], args := [d] }
  | _ => none }
def FnExactStateTextWrongFalsely : Prop := fnExactStateTextRow.holds Try.pinned (OpenSpec.ofChange fnExactStateTextWrong)

/-- 'laws.FnExactReadState': WHATEVER THE INPUT: true; the input reads as it did. -/
def fnExactReadStateSpec : ChangeSpec := { name := "fnExactReadState", fn := fun _ => fun
  | [d] => { results := [.lit (.bool true)], args := [d] }
  | _ => none }
def fnExactReadStateRow : OpenClaim := { program := "ytjhijmaolnngmaa", sum := "3e58df8fd9d5eed1ac5346f37220c7b1c518c3e35ca1f77a022700deadaed1fc", func := "loop.example/g00927/laws.FnExactReadState", spec := "fnExactReadState", apart := false }
def FnExactReadStateSaid : Prop := fnExactReadStateRow.holds Try.pinned (OpenSpec.ofChange fnExactReadStateSpec)

/-- ITS FALSE NEIGHBOUR: 'it returns false'. Refute it at one input. -/
def fnExactReadStateWrong : ChangeSpec := { name := "fnExactReadState", fn := fun _ => fun
  | [d] => { results := [.lit (.bool false)], args := [d] }
  | _ => none }
def FnExactReadStateWrongFalsely : Prop := fnExactReadStateRow.holds Try.pinned (OpenSpec.ofChange fnExactReadStateWrong)

/-- 'laws.FnExactLandsFrom': WHATEVER THE INPUT: true; the input reads as it did. -/
def fnExactLandsFromSpec : ChangeSpec := { name := "fnExactLandsFrom", fn := fun _ => fun
  | [d1, d2] => { results := [.lit (.bool true)], args := [d1, d2] }
  | _ => none }
def fnExactLandsFromRow : OpenClaim := { program := "ytjhijmaolnngmaa", sum := "3e58df8fd9d5eed1ac5346f37220c7b1c518c3e35ca1f77a022700deadaed1fc", func := "loop.example/g00927/laws.FnExactLandsFrom", spec := "fnExactLandsFrom", apart := false }
def FnExactLandsFromSaid : Prop := fnExactLandsFromRow.holds Try.pinned (OpenSpec.ofChange fnExactLandsFromSpec)

/-- ITS FALSE NEIGHBOUR: 'it returns false'. Refute it at one input. -/
def fnExactLandsFromWrong : ChangeSpec := { name := "fnExactLandsFrom", fn := fun _ => fun
  | [d1, d2] => { results := [.lit (.bool false)], args := [d1, d2] }
  | _ => none }
def FnExactLandsFromWrongFalsely : Prop := fnExactLandsFromRow.holds Try.pinned (OpenSpec.ofChange fnExactLandsFromWrong)

/-- 'laws.FnPatterns': WHATEVER THE INPUT: true; the input reads as it did. -/
def fnPatternsSpec : ChangeSpec := { name := "fnPatterns", fn := fun _ => fun
  | [d1, d2] => { results := [.lit (.bool true)], args := [d1, d2] }
  | _ => none }
def fnPatternsRow : OpenClaim := { program := "ytjhijmaolnngmaa", sum := "3e58df8fd9d5eed1ac5346f37220c7b1c518c3e35ca1f77a022700deadaed1fc", func := "loop.example/g00927/laws.FnPatterns", spec := "fnPatterns", inPlace := ["internal/abi.NoEscape"], apart := false }
def FnPatternsSaid : Prop := fnPatternsRow.holds Try.pinned (OpenSpec.ofChange fnPatternsSpec)

/-- ITS FALSE NEIGHBOUR: 'it returns false'. Refute it at one input. -/
def fnPatternsWrong : ChangeSpec := { name := "fnPatterns", fn := fun _ => fun
  | [d1, d2] => { results := [.lit (.bool false)], args := [d1, d2] }
  | _ => none }
def FnPatternsWrongFalsely : Prop := fnPatternsRow.holds Try.pinned (OpenSpec.ofChange fnPatternsWrong)

/- THE SECOND FORM. 'bulk': how many values and letters a reading holds, each counted each time it is reached (what is shared counts as often as it is met; a slice's spare places count too). A statement '..UptoSaid' is the law's where the arguments, and the package variables that the reading takes, are together of bulk at most 1048576: NARROWER than '..Said'. Prove '..Said' where nothing that the law and all that it calls make is longer than what came in: it says more and counts as full. Else prove '..UptoSaid'. A law counts once. -/
mutual
def uptoBulk {H : Type} : DataW H → Nat
  | .lit (.string bytes) => bytes.length + 1
  | .lit _ => 1
  | .nil => 1
  | .ptr d => uptoBulk d + 1
  | .slice elems spare => uptoBulkAll elems + uptoBulkAll spare + 1
  | .agg parts => uptoBulkAll parts + 1
  | .iface _ d => uptoBulk d + 1
  | .map entries => uptoBulkEntries entries + 1
  | .held _ => 1
def uptoBulkAll {H : Type} : List (DataW H) → Nat
  | [] => 0
  | d :: r => uptoBulk d + uptoBulkAll r
def uptoBulkEntries {H : Type} : List (Lit × DataW H) → Nat
  | [] => 0
  | x :: r => uptoBulkEntry x + uptoBulkEntries r
def uptoBulkEntry {H : Type} : Lit × DataW H → Nat
  | (.string bytes, d) => bytes.length + uptoBulk d + 1
  | (_, d) => uptoBulk d + 1
 end
def uptoSmall : (H : Type) → List (DataW H) → Bool := fun _ ds => decide (uptoBulkAll ds ≤ 1048576)
def OpenSpec.upto (s : _root_.Go.ChangeSpec) : _root_.Go.OpenSpec := { _root_.Go.OpenSpec.ofChange s with cond := some uptoSmall }

/-- 'laws.FnExactValidState', WHERE WHAT IT READS IS OF BULK AT MOST 1048576: true; the input reads as it did. -/
def fnExactValidStateUptoRow : OpenClaim := { program := "ytjhijmaolnngmaa", sum := "3e58df8fd9d5eed1ac5346f37220c7b1c518c3e35ca1f77a022700deadaed1fc", func := "loop.example/g00927/laws.FnExactValidState", spec := "fnExactValidState", apart := false, narrowed := true }
def FnExactValidStateUptoSaid : Prop := fnExactValidStateUptoRow.holds Try.pinned (OpenSpec.upto fnExactValidStateSpec)

/-- 'laws.FnExactPropsIn', WHERE WHAT IT READS IS OF BULK AT MOST 1048576: true; the input reads as it did. -/
def fnExactPropsInUptoRow : OpenClaim := { program := "ytjhijmaolnngmaa", sum := "3e58df8fd9d5eed1ac5346f37220c7b1c518c3e35ca1f77a022700deadaed1fc", func := "loop.example/g00927/laws.FnExactPropsIn", spec := "fnExactPropsIn", apart := false, narrowed := true }
def FnExactPropsInUptoSaid : Prop := fnExactPropsInUptoRow.holds Try.pinned (OpenSpec.upto fnExactPropsInSpec)

/-- 'laws.FnExactGroundState', WHERE WHAT IT READS IS OF BULK AT MOST 1048576: true; the input reads as it did. -/
def fnExactGroundStateUptoRow : OpenClaim := { program := "ytjhijmaolnngmaa", sum := "3e58df8fd9d5eed1ac5346f37220c7b1c518c3e35ca1f77a022700deadaed1fc", func := "loop.example/g00927/laws.FnExactGroundState", spec := "fnExactGroundState", apart := false, narrowed := true }
def FnExactGroundStateUptoSaid : Prop := fnExactGroundStateUptoRow.holds Try.pinned (OpenSpec.upto fnExactGroundStateSpec)

/-- 'laws.FnExactCanThrow', WHERE WHAT IT READS IS OF BULK AT MOST 1048576: true; the input reads as it did. -/
def fnExactCanThrowUptoRow : OpenClaim := { program := "ytjhijmaolnngmaa", sum := "3e58df8fd9d5eed1ac5346f37220c7b1c518c3e35ca1f77a022700deadaed1fc", func := "loop.example/g00927/laws.FnExactCanThrow", spec := "fnExactCanThrow", apart := false, narrowed := true }
def FnExactCanThrowUptoSaid : Prop := fnExactCanThrowUptoRow.holds Try.pinned (OpenSpec.upto fnExactCanThrowSpec)

/-- 'laws.FnExactNextState', WHERE WHAT IT READS IS OF BULK AT MOST 1048576: true; the input reads as it did. -/
def fnExactNextStateUptoRow : OpenClaim := { program := "ytjhijmaolnngmaa", sum := "3e58df8fd9d5eed1ac5346f37220c7b1c518c3e35ca1f77a022700deadaed1fc", func := "loop.example/g00927/laws.FnExactNextState", spec := "fnExactNextState", apart := false, narrowed := true }
def FnExactNextStateUptoSaid : Prop := fnExactNextStateUptoRow.holds Try.pinned (OpenSpec.upto fnExactNextStateSpec)

/-- 'laws.FnExactStateOf', WHERE WHAT IT READS IS OF BULK AT MOST 1048576: true; the input reads as it did. -/
def fnExactStateOfUptoRow : OpenClaim := { program := "ytjhijmaolnngmaa", sum := "3e58df8fd9d5eed1ac5346f37220c7b1c518c3e35ca1f77a022700deadaed1fc", func := "loop.example/g00927/laws.FnExactStateOf", spec := "fnExactStateOf", apart := false, narrowed := true }
def FnExactStateOfUptoSaid : Prop := fnExactStateOfUptoRow.holds Try.pinned (OpenSpec.upto fnExactStateOfSpec)

/-- 'laws.FnExactStatesOf', WHERE WHAT IT READS IS OF BULK AT MOST 1048576: true; the input reads as it did. -/
def fnExactStatesOfUptoRow : OpenClaim := { program := "ytjhijmaolnngmaa", sum := "3e58df8fd9d5eed1ac5346f37220c7b1c518c3e35ca1f77a022700deadaed1fc", func := "loop.example/g00927/laws.FnExactStatesOf", spec := "fnExactStatesOf", apart := false, narrowed := true }
def FnExactStatesOfUptoSaid : Prop := fnExactStatesOfUptoRow.holds Try.pinned (OpenSpec.upto fnExactStatesOfSpec)

/-- 'laws.FnExactRunThrows', WHERE WHAT IT READS IS OF BULK AT MOST 1048576: true; the input reads as it did. -/
def fnExactRunThrowsUptoRow : OpenClaim := { program := "ytjhijmaolnngmaa", sum := "3e58df8fd9d5eed1ac5346f37220c7b1c518c3e35ca1f77a022700deadaed1fc", func := "loop.example/g00927/laws.FnExactRunThrows", spec := "fnExactRunThrows", apart := false, narrowed := true }
def FnExactRunThrowsUptoSaid : Prop := fnExactRunThrowsUptoRow.holds Try.pinned (OpenSpec.upto fnExactRunThrowsSpec)

/-- 'laws.FnExactStateText', WHERE WHAT IT READS IS OF BULK AT MOST 1048576: true; the input reads as it did. -/
def fnExactStateTextUptoRow : OpenClaim := { program := "ytjhijmaolnngmaa", sum := "3e58df8fd9d5eed1ac5346f37220c7b1c518c3e35ca1f77a022700deadaed1fc", func := "loop.example/g00927/laws.FnExactStateText", spec := "fnExactStateText", inPlace := ["internal/abi.NoEscape"], apart := false, narrowed := true }
def FnExactStateTextUptoSaid : Prop := fnExactStateTextUptoRow.holds Try.pinned (OpenSpec.upto fnExactStateTextSpec)

/-- 'laws.FnExactReadState', WHERE WHAT IT READS IS OF BULK AT MOST 1048576: true; the input reads as it did. -/
def fnExactReadStateUptoRow : OpenClaim := { program := "ytjhijmaolnngmaa", sum := "3e58df8fd9d5eed1ac5346f37220c7b1c518c3e35ca1f77a022700deadaed1fc", func := "loop.example/g00927/laws.FnExactReadState", spec := "fnExactReadState", apart := false, narrowed := true }
def FnExactReadStateUptoSaid : Prop := fnExactReadStateUptoRow.holds Try.pinned (OpenSpec.upto fnExactReadStateSpec)

/-- 'laws.FnExactLandsFrom', WHERE WHAT IT READS IS OF BULK AT MOST 1048576: true; the input reads as it did. -/
def fnExactLandsFromUptoRow : OpenClaim := { program := "ytjhijmaolnngmaa", sum := "3e58df8fd9d5eed1ac5346f37220c7b1c518c3e35ca1f77a022700deadaed1fc", func := "loop.example/g00927/laws.FnExactLandsFrom", spec := "fnExactLandsFrom", apart := false, narrowed := true }
def FnExactLandsFromUptoSaid : Prop := fnExactLandsFromUptoRow.holds Try.pinned (OpenSpec.upto fnExactLandsFromSpec)

/-- 'laws.FnPatterns', WHERE WHAT IT READS IS OF BULK AT MOST 1048576: true; the input reads as it did. -/
def fnPatternsUptoRow : OpenClaim := { program := "ytjhijmaolnngmaa", sum := "3e58df8fd9d5eed1ac5346f37220c7b1c518c3e35ca1f77a022700deadaed1fc", func := "loop.example/g00927/laws.FnPatterns", spec := "fnPatterns", inPlace := ["internal/abi.NoEscape"], apart := false, narrowed := true }
def FnPatternsUptoSaid : Prop := fnPatternsUptoRow.holds Try.pinned (OpenSpec.upto fnPatternsSpec)

end Rows
end Go.Proofs.Ytjhijmaolnngmaa
