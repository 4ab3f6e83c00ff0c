/-
  No cell of these rows narrows 'for every input' (looked for: loops, veiled, ifaces, maps, wideKeys, modest, calm, conditions, laid).
  DERIVED. THE GIVEN ROWS OF THIS SEAT. 11 by the template 'for every input the law returns true; each argument reads behind the call as it read before'; 0 by the template 'total and deterministic' (their statements: YtbnmbodnjecajaaTotals.lean).
  GIVEN WITH THE SEED: the statements are not yours to turn. If you find one false, say at which input.
  Laid BY PROGRAM, IN A SANDBOX (cutbox-rows.mjs): the forced cells as the released guide's own fill.sh prints them over the translation d42c4cc81830b122… (all of the seat's roots in one cut). By AI agents, Wed Nov 11 2026. No macro, syntax, notation, axiom, sorry.
-/
import Derived.Test.YtbnmbodnjecajaaChecked
import GoSem.Claim
import GoSem.ClaimJoined
import GoSem.ClaimMapViews
import Derived.JoinedTies
import Derived.KernelRfl
namespace Go.Proofs.Ytbnmbodnjecajaa
/- THE CELL 'sum', in the pinned program and in every row, IS THE sha256 OF THE DUMP (.gsa) THAT YtbnmbodnjecajaaProg.lean LOADS. Nothing in Lean hashes anything: it is a label: what it is worth is what the hold of that sum in a sandbox is worth. -/
noncomputable def Try.pinned : Pinned := { name := "ytbnmbodnjecajaa", sum := "d42c4cc81830b1229f9968fb504c30eb6706cc23f0f4bee4142ab9c9975dd22e", checked := Try.checked }
namespace Rows
def none {H : Type} : Left H := { results := [], args := [] }

/-- 'laws.FnExactValidHands': WHATEVER THE INPUT: true; the input reads as it did. -/
def fnExactValidHandsSpec : ChangeSpec := { name := "fnExactValidHands", fn := fun _ => fun
  | [d] => { results := [.lit (.bool true)], args := [d] }
  | _ => none }
def fnExactValidHandsRow : OpenClaim := { program := "ytbnmbodnjecajaa", sum := "d42c4cc81830b1229f9968fb504c30eb6706cc23f0f4bee4142ab9c9975dd22e", func := "loop.example/g00927/laws.FnExactValidHands", spec := "fnExactValidHands", apart := false }
def FnExactValidHandsSaid : Prop := fnExactValidHandsRow.holds Try.pinned (OpenSpec.ofChange fnExactValidHandsSpec)

/-- ITS FALSE NEIGHBOUR: 'it returns false'. Refute it at one input. -/
def fnExactValidHandsWrong : ChangeSpec := { name := "fnExactValidHands", fn := fun _ => fun
  | [d] => { results := [.lit (.bool false)], args := [d] }
  | _ => none }
def FnExactValidHandsWrongFalsely : Prop := fnExactValidHandsRow.holds Try.pinned (OpenSpec.ofChange fnExactValidHandsWrong)

/-- 'laws.FnExactHandAt': WHATEVER THE INPUT: true; the input reads as it did. -/
def fnExactHandAtSpec : ChangeSpec := { name := "fnExactHandAt", fn := fun _ => fun
  | [d1, d2] => { results := [.lit (.bool true)], args := [d1, d2] }
  | _ => none }
def fnExactHandAtRow : OpenClaim := { program := "ytbnmbodnjecajaa", sum := "d42c4cc81830b1229f9968fb504c30eb6706cc23f0f4bee4142ab9c9975dd22e", func := "loop.example/g00927/laws.FnExactHandAt", spec := "fnExactHandAt", apart := false }
def FnExactHandAtSaid : Prop := fnExactHandAtRow.holds Try.pinned (OpenSpec.ofChange fnExactHandAtSpec)

/-- ITS FALSE NEIGHBOUR: 'it returns false'. Refute it at one input. -/
def fnExactHandAtWrong : ChangeSpec := { name := "fnExactHandAt", fn := fun _ => fun
  | [d1, d2] => { results := [.lit (.bool false)], args := [d1, d2] }
  | _ => none }
def FnExactHandAtWrongFalsely : Prop := fnExactHandAtRow.holds Try.pinned (OpenSpec.ofChange fnExactHandAtWrong)

/-- 'laws.FnExactCommonPeriod': WHATEVER THE INPUT: true; the input reads as it did. -/
def fnExactCommonPeriodSpec : ChangeSpec := { name := "fnExactCommonPeriod", fn := fun _ => fun
  | [d1, d2] => { results := [.lit (.bool true)], args := [d1, d2] }
  | _ => none }
def fnExactCommonPeriodRow : OpenClaim := { program := "ytbnmbodnjecajaa", sum := "d42c4cc81830b1229f9968fb504c30eb6706cc23f0f4bee4142ab9c9975dd22e", func := "loop.example/g00927/laws.FnExactCommonPeriod", spec := "fnExactCommonPeriod", apart := false }
def FnExactCommonPeriodSaid : Prop := fnExactCommonPeriodRow.holds Try.pinned (OpenSpec.ofChange fnExactCommonPeriodSpec)

/-- ITS FALSE NEIGHBOUR: 'it returns false'. Refute it at one input. -/
def fnExactCommonPeriodWrong : ChangeSpec := { name := "fnExactCommonPeriod", fn := fun _ => fun
  | [d1, d2] => { results := [.lit (.bool false)], args := [d1, d2] }
  | _ => none }
def FnExactCommonPeriodWrongFalsely : Prop := fnExactCommonPeriodRow.holds Try.pinned (OpenSpec.ofChange fnExactCommonPeriodWrong)

/-- 'laws.FnExactHandThrows': WHATEVER THE INPUT: true; the input reads as it did. -/
def fnExactHandThrowsSpec : ChangeSpec := { name := "fnExactHandThrows", fn := fun _ => fun
  | [d1, d2] => { results := [.lit (.bool true)], args := [d1, d2] }
  | _ => none }
def fnExactHandThrowsRow : OpenClaim := { program := "ytbnmbodnjecajaa", sum := "d42c4cc81830b1229f9968fb504c30eb6706cc23f0f4bee4142ab9c9975dd22e", func := "loop.example/g00927/laws.FnExactHandThrows", spec := "fnExactHandThrows", unfollowed := true, recurses := true, apart := false }
def FnExactHandThrowsSaid : Prop := fnExactHandThrowsRow.holds Try.pinned (OpenSpec.ofChange fnExactHandThrowsSpec)

/-- ITS FALSE NEIGHBOUR: 'it returns false'. Refute it at one input. -/
def fnExactHandThrowsWrong : ChangeSpec := { name := "fnExactHandThrows", fn := fun _ => fun
  | [d1, d2] => { results := [.lit (.bool false)], args := [d1, d2] }
  | _ => none }
def FnExactHandThrowsWrongFalsely : Prop := fnExactHandThrowsRow.holds Try.pinned (OpenSpec.ofChange fnExactHandThrowsWrong)

/-- 'laws.FnExactCrossingsOf': WHATEVER THE INPUT: true; the input reads as it did. -/
def fnExactCrossingsOfSpec : ChangeSpec := { name := "fnExactCrossingsOf", fn := fun _ => fun
  | [d1, d2] => { results := [.lit (.bool true)], args := [d1, d2] }
  | _ => none }
def fnExactCrossingsOfRow : OpenClaim := { program := "ytbnmbodnjecajaa", sum := "d42c4cc81830b1229f9968fb504c30eb6706cc23f0f4bee4142ab9c9975dd22e", func := "loop.example/g00927/laws.FnExactCrossingsOf", spec := "fnExactCrossingsOf", unfollowed := true, recurses := true, apart := false }
def FnExactCrossingsOfSaid : Prop := fnExactCrossingsOfRow.holds Try.pinned (OpenSpec.ofChange fnExactCrossingsOfSpec)

/-- ITS FALSE NEIGHBOUR: 'it returns false'. Refute it at one input. -/
def fnExactCrossingsOfWrong : ChangeSpec := { name := "fnExactCrossingsOf", fn := fun _ => fun
  | [d1, d2] => { results := [.lit (.bool false)], args := [d1, d2] }
  | _ => none }
def FnExactCrossingsOfWrongFalsely : Prop := fnExactCrossingsOfRow.holds Try.pinned (OpenSpec.ofChange fnExactCrossingsOfWrong)

/-- 'laws.FnExactLoadsOf': WHATEVER THE INPUT: true; the input reads as it did. -/
def fnExactLoadsOfSpec : ChangeSpec := { name := "fnExactLoadsOf", fn := fun _ => fun
  | [d1, d2] => { results := [.lit (.bool true)], args := [d1, d2] }
  | _ => none }
def fnExactLoadsOfRow : OpenClaim := { program := "ytbnmbodnjecajaa", sum := "d42c4cc81830b1229f9968fb504c30eb6706cc23f0f4bee4142ab9c9975dd22e", func := "loop.example/g00927/laws.FnExactLoadsOf", spec := "fnExactLoadsOf", unfollowed := true, recurses := true, apart := false }
def FnExactLoadsOfSaid : Prop := fnExactLoadsOfRow.holds Try.pinned (OpenSpec.ofChange fnExactLoadsOfSpec)

/-- ITS FALSE NEIGHBOUR: 'it returns false'. Refute it at one input. -/
def fnExactLoadsOfWrong : ChangeSpec := { name := "fnExactLoadsOf", fn := fun _ => fun
  | [d1, d2] => { results := [.lit (.bool false)], args := [d1, d2] }
  | _ => none }
def FnExactLoadsOfWrongFalsely : Prop := fnExactLoadsOfRow.holds Try.pinned (OpenSpec.ofChange fnExactLoadsOfWrong)

/-- 'laws.FnExactRestsOf': WHATEVER THE INPUT: true; the input reads as it did. -/
def fnExactRestsOfSpec : ChangeSpec := { name := "fnExactRestsOf", fn := fun _ => fun
  | [d1, d2] => { results := [.lit (.bool true)], args := [d1, d2] }
  | _ => none }
def fnExactRestsOfRow : OpenClaim := { program := "ytbnmbodnjecajaa", sum := "d42c4cc81830b1229f9968fb504c30eb6706cc23f0f4bee4142ab9c9975dd22e", func := "loop.example/g00927/laws.FnExactRestsOf", spec := "fnExactRestsOf", unfollowed := true, recurses := true, apart := false }
def FnExactRestsOfSaid : Prop := fnExactRestsOfRow.holds Try.pinned (OpenSpec.ofChange fnExactRestsOfSpec)

/-- ITS FALSE NEIGHBOUR: 'it returns false'. Refute it at one input. -/
def fnExactRestsOfWrong : ChangeSpec := { name := "fnExactRestsOf", fn := fun _ => fun
  | [d1, d2] => { results := [.lit (.bool false)], args := [d1, d2] }
  | _ => none }
def FnExactRestsOfWrongFalsely : Prop := fnExactRestsOfRow.holds Try.pinned (OpenSpec.ofChange fnExactRestsOfWrong)

/-- 'laws.FnExactRenameHands': WHATEVER THE INPUT: true; the input reads as it did. -/
def fnExactRenameHandsSpec : ChangeSpec := { name := "fnExactRenameHands", fn := fun _ => fun
  | [d1, d2] => { results := [.lit (.bool true)], args := [d1, d2] }
  | _ => none }
def fnExactRenameHandsRow : OpenClaim := { program := "ytbnmbodnjecajaa", sum := "d42c4cc81830b1229f9968fb504c30eb6706cc23f0f4bee4142ab9c9975dd22e", func := "loop.example/g00927/laws.FnExactRenameHands", spec := "fnExactRenameHands", apart := false }
def FnExactRenameHandsSaid : Prop := fnExactRenameHandsRow.holds Try.pinned (OpenSpec.ofChange fnExactRenameHandsSpec)

/-- ITS FALSE NEIGHBOUR: 'it returns false'. Refute it at one input. -/
def fnExactRenameHandsWrong : ChangeSpec := { name := "fnExactRenameHands", fn := fun _ => fun
  | [d1, d2] => { results := [.lit (.bool false)], args := [d1, d2] }
  | _ => none }
def FnExactRenameHandsWrongFalsely : Prop := fnExactRenameHandsRow.holds Try.pinned (OpenSpec.ofChange fnExactRenameHandsWrong)

/-- 'laws.FnExactIsAmbidextrous': WHATEVER THE INPUT: true; the input reads as it did. -/
def fnExactIsAmbidextrousSpec : ChangeSpec := { name := "fnExactIsAmbidextrous", fn := fun _ => fun
  | [d1, d2] => { results := [.lit (.bool true)], args := [d1, d2] }
  | _ => none }
def fnExactIsAmbidextrousRow : OpenClaim := { program := "ytbnmbodnjecajaa", sum := "d42c4cc81830b1229f9968fb504c30eb6706cc23f0f4bee4142ab9c9975dd22e", func := "loop.example/g00927/laws.FnExactIsAmbidextrous", spec := "fnExactIsAmbidextrous", unfollowed := true, recurses := true, apart := false }
def FnExactIsAmbidextrousSaid : Prop := fnExactIsAmbidextrousRow.holds Try.pinned (OpenSpec.ofChange fnExactIsAmbidextrousSpec)

/-- ITS FALSE NEIGHBOUR: 'it returns false'. Refute it at one input. -/
def fnExactIsAmbidextrousWrong : ChangeSpec := { name := "fnExactIsAmbidextrous", fn := fun _ => fun
  | [d1, d2] => { results := [.lit (.bool false)], args := [d1, d2] }
  | _ => none }
def FnExactIsAmbidextrousWrongFalsely : Prop := fnExactIsAmbidextrousRow.holds Try.pinned (OpenSpec.ofChange fnExactIsAmbidextrousWrong)

/-- 'laws.FnExactHandsText': WHATEVER THE INPUT: true; the input reads as it did. -/
def fnExactHandsTextSpec : ChangeSpec := { name := "fnExactHandsText", fn := fun _ => fun
  | [d] => { results := [.lit (.bool true)], args := [d] }
  | _ => none }
def fnExactHandsTextRow : OpenClaim := { program := "ytbnmbodnjecajaa", sum := "d42c4cc81830b1229f9968fb504c30eb6706cc23f0f4bee4142ab9c9975dd22e", func := "loop.example/g00927/laws.FnExactHandsText", spec := "fnExactHandsText", inPlace := ["internal/abi.NoEscape"], apart := false }
def FnExactHandsTextSaid : Prop := fnExactHandsTextRow.holds Try.pinned (OpenSpec.ofChange fnExactHandsTextSpec)

/-- ITS FALSE NEIGHBOUR: 'it returns false'. Refute it at one input. -/
def fnExactHandsTextWrong : ChangeSpec := { name := "fnExactHandsText", fn := fun _ => fun
  | [d] => { results := [.lit (.bool false)], args := [d] }
  | _ => none }
def FnExactHandsTextWrongFalsely : Prop := fnExactHandsTextRow.holds Try.pinned (OpenSpec.ofChange fnExactHandsTextWrong)

/-- 'laws.FnExactReadHands': WHATEVER THE INPUT: true; the input reads as it did. -/
def fnExactReadHandsSpec : ChangeSpec := { name := "fnExactReadHands", fn := fun _ => fun
  | [d] => { results := [.lit (.bool true)], args := [d] }
  | _ => none }
def fnExactReadHandsRow : OpenClaim := { program := "ytbnmbodnjecajaa", sum := "d42c4cc81830b1229f9968fb504c30eb6706cc23f0f4bee4142ab9c9975dd22e", func := "loop.example/g00927/laws.FnExactReadHands", spec := "fnExactReadHands", inPlace := ["internal/bytealg.IndexByteString"], apart := false }
def FnExactReadHandsSaid : Prop := fnExactReadHandsRow.holds Try.pinned (OpenSpec.ofChange fnExactReadHandsSpec)

/-- ITS FALSE NEIGHBOUR: 'it returns false'. Refute it at one input. -/
def fnExactReadHandsWrong : ChangeSpec := { name := "fnExactReadHands", fn := fun _ => fun
  | [d] => { results := [.lit (.bool false)], args := [d] }
  | _ => none }
def FnExactReadHandsWrongFalsely : Prop := fnExactReadHandsRow.holds Try.pinned (OpenSpec.ofChange fnExactReadHandsWrong)

/- THE SECOND FORM. 'bulk': how many values and letters a reading holds, each counted each time it is reached (what is shared counts as often as it is met; a slice's spare places count too). A statement '..UptoSaid' is the law's where the arguments, and the package variables that the reading takes, are together of bulk at most 1048576: NARROWER than '..Said'. Prove '..Said' where nothing that the law and all that it calls make is longer than what came in: it says more and counts as full. Else prove '..UptoSaid'. A law counts once. -/
mutual
def uptoBulk {H : Type} : DataW H → Nat
  | .lit (.string bytes) => bytes.length + 1
  | .lit _ => 1
  | .nil => 1
  | .ptr d => uptoBulk d + 1
  | .slice elems spare => uptoBulkAll elems + uptoBulkAll spare + 1
  | .agg parts => uptoBulkAll parts + 1
  | .iface _ d => uptoBulk d + 1
  | .map entries => uptoBulkEntries entries + 1
  | .held _ => 1
def uptoBulkAll {H : Type} : List (DataW H) → Nat
  | [] => 0
  | d :: r => uptoBulk d + uptoBulkAll r
def uptoBulkEntries {H : Type} : List (Lit × DataW H) → Nat
  | [] => 0
  | x :: r => uptoBulkEntry x + uptoBulkEntries r
def uptoBulkEntry {H : Type} : Lit × DataW H → Nat
  | (.string bytes, d) => bytes.length + uptoBulk d + 1
  | (_, d) => uptoBulk d + 1
 end
def uptoSmall : (H : Type) → List (DataW H) → Bool := fun _ ds => decide (uptoBulkAll ds ≤ 1048576)
def OpenSpec.upto (s : _root_.Go.ChangeSpec) : _root_.Go.OpenSpec := { _root_.Go.OpenSpec.ofChange s with cond := some uptoSmall }

/-- 'laws.FnExactValidHands', WHERE WHAT IT READS IS OF BULK AT MOST 1048576: true; the input reads as it did. -/
def fnExactValidHandsUptoRow : OpenClaim := { program := "ytbnmbodnjecajaa", sum := "d42c4cc81830b1229f9968fb504c30eb6706cc23f0f4bee4142ab9c9975dd22e", func := "loop.example/g00927/laws.FnExactValidHands", spec := "fnExactValidHands", apart := false, narrowed := true }
def FnExactValidHandsUptoSaid : Prop := fnExactValidHandsUptoRow.holds Try.pinned (OpenSpec.upto fnExactValidHandsSpec)

/-- 'laws.FnExactHandAt', WHERE WHAT IT READS IS OF BULK AT MOST 1048576: true; the input reads as it did. -/
def fnExactHandAtUptoRow : OpenClaim := { program := "ytbnmbodnjecajaa", sum := "d42c4cc81830b1229f9968fb504c30eb6706cc23f0f4bee4142ab9c9975dd22e", func := "loop.example/g00927/laws.FnExactHandAt", spec := "fnExactHandAt", apart := false, narrowed := true }
def FnExactHandAtUptoSaid : Prop := fnExactHandAtUptoRow.holds Try.pinned (OpenSpec.upto fnExactHandAtSpec)

/-- 'laws.FnExactCommonPeriod', WHERE WHAT IT READS IS OF BULK AT MOST 1048576: true; the input reads as it did. -/
def fnExactCommonPeriodUptoRow : OpenClaim := { program := "ytbnmbodnjecajaa", sum := "d42c4cc81830b1229f9968fb504c30eb6706cc23f0f4bee4142ab9c9975dd22e", func := "loop.example/g00927/laws.FnExactCommonPeriod", spec := "fnExactCommonPeriod", apart := false, narrowed := true }
def FnExactCommonPeriodUptoSaid : Prop := fnExactCommonPeriodUptoRow.holds Try.pinned (OpenSpec.upto fnExactCommonPeriodSpec)

/-- 'laws.FnExactHandThrows', WHERE WHAT IT READS IS OF BULK AT MOST 1048576: true; the input reads as it did. -/
def fnExactHandThrowsUptoRow : OpenClaim := { program := "ytbnmbodnjecajaa", sum := "d42c4cc81830b1229f9968fb504c30eb6706cc23f0f4bee4142ab9c9975dd22e", func := "loop.example/g00927/laws.FnExactHandThrows", spec := "fnExactHandThrows", unfollowed := true, recurses := true, apart := false, narrowed := true }
def FnExactHandThrowsUptoSaid : Prop := fnExactHandThrowsUptoRow.holds Try.pinned (OpenSpec.upto fnExactHandThrowsSpec)

/-- 'laws.FnExactCrossingsOf', WHERE WHAT IT READS IS OF BULK AT MOST 1048576: true; the input reads as it did. -/
def fnExactCrossingsOfUptoRow : OpenClaim := { program := "ytbnmbodnjecajaa", sum := "d42c4cc81830b1229f9968fb504c30eb6706cc23f0f4bee4142ab9c9975dd22e", func := "loop.example/g00927/laws.FnExactCrossingsOf", spec := "fnExactCrossingsOf", unfollowed := true, recurses := true, apart := false, narrowed := true }
def FnExactCrossingsOfUptoSaid : Prop := fnExactCrossingsOfUptoRow.holds Try.pinned (OpenSpec.upto fnExactCrossingsOfSpec)

/-- 'laws.FnExactLoadsOf', WHERE WHAT IT READS IS OF BULK AT MOST 1048576: true; the input reads as it did. -/
def fnExactLoadsOfUptoRow : OpenClaim := { program := "ytbnmbodnjecajaa", sum := "d42c4cc81830b1229f9968fb504c30eb6706cc23f0f4bee4142ab9c9975dd22e", func := "loop.example/g00927/laws.FnExactLoadsOf", spec := "fnExactLoadsOf", unfollowed := true, recurses := true, apart := false, narrowed := true }
def FnExactLoadsOfUptoSaid : Prop := fnExactLoadsOfUptoRow.holds Try.pinned (OpenSpec.upto fnExactLoadsOfSpec)

/-- 'laws.FnExactRestsOf', WHERE WHAT IT READS IS OF BULK AT MOST 1048576: true; the input reads as it did. -/
def fnExactRestsOfUptoRow : OpenClaim := { program := "ytbnmbodnjecajaa", sum := "d42c4cc81830b1229f9968fb504c30eb6706cc23f0f4bee4142ab9c9975dd22e", func := "loop.example/g00927/laws.FnExactRestsOf", spec := "fnExactRestsOf", unfollowed := true, recurses := true, apart := false, narrowed := true }
def FnExactRestsOfUptoSaid : Prop := fnExactRestsOfUptoRow.holds Try.pinned (OpenSpec.upto fnExactRestsOfSpec)

/-- 'laws.FnExactRenameHands', WHERE WHAT IT READS IS OF BULK AT MOST 1048576: true; the input reads as it did. -/
def fnExactRenameHandsUptoRow : OpenClaim := { program := "ytbnmbodnjecajaa", sum := "d42c4cc81830b1229f9968fb504c30eb6706cc23f0f4bee4142ab9c9975dd22e", func := "loop.example/g00927/laws.FnExactRenameHands", spec := "fnExactRenameHands", apart := false, narrowed := true }
def FnExactRenameHandsUptoSaid : Prop := fnExactRenameHandsUptoRow.holds Try.pinned (OpenSpec.upto fnExactRenameHandsSpec)

/-- 'laws.FnExactIsAmbidextrous', WHERE WHAT IT READS IS OF BULK AT MOST 1048576: true; the input reads as it did. -/
def fnExactIsAmbidextrousUptoRow : OpenClaim := { program := "ytbnmbodnjecajaa", sum := "d42c4cc81830b1229f9968fb504c30eb6706cc23f0f4bee4142ab9c9975dd22e", func := "loop.example/g00927/laws.FnExactIsAmbidextrous", spec := "fnExactIsAmbidextrous", unfollowed := true, recurses := true, apart := false, narrowed := true }
def FnExactIsAmbidextrousUptoSaid : Prop := fnExactIsAmbidextrousUptoRow.holds Try.pinned (OpenSpec.upto fnExactIsAmbidextrousSpec)

/-- 'laws.FnExactHandsText', WHERE WHAT IT READS IS OF BULK AT MOST 1048576: true; the input reads as it did. -/
def fnExactHandsTextUptoRow : OpenClaim := { program := "ytbnmbodnjecajaa", sum := "d42c4cc81830b1229f9968fb504c30eb6706cc23f0f4bee4142ab9c9975dd22e", func := "loop.example/g00927/laws.FnExactHandsText", spec := "fnExactHandsText", inPlace := ["internal/abi.NoEscape"], apart := false, narrowed := true }
def FnExactHandsTextUptoSaid : Prop := fnExactHandsTextUptoRow.holds Try.pinned (OpenSpec.upto fnExactHandsTextSpec)

/-- 'laws.FnExactReadHands', WHERE WHAT IT READS IS OF BULK AT MOST 1048576: true; the input reads as it did. -/
def fnExactReadHandsUptoRow : OpenClaim := { program := "ytbnmbodnjecajaa", sum := "d42c4cc81830b1229f9968fb504c30eb6706cc23f0f4bee4142ab9c9975dd22e", func := "loop.example/g00927/laws.FnExactReadHands", spec := "fnExactReadHands", inPlace := ["internal/bytealg.IndexByteString"], apart := false, narrowed := true }
def FnExactReadHandsUptoSaid : Prop := fnExactReadHandsUptoRow.holds Try.pinned (OpenSpec.upto fnExactReadHandsSpec)

end Rows
end Go.Proofs.Ytbnmbodnjecajaa
