/-
  No cell of these rows narrows 'for every input' (looked for: loops, veiled, ifaces, maps, wideKeys, modest, calm, conditions, laid).
  DERIVED. THE GIVEN ROWS OF THIS SEAT. 11 by the template 'for every input the law returns true; each argument reads behind the call as it read before'; 0 by the template 'total and deterministic' (their statements: YtgdoadcpjgbioaaTotals.lean).
  GIVEN WITH THE SEED: the statements are not yours to turn. If you find one false, say at which input.
  Laid BY PROGRAM, IN A SANDBOX (cutbox-rows.mjs): the forced cells as the released guide's own fill.sh prints them over the translation 37fbf5670c860f7e… (all of the seat's roots in one cut). By AI agents, Wed Nov 11 2026. No macro, syntax, notation, axiom, sorry.
-/
import Derived.Test.YtgdoadcpjgbioaaChecked
import GoSem.Claim
import GoSem.ClaimJoined
import GoSem.ClaimMapViews
import Derived.JoinedTies
import Derived.KernelRfl
namespace Go.Proofs.Ytgdoadcpjgbioaa
/- THE CELL 'sum', in the pinned program and in every row, IS THE sha256 OF THE DUMP (.gsa) THAT YtgdoadcpjgbioaaProg.lean LOADS. Nothing in Lean hashes anything: it is a label: what it is worth is what the hold of that sum in a sandbox is worth. -/
noncomputable def Try.pinned : Pinned := { name := "ytgdoadcpjgbioaa", sum := "37fbf5670c860f7ec051fd0ffd4e9edf69916e0c7921eecd218897faa1728475", checked := Try.checked }
namespace Rows
def none {H : Type} : Left H := { results := [], args := [] }

/-- 'laws.FnMobius': WHATEVER THE INPUT: true; the input reads as it did. -/
def fnMobiusSpec : ChangeSpec := { name := "fnMobius", fn := fun _ => fun
  | [d] => { results := [.lit (.bool true)], args := [d] }
  | _ => none }
def fnMobiusRow : OpenClaim := { program := "ytgdoadcpjgbioaa", sum := "37fbf5670c860f7ec051fd0ffd4e9edf69916e0c7921eecd218897faa1728475", func := "loop.example/g00927/laws.FnMobius", spec := "fnMobius", unfollowed := true, recurses := true, plainKeys := false, apart := false }
def FnMobiusSaid : Prop := fnMobiusRow.holds Try.pinned (OpenSpec.ofChange fnMobiusSpec)

/-- ITS FALSE NEIGHBOUR: 'it returns false'. Refute it at one input. -/
def fnMobiusWrong : ChangeSpec := { name := "fnMobius", fn := fun _ => fun
  | [d] => { results := [.lit (.bool false)], args := [d] }
  | _ => none }
def FnMobiusWrongFalsely : Prop := fnMobiusRow.holds Try.pinned (OpenSpec.ofChange fnMobiusWrong)

/-- 'laws.FnExactIsPrime': WHATEVER THE INPUT: true; the input reads as it did. -/
def fnExactIsPrimeSpec : ChangeSpec := { name := "fnExactIsPrime", fn := fun _ => fun
  | [d] => { results := [.lit (.bool true)], args := [d] }
  | _ => none }
def fnExactIsPrimeRow : OpenClaim := { program := "ytgdoadcpjgbioaa", sum := "37fbf5670c860f7ec051fd0ffd4e9edf69916e0c7921eecd218897faa1728475", func := "loop.example/g00927/laws.FnExactIsPrime", spec := "fnExactIsPrime", plainKeys := false, apart := false }
def FnExactIsPrimeSaid : Prop := fnExactIsPrimeRow.holds Try.pinned (OpenSpec.ofChange fnExactIsPrimeSpec)

/-- ITS FALSE NEIGHBOUR: 'it returns false'. Refute it at one input. -/
def fnExactIsPrimeWrong : ChangeSpec := { name := "fnExactIsPrime", fn := fun _ => fun
  | [d] => { results := [.lit (.bool false)], args := [d] }
  | _ => none }
def FnExactIsPrimeWrongFalsely : Prop := fnExactIsPrimeRow.holds Try.pinned (OpenSpec.ofChange fnExactIsPrimeWrong)

/-- 'laws.FnExactFirstRepeat': WHATEVER THE INPUT: true; the input reads as it did. -/
def fnExactFirstRepeatSpec : ChangeSpec := { name := "fnExactFirstRepeat", fn := fun _ => fun
  | [d] => { results := [.lit (.bool true)], args := [d] }
  | _ => none }
def fnExactFirstRepeatRow : OpenClaim := { program := "ytgdoadcpjgbioaa", sum := "37fbf5670c860f7ec051fd0ffd4e9edf69916e0c7921eecd218897faa1728475", func := "loop.example/g00927/laws.FnExactFirstRepeat", spec := "fnExactFirstRepeat", plainKeys := false, apart := false }
def FnExactFirstRepeatSaid : Prop := fnExactFirstRepeatRow.holds Try.pinned (OpenSpec.ofChange fnExactFirstRepeatSpec)

/-- ITS FALSE NEIGHBOUR: 'it returns false'. Refute it at one input. -/
def fnExactFirstRepeatWrong : ChangeSpec := { name := "fnExactFirstRepeat", fn := fun _ => fun
  | [d] => { results := [.lit (.bool false)], args := [d] }
  | _ => none }
def FnExactFirstRepeatWrongFalsely : Prop := fnExactFirstRepeatRow.holds Try.pinned (OpenSpec.ofChange fnExactFirstRepeatWrong)

/-- 'laws.FnExactPrimeParts': WHATEVER THE INPUT: true; the input reads as it did. -/
def fnExactPrimePartsSpec : ChangeSpec := { name := "fnExactPrimeParts", fn := fun _ => fun
  | [d] => { results := [.lit (.bool true)], args := [d] }
  | _ => none }
def fnExactPrimePartsRow : OpenClaim := { program := "ytgdoadcpjgbioaa", sum := "37fbf5670c860f7ec051fd0ffd4e9edf69916e0c7921eecd218897faa1728475", func := "loop.example/g00927/laws.FnExactPrimeParts", spec := "fnExactPrimeParts", plainKeys := false, apart := false }
def FnExactPrimePartsSaid : Prop := fnExactPrimePartsRow.holds Try.pinned (OpenSpec.ofChange fnExactPrimePartsSpec)

/-- ITS FALSE NEIGHBOUR: 'it returns false'. Refute it at one input. -/
def fnExactPrimePartsWrong : ChangeSpec := { name := "fnExactPrimeParts", fn := fun _ => fun
  | [d] => { results := [.lit (.bool false)], args := [d] }
  | _ => none }
def FnExactPrimePartsWrongFalsely : Prop := fnExactPrimePartsRow.holds Try.pinned (OpenSpec.ofChange fnExactPrimePartsWrong)

/-- 'laws.FnExactStateVisits': WHATEVER THE INPUT: true; the input reads as it did. -/
def fnExactStateVisitsSpec : ChangeSpec := { name := "fnExactStateVisits", fn := fun _ => fun
  | [d] => { results := [.lit (.bool true)], args := [d] }
  | _ => none }
def fnExactStateVisitsRow : OpenClaim := { program := "ytgdoadcpjgbioaa", sum := "37fbf5670c860f7ec051fd0ffd4e9edf69916e0c7921eecd218897faa1728475", func := "loop.example/g00927/laws.FnExactStateVisits", spec := "fnExactStateVisits", plainKeys := false, apart := false }
def FnExactStateVisitsSaid : Prop := fnExactStateVisitsRow.holds Try.pinned (OpenSpec.ofChange fnExactStateVisitsSpec)

/-- ITS FALSE NEIGHBOUR: 'it returns false'. Refute it at one input. -/
def fnExactStateVisitsWrong : ChangeSpec := { name := "fnExactStateVisits", fn := fun _ => fun
  | [d] => { results := [.lit (.bool false)], args := [d] }
  | _ => none }
def FnExactStateVisitsWrongFalsely : Prop := fnExactStateVisitsRow.holds Try.pinned (OpenSpec.ofChange fnExactStateVisitsWrong)

/-- 'laws.FnExactCountFewer': WHATEVER THE INPUT: true; the input reads as it did. -/
def fnExactCountFewerSpec : ChangeSpec := { name := "fnExactCountFewer", fn := fun _ => fun
  | [d1, d2] => { results := [.lit (.bool true)], args := [d1, d2] }
  | _ => none }
def fnExactCountFewerRow : OpenClaim := { program := "ytgdoadcpjgbioaa", sum := "37fbf5670c860f7ec051fd0ffd4e9edf69916e0c7921eecd218897faa1728475", func := "loop.example/g00927/laws.FnExactCountFewer", spec := "fnExactCountFewer", plainKeys := false, apart := false }
def FnExactCountFewerSaid : Prop := fnExactCountFewerRow.holds Try.pinned (OpenSpec.ofChange fnExactCountFewerSpec)

/-- ITS FALSE NEIGHBOUR: 'it returns false'. Refute it at one input. -/
def fnExactCountFewerWrong : ChangeSpec := { name := "fnExactCountFewer", fn := fun _ => fun
  | [d1, d2] => { results := [.lit (.bool false)], args := [d1, d2] }
  | _ => none }
def FnExactCountFewerWrongFalsely : Prop := fnExactCountFewerRow.holds Try.pinned (OpenSpec.ofChange fnExactCountFewerWrong)

/-- 'laws.FnExactCountPatterns': WHATEVER THE INPUT: true; the input reads as it did. -/
def fnExactCountPatternsSpec : ChangeSpec := { name := "fnExactCountPatterns", fn := fun _ => fun
  | [d1, d2] => { results := [.lit (.bool true)], args := [d1, d2] }
  | _ => none }
def fnExactCountPatternsRow : OpenClaim := { program := "ytgdoadcpjgbioaa", sum := "37fbf5670c860f7ec051fd0ffd4e9edf69916e0c7921eecd218897faa1728475", func := "loop.example/g00927/laws.FnExactCountPatterns", spec := "fnExactCountPatterns", plainKeys := false, apart := false }
def FnExactCountPatternsSaid : Prop := fnExactCountPatternsRow.holds Try.pinned (OpenSpec.ofChange fnExactCountPatternsSpec)

/-- ITS FALSE NEIGHBOUR: 'it returns false'. Refute it at one input. -/
def fnExactCountPatternsWrong : ChangeSpec := { name := "fnExactCountPatterns", fn := fun _ => fun
  | [d1, d2] => { results := [.lit (.bool false)], args := [d1, d2] }
  | _ => none }
def FnExactCountPatternsWrongFalsely : Prop := fnExactCountPatternsRow.holds Try.pinned (OpenSpec.ofChange fnExactCountPatternsWrong)

/-- 'laws.FnExactCountNecklaces': WHATEVER THE INPUT: true; the input reads as it did. -/
def fnExactCountNecklacesSpec : ChangeSpec := { name := "fnExactCountNecklaces", fn := fun _ => fun
  | [d1, d2] => { results := [.lit (.bool true)], args := [d1, d2] }
  | _ => none }
def fnExactCountNecklacesRow : OpenClaim := { program := "ytgdoadcpjgbioaa", sum := "37fbf5670c860f7ec051fd0ffd4e9edf69916e0c7921eecd218897faa1728475", func := "loop.example/g00927/laws.FnExactCountNecklaces", spec := "fnExactCountNecklaces", unfollowed := true, recurses := true, plainKeys := false, apart := false }
def FnExactCountNecklacesSaid : Prop := fnExactCountNecklacesRow.holds Try.pinned (OpenSpec.ofChange fnExactCountNecklacesSpec)

/-- ITS FALSE NEIGHBOUR: 'it returns false'. Refute it at one input. -/
def fnExactCountNecklacesWrong : ChangeSpec := { name := "fnExactCountNecklaces", fn := fun _ => fun
  | [d1, d2] => { results := [.lit (.bool false)], args := [d1, d2] }
  | _ => none }
def FnExactCountNecklacesWrongFalsely : Prop := fnExactCountNecklacesRow.holds Try.pinned (OpenSpec.ofChange fnExactCountNecklacesWrong)

/-- 'laws.FnExactMobius': WHATEVER THE INPUT: true; the input reads as it did. -/
def fnExactMobiusSpec : ChangeSpec := { name := "fnExactMobius", fn := fun _ => fun
  | [d] => { results := [.lit (.bool true)], args := [d] }
  | _ => none }
def fnExactMobiusRow : OpenClaim := { program := "ytgdoadcpjgbioaa", sum := "37fbf5670c860f7ec051fd0ffd4e9edf69916e0c7921eecd218897faa1728475", func := "loop.example/g00927/laws.FnExactMobius", spec := "fnExactMobius", plainKeys := false, apart := false }
def FnExactMobiusSaid : Prop := fnExactMobiusRow.holds Try.pinned (OpenSpec.ofChange fnExactMobiusSpec)

/-- ITS FALSE NEIGHBOUR: 'it returns false'. Refute it at one input. -/
def fnExactMobiusWrong : ChangeSpec := { name := "fnExactMobius", fn := fun _ => fun
  | [d] => { results := [.lit (.bool false)], args := [d] }
  | _ => none }
def FnExactMobiusWrongFalsely : Prop := fnExactMobiusRow.holds Try.pinned (OpenSpec.ofChange fnExactMobiusWrong)

/-- 'laws.FnExactDivisorsOf': WHATEVER THE INPUT: true; the input reads as it did. -/
def fnExactDivisorsOfSpec : ChangeSpec := { name := "fnExactDivisorsOf", fn := fun _ => fun
  | [d] => { results := [.lit (.bool true)], args := [d] }
  | _ => none }
def fnExactDivisorsOfRow : OpenClaim := { program := "ytgdoadcpjgbioaa", sum := "37fbf5670c860f7ec051fd0ffd4e9edf69916e0c7921eecd218897faa1728475", func := "loop.example/g00927/laws.FnExactDivisorsOf", spec := "fnExactDivisorsOf", unfollowed := true, recurses := true, plainKeys := false, apart := false }
def FnExactDivisorsOfSaid : Prop := fnExactDivisorsOfRow.holds Try.pinned (OpenSpec.ofChange fnExactDivisorsOfSpec)

/-- ITS FALSE NEIGHBOUR: 'it returns false'. Refute it at one input. -/
def fnExactDivisorsOfWrong : ChangeSpec := { name := "fnExactDivisorsOf", fn := fun _ => fun
  | [d] => { results := [.lit (.bool false)], args := [d] }
  | _ => none }
def FnExactDivisorsOfWrongFalsely : Prop := fnExactDivisorsOfRow.holds Try.pinned (OpenSpec.ofChange fnExactDivisorsOfWrong)

/-- 'laws.FnExactAverageOf': WHATEVER THE INPUT: true; the input reads as it did. -/
def fnExactAverageOfSpec : ChangeSpec := { name := "fnExactAverageOf", fn := fun _ => fun
  | [d] => { results := [.lit (.bool true)], args := [d] }
  | _ => none }
def fnExactAverageOfRow : OpenClaim := { program := "ytgdoadcpjgbioaa", sum := "37fbf5670c860f7ec051fd0ffd4e9edf69916e0c7921eecd218897faa1728475", func := "loop.example/g00927/laws.FnExactAverageOf", spec := "fnExactAverageOf", plainKeys := false, apart := false }
def FnExactAverageOfSaid : Prop := fnExactAverageOfRow.holds Try.pinned (OpenSpec.ofChange fnExactAverageOfSpec)

/-- ITS FALSE NEIGHBOUR: 'it returns false'. Refute it at one input. -/
def fnExactAverageOfWrong : ChangeSpec := { name := "fnExactAverageOf", fn := fun _ => fun
  | [d] => { results := [.lit (.bool false)], args := [d] }
  | _ => none }
def FnExactAverageOfWrongFalsely : Prop := fnExactAverageOfRow.holds Try.pinned (OpenSpec.ofChange fnExactAverageOfWrong)

/- THE SECOND FORM. 'bulk': how many values and letters a reading holds, each counted each time it is reached (what is shared counts as often as it is met; a slice's spare places count too). A statement '..UptoSaid' is the law's where the arguments, and the package variables that the reading takes, are together of bulk at most 1048576: NARROWER than '..Said'. Prove '..Said' where nothing that the law and all that it calls make is longer than what came in: it says more and counts as full. Else prove '..UptoSaid'. A law counts once. -/
mutual
def uptoBulk {H : Type} : DataW H → Nat
  | .lit (.string bytes) => bytes.length + 1
  | .lit _ => 1
  | .nil => 1
  | .ptr d => uptoBulk d + 1
  | .slice elems spare => uptoBulkAll elems + uptoBulkAll spare + 1
  | .agg parts => uptoBulkAll parts + 1
  | .iface _ d => uptoBulk d + 1
  | .map entries => uptoBulkEntries entries + 1
  | .held _ => 1
def uptoBulkAll {H : Type} : List (DataW H) → Nat
  | [] => 0
  | d :: r => uptoBulk d + uptoBulkAll r
def uptoBulkEntries {H : Type} : List (Lit × DataW H) → Nat
  | [] => 0
  | x :: r => uptoBulkEntry x + uptoBulkEntries r
def uptoBulkEntry {H : Type} : Lit × DataW H → Nat
  | (.string bytes, d) => bytes.length + uptoBulk d + 1
  | (_, d) => uptoBulk d + 1
 end
def uptoSmall : (H : Type) → List (DataW H) → Bool := fun _ ds => decide (uptoBulkAll ds ≤ 1048576)
def OpenSpec.upto (s : _root_.Go.ChangeSpec) : _root_.Go.OpenSpec := { _root_.Go.OpenSpec.ofChange s with cond := some uptoSmall }

/-- 'laws.FnMobius', WHERE WHAT IT READS IS OF BULK AT MOST 1048576: true; the input reads as it did. -/
def fnMobiusUptoRow : OpenClaim := { program := "ytgdoadcpjgbioaa", sum := "37fbf5670c860f7ec051fd0ffd4e9edf69916e0c7921eecd218897faa1728475", func := "loop.example/g00927/laws.FnMobius", spec := "fnMobius", unfollowed := true, recurses := true, plainKeys := false, apart := false, narrowed := true }
def FnMobiusUptoSaid : Prop := fnMobiusUptoRow.holds Try.pinned (OpenSpec.upto fnMobiusSpec)

/-- 'laws.FnExactIsPrime', WHERE WHAT IT READS IS OF BULK AT MOST 1048576: true; the input reads as it did. -/
def fnExactIsPrimeUptoRow : OpenClaim := { program := "ytgdoadcpjgbioaa", sum := "37fbf5670c860f7ec051fd0ffd4e9edf69916e0c7921eecd218897faa1728475", func := "loop.example/g00927/laws.FnExactIsPrime", spec := "fnExactIsPrime", plainKeys := false, apart := false, narrowed := true }
def FnExactIsPrimeUptoSaid : Prop := fnExactIsPrimeUptoRow.holds Try.pinned (OpenSpec.upto fnExactIsPrimeSpec)

/-- 'laws.FnExactFirstRepeat', WHERE WHAT IT READS IS OF BULK AT MOST 1048576: true; the input reads as it did. -/
def fnExactFirstRepeatUptoRow : OpenClaim := { program := "ytgdoadcpjgbioaa", sum := "37fbf5670c860f7ec051fd0ffd4e9edf69916e0c7921eecd218897faa1728475", func := "loop.example/g00927/laws.FnExactFirstRepeat", spec := "fnExactFirstRepeat", plainKeys := false, apart := false, narrowed := true }
def FnExactFirstRepeatUptoSaid : Prop := fnExactFirstRepeatUptoRow.holds Try.pinned (OpenSpec.upto fnExactFirstRepeatSpec)

/-- 'laws.FnExactPrimeParts', WHERE WHAT IT READS IS OF BULK AT MOST 1048576: true; the input reads as it did. -/
def fnExactPrimePartsUptoRow : OpenClaim := { program := "ytgdoadcpjgbioaa", sum := "37fbf5670c860f7ec051fd0ffd4e9edf69916e0c7921eecd218897faa1728475", func := "loop.example/g00927/laws.FnExactPrimeParts", spec := "fnExactPrimeParts", plainKeys := false, apart := false, narrowed := true }
def FnExactPrimePartsUptoSaid : Prop := fnExactPrimePartsUptoRow.holds Try.pinned (OpenSpec.upto fnExactPrimePartsSpec)

/-- 'laws.FnExactStateVisits', WHERE WHAT IT READS IS OF BULK AT MOST 1048576: true; the input reads as it did. -/
def fnExactStateVisitsUptoRow : OpenClaim := { program := "ytgdoadcpjgbioaa", sum := "37fbf5670c860f7ec051fd0ffd4e9edf69916e0c7921eecd218897faa1728475", func := "loop.example/g00927/laws.FnExactStateVisits", spec := "fnExactStateVisits", plainKeys := false, apart := false, narrowed := true }
def FnExactStateVisitsUptoSaid : Prop := fnExactStateVisitsUptoRow.holds Try.pinned (OpenSpec.upto fnExactStateVisitsSpec)

/-- 'laws.FnExactCountFewer', WHERE WHAT IT READS IS OF BULK AT MOST 1048576: true; the input reads as it did. -/
def fnExactCountFewerUptoRow : OpenClaim := { program := "ytgdoadcpjgbioaa", sum := "37fbf5670c860f7ec051fd0ffd4e9edf69916e0c7921eecd218897faa1728475", func := "loop.example/g00927/laws.FnExactCountFewer", spec := "fnExactCountFewer", plainKeys := false, apart := false, narrowed := true }
def FnExactCountFewerUptoSaid : Prop := fnExactCountFewerUptoRow.holds Try.pinned (OpenSpec.upto fnExactCountFewerSpec)

/-- 'laws.FnExactCountPatterns', WHERE WHAT IT READS IS OF BULK AT MOST 1048576: true; the input reads as it did. -/
def fnExactCountPatternsUptoRow : OpenClaim := { program := "ytgdoadcpjgbioaa", sum := "37fbf5670c860f7ec051fd0ffd4e9edf69916e0c7921eecd218897faa1728475", func := "loop.example/g00927/laws.FnExactCountPatterns", spec := "fnExactCountPatterns", plainKeys := false, apart := false, narrowed := true }
def FnExactCountPatternsUptoSaid : Prop := fnExactCountPatternsUptoRow.holds Try.pinned (OpenSpec.upto fnExactCountPatternsSpec)

/-- 'laws.FnExactCountNecklaces', WHERE WHAT IT READS IS OF BULK AT MOST 1048576: true; the input reads as it did. -/
def fnExactCountNecklacesUptoRow : OpenClaim := { program := "ytgdoadcpjgbioaa", sum := "37fbf5670c860f7ec051fd0ffd4e9edf69916e0c7921eecd218897faa1728475", func := "loop.example/g00927/laws.FnExactCountNecklaces", spec := "fnExactCountNecklaces", unfollowed := true, recurses := true, plainKeys := false, apart := false, narrowed := true }
def FnExactCountNecklacesUptoSaid : Prop := fnExactCountNecklacesUptoRow.holds Try.pinned (OpenSpec.upto fnExactCountNecklacesSpec)

/-- 'laws.FnExactMobius', WHERE WHAT IT READS IS OF BULK AT MOST 1048576: true; the input reads as it did. -/
def fnExactMobiusUptoRow : OpenClaim := { program := "ytgdoadcpjgbioaa", sum := "37fbf5670c860f7ec051fd0ffd4e9edf69916e0c7921eecd218897faa1728475", func := "loop.example/g00927/laws.FnExactMobius", spec := "fnExactMobius", plainKeys := false, apart := false, narrowed := true }
def FnExactMobiusUptoSaid : Prop := fnExactMobiusUptoRow.holds Try.pinned (OpenSpec.upto fnExactMobiusSpec)

/-- 'laws.FnExactDivisorsOf', WHERE WHAT IT READS IS OF BULK AT MOST 1048576: true; the input reads as it did. -/
def fnExactDivisorsOfUptoRow : OpenClaim := { program := "ytgdoadcpjgbioaa", sum := "37fbf5670c860f7ec051fd0ffd4e9edf69916e0c7921eecd218897faa1728475", func := "loop.example/g00927/laws.FnExactDivisorsOf", spec := "fnExactDivisorsOf", unfollowed := true, recurses := true, plainKeys := false, apart := false, narrowed := true }
def FnExactDivisorsOfUptoSaid : Prop := fnExactDivisorsOfUptoRow.holds Try.pinned (OpenSpec.upto fnExactDivisorsOfSpec)

/-- 'laws.FnExactAverageOf', WHERE WHAT IT READS IS OF BULK AT MOST 1048576: true; the input reads as it did. -/
def fnExactAverageOfUptoRow : OpenClaim := { program := "ytgdoadcpjgbioaa", sum := "37fbf5670c860f7ec051fd0ffd4e9edf69916e0c7921eecd218897faa1728475", func := "loop.example/g00927/laws.FnExactAverageOf", spec := "fnExactAverageOf", plainKeys := false, apart := false, narrowed := true }
def FnExactAverageOfUptoSaid : Prop := fnExactAverageOfUptoRow.holds Try.pinned (OpenSpec.upto fnExactAverageOfSpec)

end Rows
end Go.Proofs.Ytgdoadcpjgbioaa
