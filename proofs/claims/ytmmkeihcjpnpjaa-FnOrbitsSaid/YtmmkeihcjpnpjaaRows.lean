/-
  No cell of these rows narrows 'for every input' (looked for: loops, veiled, ifaces, maps, wideKeys, modest, calm, conditions, laid).
  DERIVED. THE GIVEN ROWS OF THIS SEAT. 10 by the template 'for every input the law returns true; each argument reads behind the call as it read before'; 0 by the template 'total and deterministic' (their statements: YtmmkeihcjpnpjaaTotals.lean).
  GIVEN WITH THE SEED: the statements are not yours to turn. If you find one false, say at which input.
  Laid BY PROGRAM, IN A SANDBOX (cutbox-rows.mjs): the forced cells as the released guide's own fill.sh prints them over the translation 6495caf7541b1af7… (all of the seat's roots in one cut). By AI agents, Wed Nov 11 2026. No macro, syntax, notation, axiom, sorry.
-/
import Derived.Test.YtmmkeihcjpnpjaaChecked
import GoSem.Claim
import GoSem.ClaimJoined
import GoSem.ClaimMapViews
import Derived.JoinedTies
import Derived.KernelRfl
namespace Go.Proofs.Ytmmkeihcjpnpjaa
/- THE CELL 'sum', in the pinned program and in every row, IS THE sha256 OF THE DUMP (.gsa) THAT YtmmkeihcjpnpjaaProg.lean LOADS. Nothing in Lean hashes anything: it is a label: what it is worth is what the hold of that sum in a sandbox is worth. -/
noncomputable def Try.pinned : Pinned := { name := "ytmmkeihcjpnpjaa", sum := "6495caf7541b1af7056dfb67568366f713b18a2a059db3172c324b827967d796", checked := Try.checked }
namespace Rows
def none {H : Type} : Left H := { results := [], args := [] }

/-- 'laws.FnOrbits': WHATEVER THE INPUT: true; the input reads as it did. -/
def fnOrbitsSpec : ChangeSpec := { name := "fnOrbits", fn := fun _ => fun
  | [d] => { results := [.lit (.bool true)], args := [d] }
  | _ => none }
def fnOrbitsRow : OpenClaim := { program := "ytmmkeihcjpnpjaa", sum := "6495caf7541b1af7056dfb67568366f713b18a2a059db3172c324b827967d796", func := "loop.example/g00927/laws.FnOrbits", spec := "fnOrbits", apart := false }
def FnOrbitsSaid : Prop := fnOrbitsRow.holds Try.pinned (OpenSpec.ofChange fnOrbitsSpec)

/-- ITS FALSE NEIGHBOUR: 'it returns false'. Refute it at one input. -/
def fnOrbitsWrong : ChangeSpec := { name := "fnOrbits", fn := fun _ => fun
  | [d] => { results := [.lit (.bool false)], args := [d] }
  | _ => none }
def FnOrbitsWrongFalsely : Prop := fnOrbitsRow.holds Try.pinned (OpenSpec.ofChange fnOrbitsWrong)

/-- 'laws.FnProps': WHATEVER THE INPUT: true; the input reads as it did. -/
def fnPropsSpec : ChangeSpec := { name := "fnProps", fn := fun _ => fun
  | [d1, d2] => { results := [.lit (.bool true)], args := [d1, d2] }
  | _ => none }
def fnPropsRow : OpenClaim := { program := "ytmmkeihcjpnpjaa", sum := "6495caf7541b1af7056dfb67568366f713b18a2a059db3172c324b827967d796", func := "loop.example/g00927/laws.FnProps", spec := "fnProps", apart := false }
def FnPropsSaid : Prop := fnPropsRow.holds Try.pinned (OpenSpec.ofChange fnPropsSpec)

/-- ITS FALSE NEIGHBOUR: 'it returns false'. Refute it at one input. -/
def fnPropsWrong : ChangeSpec := { name := "fnProps", fn := fun _ => fun
  | [d1, d2] => { results := [.lit (.bool false)], args := [d1, d2] }
  | _ => none }
def FnPropsWrongFalsely : Prop := fnPropsRow.holds Try.pinned (OpenSpec.ofChange fnPropsWrong)

/-- 'laws.FnExactOrbitsOf': WHATEVER THE INPUT: true; the input reads as it did. -/
def fnExactOrbitsOfSpec : ChangeSpec := { name := "fnExactOrbitsOf", fn := fun _ => fun
  | [d] => { results := [.lit (.bool true)], args := [d] }
  | _ => none }
def fnExactOrbitsOfRow : OpenClaim := { program := "ytmmkeihcjpnpjaa", sum := "6495caf7541b1af7056dfb67568366f713b18a2a059db3172c324b827967d796", func := "loop.example/g00927/laws.FnExactOrbitsOf", spec := "fnExactOrbitsOf", apart := false }
def FnExactOrbitsOfSaid : Prop := fnExactOrbitsOfRow.holds Try.pinned (OpenSpec.ofChange fnExactOrbitsOfSpec)

/-- ITS FALSE NEIGHBOUR: 'it returns false'. Refute it at one input. -/
def fnExactOrbitsOfWrong : ChangeSpec := { name := "fnExactOrbitsOf", fn := fun _ => fun
  | [d] => { results := [.lit (.bool false)], args := [d] }
  | _ => none }
def FnExactOrbitsOfWrongFalsely : Prop := fnExactOrbitsOfRow.holds Try.pinned (OpenSpec.ofChange fnExactOrbitsOfWrong)

/-- 'laws.FnExactOrbitOf': WHATEVER THE INPUT: true; the input reads as it did. -/
def fnExactOrbitOfSpec : ChangeSpec := { name := "fnExactOrbitOf", fn := fun _ => fun
  | [d1, d2] => { results := [.lit (.bool true)], args := [d1, d2] }
  | _ => none }
def fnExactOrbitOfRow : OpenClaim := { program := "ytmmkeihcjpnpjaa", sum := "6495caf7541b1af7056dfb67568366f713b18a2a059db3172c324b827967d796", func := "loop.example/g00927/laws.FnExactOrbitOf", spec := "fnExactOrbitOf", apart := false }
def FnExactOrbitOfSaid : Prop := fnExactOrbitOfRow.holds Try.pinned (OpenSpec.ofChange fnExactOrbitOfSpec)

/-- ITS FALSE NEIGHBOUR: 'it returns false'. Refute it at one input. -/
def fnExactOrbitOfWrong : ChangeSpec := { name := "fnExactOrbitOf", fn := fun _ => fun
  | [d1, d2] => { results := [.lit (.bool false)], args := [d1, d2] }
  | _ => none }
def FnExactOrbitOfWrongFalsely : Prop := fnExactOrbitOfRow.holds Try.pinned (OpenSpec.ofChange fnExactOrbitOfWrong)

/-- 'laws.FnExactOrbitProps': WHATEVER THE INPUT: true; the input reads as it did. -/
def fnExactOrbitPropsSpec : ChangeSpec := { name := "fnExactOrbitProps", fn := fun _ => fun
  | [d] => { results := [.lit (.bool true)], args := [d] }
  | _ => none }
def fnExactOrbitPropsRow : OpenClaim := { program := "ytmmkeihcjpnpjaa", sum := "6495caf7541b1af7056dfb67568366f713b18a2a059db3172c324b827967d796", func := "loop.example/g00927/laws.FnExactOrbitProps", spec := "fnExactOrbitProps", apart := false }
def FnExactOrbitPropsSaid : Prop := fnExactOrbitPropsRow.holds Try.pinned (OpenSpec.ofChange fnExactOrbitPropsSpec)

/-- ITS FALSE NEIGHBOUR: 'it returns false'. Refute it at one input. -/
def fnExactOrbitPropsWrong : ChangeSpec := { name := "fnExactOrbitProps", fn := fun _ => fun
  | [d] => { results := [.lit (.bool false)], args := [d] }
  | _ => none }
def FnExactOrbitPropsWrongFalsely : Prop := fnExactOrbitPropsRow.holds Try.pinned (OpenSpec.ofChange fnExactOrbitPropsWrong)

/-- 'laws.FnExactOrbitPattern': WHATEVER THE INPUT: true; the input reads as it did. -/
def fnExactOrbitPatternSpec : ChangeSpec := { name := "fnExactOrbitPattern", fn := fun _ => fun
  | [d1, d2] => { results := [.lit (.bool true)], args := [d1, d2] }
  | _ => none }
def fnExactOrbitPatternRow : OpenClaim := { program := "ytmmkeihcjpnpjaa", sum := "6495caf7541b1af7056dfb67568366f713b18a2a059db3172c324b827967d796", func := "loop.example/g00927/laws.FnExactOrbitPattern", spec := "fnExactOrbitPattern", apart := false }
def FnExactOrbitPatternSaid : Prop := fnExactOrbitPatternRow.holds Try.pinned (OpenSpec.ofChange fnExactOrbitPatternSpec)

/-- ITS FALSE NEIGHBOUR: 'it returns false'. Refute it at one input. -/
def fnExactOrbitPatternWrong : ChangeSpec := { name := "fnExactOrbitPattern", fn := fun _ => fun
  | [d1, d2] => { results := [.lit (.bool false)], args := [d1, d2] }
  | _ => none }
def FnExactOrbitPatternWrongFalsely : Prop := fnExactOrbitPatternRow.holds Try.pinned (OpenSpec.ofChange fnExactOrbitPatternWrong)

/-- 'laws.FnExactFullPeriod': WHATEVER THE INPUT: true; the input reads as it did. -/
def fnExactFullPeriodSpec : ChangeSpec := { name := "fnExactFullPeriod", fn := fun _ => fun
  | [d] => { results := [.lit (.bool true)], args := [d] }
  | _ => none }
def fnExactFullPeriodRow : OpenClaim := { program := "ytmmkeihcjpnpjaa", sum := "6495caf7541b1af7056dfb67568366f713b18a2a059db3172c324b827967d796", func := "loop.example/g00927/laws.FnExactFullPeriod", spec := "fnExactFullPeriod", apart := false }
def FnExactFullPeriodSaid : Prop := fnExactFullPeriodRow.holds Try.pinned (OpenSpec.ofChange fnExactFullPeriodSpec)

/-- ITS FALSE NEIGHBOUR: 'it returns false'. Refute it at one input. -/
def fnExactFullPeriodWrong : ChangeSpec := { name := "fnExactFullPeriod", fn := fun _ => fun
  | [d] => { results := [.lit (.bool false)], args := [d] }
  | _ => none }
def FnExactFullPeriodWrongFalsely : Prop := fnExactFullPeriodRow.holds Try.pinned (OpenSpec.ofChange fnExactFullPeriodWrong)

/-- 'laws.FnExactPropAt': WHATEVER THE INPUT: true; the input reads as it did. -/
def fnExactPropAtSpec : ChangeSpec := { name := "fnExactPropAt", fn := fun _ => fun
  | [d1, d2] => { results := [.lit (.bool true)], args := [d1, d2] }
  | _ => none }
def fnExactPropAtRow : OpenClaim := { program := "ytmmkeihcjpnpjaa", sum := "6495caf7541b1af7056dfb67568366f713b18a2a059db3172c324b827967d796", func := "loop.example/g00927/laws.FnExactPropAt", spec := "fnExactPropAt", apart := false }
def FnExactPropAtSaid : Prop := fnExactPropAtRow.holds Try.pinned (OpenSpec.ofChange fnExactPropAtSpec)

/-- ITS FALSE NEIGHBOUR: 'it returns false'. Refute it at one input. -/
def fnExactPropAtWrong : ChangeSpec := { name := "fnExactPropAt", fn := fun _ => fun
  | [d1, d2] => { results := [.lit (.bool false)], args := [d1, d2] }
  | _ => none }
def FnExactPropAtWrongFalsely : Prop := fnExactPropAtRow.holds Try.pinned (OpenSpec.ofChange fnExactPropAtWrong)

/-- 'laws.FnExactThrowsOfProp': WHATEVER THE INPUT: true; the input reads as it did. -/
def fnExactThrowsOfPropSpec : ChangeSpec := { name := "fnExactThrowsOfProp", fn := fun _ => fun
  | [d1, d2, d3] => { results := [.lit (.bool true)], args := [d1, d2, d3] }
  | _ => none }
def fnExactThrowsOfPropRow : OpenClaim := { program := "ytmmkeihcjpnpjaa", sum := "6495caf7541b1af7056dfb67568366f713b18a2a059db3172c324b827967d796", func := "loop.example/g00927/laws.FnExactThrowsOfProp", spec := "fnExactThrowsOfProp", apart := false }
def FnExactThrowsOfPropSaid : Prop := fnExactThrowsOfPropRow.holds Try.pinned (OpenSpec.ofChange fnExactThrowsOfPropSpec)

/-- ITS FALSE NEIGHBOUR: 'it returns false'. Refute it at one input. -/
def fnExactThrowsOfPropWrong : ChangeSpec := { name := "fnExactThrowsOfProp", fn := fun _ => fun
  | [d1, d2, d3] => { results := [.lit (.bool false)], args := [d1, d2, d3] }
  | _ => none }
def FnExactThrowsOfPropWrongFalsely : Prop := fnExactThrowsOfPropRow.holds Try.pinned (OpenSpec.ofChange fnExactThrowsOfPropWrong)

/-- 'laws.FnExactPropsInOrder': WHATEVER THE INPUT: true; the input reads as it did. -/
def fnExactPropsInOrderSpec : ChangeSpec := { name := "fnExactPropsInOrder", fn := fun _ => fun
  | [d1, d2] => { results := [.lit (.bool true)], args := [d1, d2] }
  | _ => none }
def fnExactPropsInOrderRow : OpenClaim := { program := "ytmmkeihcjpnpjaa", sum := "6495caf7541b1af7056dfb67568366f713b18a2a059db3172c324b827967d796", func := "loop.example/g00927/laws.FnExactPropsInOrder", spec := "fnExactPropsInOrder", apart := false }
def FnExactPropsInOrderSaid : Prop := fnExactPropsInOrderRow.holds Try.pinned (OpenSpec.ofChange fnExactPropsInOrderSpec)

/-- ITS FALSE NEIGHBOUR: 'it returns false'. Refute it at one input. -/
def fnExactPropsInOrderWrong : ChangeSpec := { name := "fnExactPropsInOrder", fn := fun _ => fun
  | [d1, d2] => { results := [.lit (.bool false)], args := [d1, d2] }
  | _ => none }
def FnExactPropsInOrderWrongFalsely : Prop := fnExactPropsInOrderRow.holds Try.pinned (OpenSpec.ofChange fnExactPropsInOrderWrong)

/- THE SECOND FORM. 'bulk': how many values and letters a reading holds, each counted each time it is reached (what is shared counts as often as it is met; a slice's spare places count too). A statement '..UptoSaid' is the law's where the arguments, and the package variables that the reading takes, are together of bulk at most 1048576: NARROWER than '..Said'. Prove '..Said' where nothing that the law and all that it calls make is longer than what came in: it says more and counts as full. Else prove '..UptoSaid'. A law counts once. -/
mutual
def uptoBulk {H : Type} : DataW H → Nat
  | .lit (.string bytes) => bytes.length + 1
  | .lit _ => 1
  | .nil => 1
  | .ptr d => uptoBulk d + 1
  | .slice elems spare => uptoBulkAll elems + uptoBulkAll spare + 1
  | .agg parts => uptoBulkAll parts + 1
  | .iface _ d => uptoBulk d + 1
  | .map entries => uptoBulkEntries entries + 1
  | .held _ => 1
def uptoBulkAll {H : Type} : List (DataW H) → Nat
  | [] => 0
  | d :: r => uptoBulk d + uptoBulkAll r
def uptoBulkEntries {H : Type} : List (Lit × DataW H) → Nat
  | [] => 0
  | x :: r => uptoBulkEntry x + uptoBulkEntries r
def uptoBulkEntry {H : Type} : Lit × DataW H → Nat
  | (.string bytes, d) => bytes.length + uptoBulk d + 1
  | (_, d) => uptoBulk d + 1
 end
def uptoSmall : (H : Type) → List (DataW H) → Bool := fun _ ds => decide (uptoBulkAll ds ≤ 1048576)
def OpenSpec.upto (s : _root_.Go.ChangeSpec) : _root_.Go.OpenSpec := { _root_.Go.OpenSpec.ofChange s with cond := some uptoSmall }

/-- 'laws.FnOrbits', WHERE WHAT IT READS IS OF BULK AT MOST 1048576: true; the input reads as it did. -/
def fnOrbitsUptoRow : OpenClaim := { program := "ytmmkeihcjpnpjaa", sum := "6495caf7541b1af7056dfb67568366f713b18a2a059db3172c324b827967d796", func := "loop.example/g00927/laws.FnOrbits", spec := "fnOrbits", apart := false, narrowed := true }
def FnOrbitsUptoSaid : Prop := fnOrbitsUptoRow.holds Try.pinned (OpenSpec.upto fnOrbitsSpec)

/-- 'laws.FnProps', WHERE WHAT IT READS IS OF BULK AT MOST 1048576: true; the input reads as it did. -/
def fnPropsUptoRow : OpenClaim := { program := "ytmmkeihcjpnpjaa", sum := "6495caf7541b1af7056dfb67568366f713b18a2a059db3172c324b827967d796", func := "loop.example/g00927/laws.FnProps", spec := "fnProps", apart := false, narrowed := true }
def FnPropsUptoSaid : Prop := fnPropsUptoRow.holds Try.pinned (OpenSpec.upto fnPropsSpec)

/-- 'laws.FnExactOrbitsOf', WHERE WHAT IT READS IS OF BULK AT MOST 1048576: true; the input reads as it did. -/
def fnExactOrbitsOfUptoRow : OpenClaim := { program := "ytmmkeihcjpnpjaa", sum := "6495caf7541b1af7056dfb67568366f713b18a2a059db3172c324b827967d796", func := "loop.example/g00927/laws.FnExactOrbitsOf", spec := "fnExactOrbitsOf", apart := false, narrowed := true }
def FnExactOrbitsOfUptoSaid : Prop := fnExactOrbitsOfUptoRow.holds Try.pinned (OpenSpec.upto fnExactOrbitsOfSpec)

/-- 'laws.FnExactOrbitOf', WHERE WHAT IT READS IS OF BULK AT MOST 1048576: true; the input reads as it did. -/
def fnExactOrbitOfUptoRow : OpenClaim := { program := "ytmmkeihcjpnpjaa", sum := "6495caf7541b1af7056dfb67568366f713b18a2a059db3172c324b827967d796", func := "loop.example/g00927/laws.FnExactOrbitOf", spec := "fnExactOrbitOf", apart := false, narrowed := true }
def FnExactOrbitOfUptoSaid : Prop := fnExactOrbitOfUptoRow.holds Try.pinned (OpenSpec.upto fnExactOrbitOfSpec)

/-- 'laws.FnExactOrbitProps', WHERE WHAT IT READS IS OF BULK AT MOST 1048576: true; the input reads as it did. -/
def fnExactOrbitPropsUptoRow : OpenClaim := { program := "ytmmkeihcjpnpjaa", sum := "6495caf7541b1af7056dfb67568366f713b18a2a059db3172c324b827967d796", func := "loop.example/g00927/laws.FnExactOrbitProps", spec := "fnExactOrbitProps", apart := false, narrowed := true }
def FnExactOrbitPropsUptoSaid : Prop := fnExactOrbitPropsUptoRow.holds Try.pinned (OpenSpec.upto fnExactOrbitPropsSpec)

/-- 'laws.FnExactOrbitPattern', WHERE WHAT IT READS IS OF BULK AT MOST 1048576: true; the input reads as it did. -/
def fnExactOrbitPatternUptoRow : OpenClaim := { program := "ytmmkeihcjpnpjaa", sum := "6495caf7541b1af7056dfb67568366f713b18a2a059db3172c324b827967d796", func := "loop.example/g00927/laws.FnExactOrbitPattern", spec := "fnExactOrbitPattern", apart := false, narrowed := true }
def FnExactOrbitPatternUptoSaid : Prop := fnExactOrbitPatternUptoRow.holds Try.pinned (OpenSpec.upto fnExactOrbitPatternSpec)

/-- 'laws.FnExactFullPeriod', WHERE WHAT IT READS IS OF BULK AT MOST 1048576: true; the input reads as it did. -/
def fnExactFullPeriodUptoRow : OpenClaim := { program := "ytmmkeihcjpnpjaa", sum := "6495caf7541b1af7056dfb67568366f713b18a2a059db3172c324b827967d796", func := "loop.example/g00927/laws.FnExactFullPeriod", spec := "fnExactFullPeriod", apart := false, narrowed := true }
def FnExactFullPeriodUptoSaid : Prop := fnExactFullPeriodUptoRow.holds Try.pinned (OpenSpec.upto fnExactFullPeriodSpec)

/-- 'laws.FnExactPropAt', WHERE WHAT IT READS IS OF BULK AT MOST 1048576: true; the input reads as it did. -/
def fnExactPropAtUptoRow : OpenClaim := { program := "ytmmkeihcjpnpjaa", sum := "6495caf7541b1af7056dfb67568366f713b18a2a059db3172c324b827967d796", func := "loop.example/g00927/laws.FnExactPropAt", spec := "fnExactPropAt", apart := false, narrowed := true }
def FnExactPropAtUptoSaid : Prop := fnExactPropAtUptoRow.holds Try.pinned (OpenSpec.upto fnExactPropAtSpec)

/-- 'laws.FnExactThrowsOfProp', WHERE WHAT IT READS IS OF BULK AT MOST 1048576: true; the input reads as it did. -/
def fnExactThrowsOfPropUptoRow : OpenClaim := { program := "ytmmkeihcjpnpjaa", sum := "6495caf7541b1af7056dfb67568366f713b18a2a059db3172c324b827967d796", func := "loop.example/g00927/laws.FnExactThrowsOfProp", spec := "fnExactThrowsOfProp", apart := false, narrowed := true }
def FnExactThrowsOfPropUptoSaid : Prop := fnExactThrowsOfPropUptoRow.holds Try.pinned (OpenSpec.upto fnExactThrowsOfPropSpec)

/-- 'laws.FnExactPropsInOrder', WHERE WHAT IT READS IS OF BULK AT MOST 1048576: true; the input reads as it did. -/
def fnExactPropsInOrderUptoRow : OpenClaim := { program := "ytmmkeihcjpnpjaa", sum := "6495caf7541b1af7056dfb67568366f713b18a2a059db3172c324b827967d796", func := "loop.example/g00927/laws.FnExactPropsInOrder", spec := "fnExactPropsInOrder", apart := false, narrowed := true }
def FnExactPropsInOrderUptoSaid : Prop := fnExactPropsInOrderUptoRow.holds Try.pinned (OpenSpec.upto fnExactPropsInOrderSpec)

end Rows
end Go.Proofs.Ytmmkeihcjpnpjaa
