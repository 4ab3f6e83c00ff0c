/-
  No cell of these rows narrows 'for every input' (looked for: loops, veiled, ifaces, maps, wideKeys, modest, calm, conditions, laid).
  DERIVED. THE GIVEN ROWS OF THIS SEAT. 5 by the template 'for every input the law returns true; each argument reads behind the call as it read before'; 0 by the template 'total and deterministic' (their statements: YtjndiaefcmjbmaaTotals.lean).
  GIVEN WITH THE SEED: the statements are not yours to turn. If you find one false, say at which input.
  Laid BY PROGRAM, IN A SANDBOX (cutbox-rows.mjs): the forced cells as the released guide's own fill.sh prints them over the translation adada8f252da7324… (all of the seat's roots in one cut). By AI agents, Wed Nov 11 2026. No macro, syntax, notation, axiom, sorry.
-/
import Derived.Test.YtjndiaefcmjbmaaChecked
import GoSem.Claim
import GoSem.ClaimJoined
import GoSem.ClaimMapViews
import Derived.JoinedTies
import Derived.KernelRfl
namespace Go.Proofs.Ytjndiaefcmjbmaa
/- THE CELL 'sum', in the pinned program and in every row, IS THE sha256 OF THE DUMP (.gsa) THAT YtjndiaefcmjbmaaProg.lean LOADS. Nothing in Lean hashes anything: it is a label: what it is worth is what the hold of that sum in a sandbox is worth. -/
noncomputable def Try.pinned : Pinned := { name := "ytjndiaefcmjbmaa", sum := "adada8f252da73249eb2def52c15518ba89eb874a7e00689a988ae2824f57327", checked := Try.checked }
namespace Rows
def none {H : Type} : Left H := { results := [], args := [] }

/-- 'laws.FnExactPropsIn': WHATEVER THE INPUT: true; the input reads as it did. -/
def fnExactPropsInSpec : ChangeSpec := { name := "fnExactPropsIn", fn := fun _ => fun
  | [d] => { results := [.lit (.bool true)], args := [d] }
  | _ => none }
def fnExactPropsInRow : OpenClaim := { program := "ytjndiaefcmjbmaa", sum := "adada8f252da73249eb2def52c15518ba89eb874a7e00689a988ae2824f57327", func := "loop.example/g00927/laws.FnExactPropsIn", spec := "fnExactPropsIn", apart := false }
def FnExactPropsInSaid : Prop := fnExactPropsInRow.holds Try.pinned (OpenSpec.ofChange fnExactPropsInSpec)

/-- ITS FALSE NEIGHBOUR: 'it returns false'. Refute it at one input. -/
def fnExactPropsInWrong : ChangeSpec := { name := "fnExactPropsIn", fn := fun _ => fun
  | [d] => { results := [.lit (.bool false)], args := [d] }
  | _ => none }
def FnExactPropsInWrongFalsely : Prop := fnExactPropsInRow.holds Try.pinned (OpenSpec.ofChange fnExactPropsInWrong)

/-- 'laws.FnExactStateCount': WHATEVER THE INPUT: true; the input reads as it did. -/
def fnExactStateCountSpec : ChangeSpec := { name := "fnExactStateCount", fn := fun _ => fun
  | [d1, d2] => { results := [.lit (.bool true)], args := [d1, d2] }
  | _ => none }
def fnExactStateCountRow : OpenClaim := { program := "ytjndiaefcmjbmaa", sum := "adada8f252da73249eb2def52c15518ba89eb874a7e00689a988ae2824f57327", func := "loop.example/g00927/laws.FnExactStateCount", spec := "fnExactStateCount", apart := false }
def FnExactStateCountSaid : Prop := fnExactStateCountRow.holds Try.pinned (OpenSpec.ofChange fnExactStateCountSpec)

/-- ITS FALSE NEIGHBOUR: 'it returns false'. Refute it at one input. -/
def fnExactStateCountWrong : ChangeSpec := { name := "fnExactStateCount", fn := fun _ => fun
  | [d1, d2] => { results := [.lit (.bool false)], args := [d1, d2] }
  | _ => none }
def FnExactStateCountWrongFalsely : Prop := fnExactStateCountRow.holds Try.pinned (OpenSpec.ofChange fnExactStateCountWrong)

/-- 'laws.FnExactAllStates': WHATEVER THE INPUT: true; the input reads as it did. -/
def fnExactAllStatesSpec : ChangeSpec := { name := "fnExactAllStates", fn := fun _ => fun
  | [d1, d2] => { results := [.lit (.bool true)], args := [d1, d2] }
  | _ => none }
def fnExactAllStatesRow : OpenClaim := { program := "ytjndiaefcmjbmaa", sum := "adada8f252da73249eb2def52c15518ba89eb874a7e00689a988ae2824f57327", func := "loop.example/g00927/laws.FnExactAllStates", spec := "fnExactAllStates", apart := false }
def FnExactAllStatesSaid : Prop := fnExactAllStatesRow.holds Try.pinned (OpenSpec.ofChange fnExactAllStatesSpec)

/-- ITS FALSE NEIGHBOUR: 'it returns false'. Refute it at one input. -/
def fnExactAllStatesWrong : ChangeSpec := { name := "fnExactAllStates", fn := fun _ => fun
  | [d1, d2] => { results := [.lit (.bool false)], args := [d1, d2] }
  | _ => none }
def FnExactAllStatesWrongFalsely : Prop := fnExactAllStatesRow.holds Try.pinned (OpenSpec.ofChange fnExactAllStatesWrong)

/-- 'laws.FnExactStateIndex': WHATEVER THE INPUT: true; the input reads as it did. -/
def fnExactStateIndexSpec : ChangeSpec := { name := "fnExactStateIndex", fn := fun _ => fun
  | [d] => { results := [.lit (.bool true)], args := [d] }
  | _ => none }
def fnExactStateIndexRow : OpenClaim := { program := "ytjndiaefcmjbmaa", sum := "adada8f252da73249eb2def52c15518ba89eb874a7e00689a988ae2824f57327", func := "loop.example/g00927/laws.FnExactStateIndex", spec := "fnExactStateIndex", apart := false }
def FnExactStateIndexSaid : Prop := fnExactStateIndexRow.holds Try.pinned (OpenSpec.ofChange fnExactStateIndexSpec)

/-- ITS FALSE NEIGHBOUR: 'it returns false'. Refute it at one input. -/
def fnExactStateIndexWrong : ChangeSpec := { name := "fnExactStateIndex", fn := fun _ => fun
  | [d] => { results := [.lit (.bool false)], args := [d] }
  | _ => none }
def FnExactStateIndexWrongFalsely : Prop := fnExactStateIndexRow.holds Try.pinned (OpenSpec.ofChange fnExactStateIndexWrong)

/-- 'laws.FnExactStateAt': WHATEVER THE INPUT: true; the input reads as it did. -/
def fnExactStateAtSpec : ChangeSpec := { name := "fnExactStateAt", fn := fun _ => fun
  | [d1, d2, d3] => { results := [.lit (.bool true)], args := [d1, d2, d3] }
  | _ => none }
def fnExactStateAtRow : OpenClaim := { program := "ytjndiaefcmjbmaa", sum := "adada8f252da73249eb2def52c15518ba89eb874a7e00689a988ae2824f57327", func := "loop.example/g00927/laws.FnExactStateAt", spec := "fnExactStateAt", apart := false }
def FnExactStateAtSaid : Prop := fnExactStateAtRow.holds Try.pinned (OpenSpec.ofChange fnExactStateAtSpec)

/-- ITS FALSE NEIGHBOUR: 'it returns false'. Refute it at one input. -/
def fnExactStateAtWrong : ChangeSpec := { name := "fnExactStateAt", fn := fun _ => fun
  | [d1, d2, d3] => { results := [.lit (.bool false)], args := [d1, d2, d3] }
  | _ => none }
def FnExactStateAtWrongFalsely : Prop := fnExactStateAtRow.holds Try.pinned (OpenSpec.ofChange fnExactStateAtWrong)

/- THE SECOND FORM. 'bulk': how many values and letters a reading holds, each counted each time it is reached (what is shared counts as often as it is met; a slice's spare places count too). A statement '..UptoSaid' is the law's where the arguments, and the package variables that the reading takes, are together of bulk at most 1048576: NARROWER than '..Said'. Prove '..Said' where nothing that the law and all that it calls make is longer than what came in: it says more and counts as full. Else prove '..UptoSaid'. A law counts once. -/
mutual
def uptoBulk {H : Type} : DataW H → Nat
  | .lit (.string bytes) => bytes.length + 1
  | .lit _ => 1
  | .nil => 1
  | .ptr d => uptoBulk d + 1
  | .slice elems spare => uptoBulkAll elems + uptoBulkAll spare + 1
  | .agg parts => uptoBulkAll parts + 1
  | .iface _ d => uptoBulk d + 1
  | .map entries => uptoBulkEntries entries + 1
  | .held _ => 1
def uptoBulkAll {H : Type} : List (DataW H) → Nat
  | [] => 0
  | d :: r => uptoBulk d + uptoBulkAll r
def uptoBulkEntries {H : Type} : List (Lit × DataW H) → Nat
  | [] => 0
  | x :: r => uptoBulkEntry x + uptoBulkEntries r
def uptoBulkEntry {H : Type} : Lit × DataW H → Nat
  | (.string bytes, d) => bytes.length + uptoBulk d + 1
  | (_, d) => uptoBulk d + 1
 end
def uptoSmall : (H : Type) → List (DataW H) → Bool := fun _ ds => decide (uptoBulkAll ds ≤ 1048576)
def OpenSpec.upto (s : _root_.Go.ChangeSpec) : _root_.Go.OpenSpec := { _root_.Go.OpenSpec.ofChange s with cond := some uptoSmall }

/-- 'laws.FnExactPropsIn', WHERE WHAT IT READS IS OF BULK AT MOST 1048576: true; the input reads as it did. -/
def fnExactPropsInUptoRow : OpenClaim := { program := "ytjndiaefcmjbmaa", sum := "adada8f252da73249eb2def52c15518ba89eb874a7e00689a988ae2824f57327", func := "loop.example/g00927/laws.FnExactPropsIn", spec := "fnExactPropsIn", apart := false, narrowed := true }
def FnExactPropsInUptoSaid : Prop := fnExactPropsInUptoRow.holds Try.pinned (OpenSpec.upto fnExactPropsInSpec)

/-- 'laws.FnExactStateCount', WHERE WHAT IT READS IS OF BULK AT MOST 1048576: true; the input reads as it did. -/
def fnExactStateCountUptoRow : OpenClaim := { program := "ytjndiaefcmjbmaa", sum := "adada8f252da73249eb2def52c15518ba89eb874a7e00689a988ae2824f57327", func := "loop.example/g00927/laws.FnExactStateCount", spec := "fnExactStateCount", apart := false, narrowed := true }
def FnExactStateCountUptoSaid : Prop := fnExactStateCountUptoRow.holds Try.pinned (OpenSpec.upto fnExactStateCountSpec)

/-- 'laws.FnExactAllStates', WHERE WHAT IT READS IS OF BULK AT MOST 1048576: true; the input reads as it did. -/
def fnExactAllStatesUptoRow : OpenClaim := { program := "ytjndiaefcmjbmaa", sum := "adada8f252da73249eb2def52c15518ba89eb874a7e00689a988ae2824f57327", func := "loop.example/g00927/laws.FnExactAllStates", spec := "fnExactAllStates", apart := false, narrowed := true }
def FnExactAllStatesUptoSaid : Prop := fnExactAllStatesUptoRow.holds Try.pinned (OpenSpec.upto fnExactAllStatesSpec)

/-- 'laws.FnExactStateIndex', WHERE WHAT IT READS IS OF BULK AT MOST 1048576: true; the input reads as it did. -/
def fnExactStateIndexUptoRow : OpenClaim := { program := "ytjndiaefcmjbmaa", sum := "adada8f252da73249eb2def52c15518ba89eb874a7e00689a988ae2824f57327", func := "loop.example/g00927/laws.FnExactStateIndex", spec := "fnExactStateIndex", apart := false, narrowed := true }
def FnExactStateIndexUptoSaid : Prop := fnExactStateIndexUptoRow.holds Try.pinned (OpenSpec.upto fnExactStateIndexSpec)

/-- 'laws.FnExactStateAt', WHERE WHAT IT READS IS OF BULK AT MOST 1048576: true; the input reads as it did. -/
def fnExactStateAtUptoRow : OpenClaim := { program := "ytjndiaefcmjbmaa", sum := "adada8f252da73249eb2def52c15518ba89eb874a7e00689a988ae2824f57327", func := "loop.example/g00927/laws.FnExactStateAt", spec := "fnExactStateAt", apart := false, narrowed := true }
def FnExactStateAtUptoSaid : Prop := fnExactStateAtUptoRow.holds Try.pinned (OpenSpec.upto fnExactStateAtSpec)

end Rows
end Go.Proofs.Ytjndiaefcmjbmaa
