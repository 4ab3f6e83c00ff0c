/-
  No cell of these rows narrows 'for every input' (looked for: loops, veiled, ifaces, maps, wideKeys, modest, calm, conditions, laid).
  DERIVED. THE GIVEN ROWS OF THIS SEAT. 14 by the template 'for every input the law returns true; each argument reads behind the call as it read before'; 0 by the template 'total and deterministic' (their statements: YtomhhognfpfacaaTotals.lean).
  GIVEN WITH THE SEED: the statements are not yours to turn. If you find one false, say at which input.
  Laid BY PROGRAM, IN A SANDBOX (cutbox-rows.mjs): the forced cells as the released guide's own fill.sh prints them over the translation 628939612f844655… (all of the seat's roots in one cut). By AI agents, Wed Nov 11 2026. No macro, syntax, notation, axiom, sorry.
-/
import Derived.Test.YtomhhognfpfacaaChecked
import GoSem.Claim
import GoSem.ClaimJoined
import GoSem.ClaimMapViews
import Derived.JoinedTies
import Derived.KernelRfl
namespace Go.Proofs.Ytomhhognfpfacaa
/- THE CELL 'sum', in the pinned program and in every row, IS THE sha256 OF THE DUMP (.gsa) THAT YtomhhognfpfacaaProg.lean LOADS. Nothing in Lean hashes anything: it is a label: what it is worth is what the hold of that sum in a sandbox is worth. -/
noncomputable def Try.pinned : Pinned := { name := "ytomhhognfpfacaa", sum := "628939612f84465566a47e65a58d97cc4685db425d73085c14d9625230195640", checked := Try.checked }
namespace Rows
def none {H : Type} : Left H := { results := [], args := [] }

/-- 'laws.FnPatterns': WHATEVER THE INPUT: true; the input reads as it did. -/
def fnPatternsSpec : ChangeSpec := { name := "fnPatterns", fn := fun _ => fun
  | [d1, d2] => { results := [.lit (.bool true)], args := [d1, d2] }
  | _ => none }
def fnPatternsRow : OpenClaim := { program := "ytomhhognfpfacaa", sum := "628939612f84465566a47e65a58d97cc4685db425d73085c14d9625230195640", func := "loop.example/g00927/laws.FnPatterns", spec := "fnPatterns", inPlace := ["internal/abi.NoEscape"], apart := false }
def FnPatternsSaid : Prop := fnPatternsRow.holds Try.pinned (OpenSpec.ofChange fnPatternsSpec)

/-- ITS FALSE NEIGHBOUR: 'it returns false'. Refute it at one input. -/
def fnPatternsWrong : ChangeSpec := { name := "fnPatterns", fn := fun _ => fun
  | [d1, d2] => { results := [.lit (.bool false)], args := [d1, d2] }
  | _ => none }
def FnPatternsWrongFalsely : Prop := fnPatternsRow.holds Try.pinned (OpenSpec.ofChange fnPatternsWrong)

/-- 'laws.FnPassings': WHATEVER THE INPUT: true; the input reads as it did. -/
def fnPassingsSpec : ChangeSpec := { name := "fnPassings", fn := fun _ => fun
  | [d] => { results := [.lit (.bool true)], args := [d] }
  | _ => none }
def fnPassingsRow : OpenClaim := { program := "ytomhhognfpfacaa", sum := "628939612f84465566a47e65a58d97cc4685db425d73085c14d9625230195640", func := "loop.example/g00927/laws.FnPassings", spec := "fnPassings", unfollowed := true, recurses := true, apart := false }
def FnPassingsSaid : Prop := fnPassingsRow.holds Try.pinned (OpenSpec.ofChange fnPassingsSpec)

/-- ITS FALSE NEIGHBOUR: 'it returns false'. Refute it at one input. -/
def fnPassingsWrong : ChangeSpec := { name := "fnPassings", fn := fun _ => fun
  | [d] => { results := [.lit (.bool false)], args := [d] }
  | _ => none }
def FnPassingsWrongFalsely : Prop := fnPassingsRow.holds Try.pinned (OpenSpec.ofChange fnPassingsWrong)

/-- 'laws.FnTogether': WHATEVER THE INPUT: true; the input reads as it did. -/
def fnTogetherSpec : ChangeSpec := { name := "fnTogether", fn := fun _ => fun
  | [d] => { results := [.lit (.bool true)], args := [d] }
  | _ => none }
def fnTogetherRow : OpenClaim := { program := "ytomhhognfpfacaa", sum := "628939612f84465566a47e65a58d97cc4685db425d73085c14d9625230195640", func := "loop.example/g00927/laws.FnTogether", spec := "fnTogether", unfollowed := true, recurses := true, apart := false }
def FnTogetherSaid : Prop := fnTogetherRow.holds Try.pinned (OpenSpec.ofChange fnTogetherSpec)

/-- ITS FALSE NEIGHBOUR: 'it returns false'. Refute it at one input. -/
def fnTogetherWrong : ChangeSpec := { name := "fnTogether", fn := fun _ => fun
  | [d] => { results := [.lit (.bool false)], args := [d] }
  | _ => none }
def FnTogetherWrongFalsely : Prop := fnTogetherRow.holds Try.pinned (OpenSpec.ofChange fnTogetherWrong)

/-- 'laws.FnExactReadPattern': WHATEVER THE INPUT: true; the input reads as it did. -/
def fnExactReadPatternSpec : ChangeSpec := { name := "fnExactReadPattern", fn := fun _ => fun
  | [d] => { results := [.lit (.bool true)], args := [d] }
  | _ => none }
def fnExactReadPatternRow : OpenClaim := { program := "ytomhhognfpfacaa", sum := "628939612f84465566a47e65a58d97cc4685db425d73085c14d9625230195640", func := "loop.example/g00927/laws.FnExactReadPattern", spec := "fnExactReadPattern", apart := false }
def FnExactReadPatternSaid : Prop := fnExactReadPatternRow.holds Try.pinned (OpenSpec.ofChange fnExactReadPatternSpec)

/-- ITS FALSE NEIGHBOUR: 'it returns false'. Refute it at one input. -/
def fnExactReadPatternWrong : ChangeSpec := { name := "fnExactReadPattern", fn := fun _ => fun
  | [d] => { results := [.lit (.bool false)], args := [d] }
  | _ => none }
def FnExactReadPatternWrongFalsely : Prop := fnExactReadPatternRow.holds Try.pinned (OpenSpec.ofChange fnExactReadPatternWrong)

/-- 'laws.FnExactValidPassing': WHATEVER THE INPUT: true; the input reads as it did. -/
def fnExactValidPassingSpec : ChangeSpec := { name := "fnExactValidPassing", fn := fun _ => fun
  | [d] => { results := [.lit (.bool true)], args := [d] }
  | _ => none }
def fnExactValidPassingRow : OpenClaim := { program := "ytomhhognfpfacaa", sum := "628939612f84465566a47e65a58d97cc4685db425d73085c14d9625230195640", func := "loop.example/g00927/laws.FnExactValidPassing", spec := "fnExactValidPassing", unfollowed := true, recurses := true, apart := false }
def FnExactValidPassingSaid : Prop := fnExactValidPassingRow.holds Try.pinned (OpenSpec.ofChange fnExactValidPassingSpec)

/-- ITS FALSE NEIGHBOUR: 'it returns false'. Refute it at one input. -/
def fnExactValidPassingWrong : ChangeSpec := { name := "fnExactValidPassing", fn := fun _ => fun
  | [d] => { results := [.lit (.bool false)], args := [d] }
  | _ => none }
def FnExactValidPassingWrongFalsely : Prop := fnExactValidPassingRow.holds Try.pinned (OpenSpec.ofChange fnExactValidPassingWrong)

/-- 'laws.FnExactSamePassing': WHATEVER THE INPUT: true; the input reads as it did. -/
def fnExactSamePassingSpec : ChangeSpec := { name := "fnExactSamePassing", fn := fun _ => fun
  | [d1, d2] => { results := [.lit (.bool true)], args := [d1, d2] }
  | _ => none }
def fnExactSamePassingRow : OpenClaim := { program := "ytomhhognfpfacaa", sum := "628939612f84465566a47e65a58d97cc4685db425d73085c14d9625230195640", func := "loop.example/g00927/laws.FnExactSamePassing", spec := "fnExactSamePassing", apart := false }
def FnExactSamePassingSaid : Prop := fnExactSamePassingRow.holds Try.pinned (OpenSpec.ofChange fnExactSamePassingSpec)

/-- ITS FALSE NEIGHBOUR: 'it returns false'. Refute it at one input. -/
def fnExactSamePassingWrong : ChangeSpec := { name := "fnExactSamePassing", fn := fun _ => fun
  | [d1, d2] => { results := [.lit (.bool false)], args := [d1, d2] }
  | _ => none }
def FnExactSamePassingWrongFalsely : Prop := fnExactSamePassingRow.holds Try.pinned (OpenSpec.ofChange fnExactSamePassingWrong)

/-- 'laws.FnExactPassingProps': WHATEVER THE INPUT: true; the input reads as it did. -/
def fnExactPassingPropsSpec : ChangeSpec := { name := "fnExactPassingProps", fn := fun _ => fun
  | [d] => { results := [.lit (.bool true)], args := [d] }
  | _ => none }
def fnExactPassingPropsRow : OpenClaim := { program := "ytomhhognfpfacaa", sum := "628939612f84465566a47e65a58d97cc4685db425d73085c14d9625230195640", func := "loop.example/g00927/laws.FnExactPassingProps", spec := "fnExactPassingProps", unfollowed := true, recurses := true, apart := false }
def FnExactPassingPropsSaid : Prop := fnExactPassingPropsRow.holds Try.pinned (OpenSpec.ofChange fnExactPassingPropsSpec)

/-- ITS FALSE NEIGHBOUR: 'it returns false'. Refute it at one input. -/
def fnExactPassingPropsWrong : ChangeSpec := { name := "fnExactPassingProps", fn := fun _ => fun
  | [d] => { results := [.lit (.bool false)], args := [d] }
  | _ => none }
def FnExactPassingPropsWrongFalsely : Prop := fnExactPassingPropsRow.holds Try.pinned (OpenSpec.ofChange fnExactPassingPropsWrong)

/-- 'laws.FnExactPassesOf': WHATEVER THE INPUT: true; the input reads as it did. -/
def fnExactPassesOfSpec : ChangeSpec := { name := "fnExactPassesOf", fn := fun _ => fun
  | [d] => { results := [.lit (.bool true)], args := [d] }
  | _ => none }
def fnExactPassesOfRow : OpenClaim := { program := "ytomhhognfpfacaa", sum := "628939612f84465566a47e65a58d97cc4685db425d73085c14d9625230195640", func := "loop.example/g00927/laws.FnExactPassesOf", spec := "fnExactPassesOf", unfollowed := true, recurses := true, apart := false }
def FnExactPassesOfSaid : Prop := fnExactPassesOfRow.holds Try.pinned (OpenSpec.ofChange fnExactPassesOfSpec)

/-- ITS FALSE NEIGHBOUR: 'it returns false'. Refute it at one input. -/
def fnExactPassesOfWrong : ChangeSpec := { name := "fnExactPassesOf", fn := fun _ => fun
  | [d] => { results := [.lit (.bool false)], args := [d] }
  | _ => none }
def FnExactPassesOfWrongFalsely : Prop := fnExactPassesOfRow.holds Try.pinned (OpenSpec.ofChange fnExactPassesOfWrong)

/-- 'laws.FnExactTogetherOf': WHATEVER THE INPUT: true; the input reads as it did. -/
def fnExactTogetherOfSpec : ChangeSpec := { name := "fnExactTogetherOf", fn := fun _ => fun
  | [d1, d2] => { results := [.lit (.bool true)], args := [d1, d2] }
  | _ => none }
def fnExactTogetherOfRow : OpenClaim := { program := "ytomhhognfpfacaa", sum := "628939612f84465566a47e65a58d97cc4685db425d73085c14d9625230195640", func := "loop.example/g00927/laws.FnExactTogetherOf", spec := "fnExactTogetherOf", apart := false }
def FnExactTogetherOfSaid : Prop := fnExactTogetherOfRow.holds Try.pinned (OpenSpec.ofChange fnExactTogetherOfSpec)

/-- ITS FALSE NEIGHBOUR: 'it returns false'. Refute it at one input. -/
def fnExactTogetherOfWrong : ChangeSpec := { name := "fnExactTogetherOf", fn := fun _ => fun
  | [d1, d2] => { results := [.lit (.bool false)], args := [d1, d2] }
  | _ => none }
def FnExactTogetherOfWrongFalsely : Prop := fnExactTogetherOfRow.holds Try.pinned (OpenSpec.ofChange fnExactTogetherOfWrong)

/-- 'laws.FnExactApartOf': WHATEVER THE INPUT: true; the input reads as it did. -/
def fnExactApartOfSpec : ChangeSpec := { name := "fnExactApartOf", fn := fun _ => fun
  | [d] => { results := [.lit (.bool true)], args := [d] }
  | _ => none }
def fnExactApartOfRow : OpenClaim := { program := "ytomhhognfpfacaa", sum := "628939612f84465566a47e65a58d97cc4685db425d73085c14d9625230195640", func := "loop.example/g00927/laws.FnExactApartOf", spec := "fnExactApartOf", unfollowed := true, recurses := true, apart := false }
def FnExactApartOfSaid : Prop := fnExactApartOfRow.holds Try.pinned (OpenSpec.ofChange fnExactApartOfSpec)

/-- ITS FALSE NEIGHBOUR: 'it returns false'. Refute it at one input. -/
def fnExactApartOfWrong : ChangeSpec := { name := "fnExactApartOf", fn := fun _ => fun
  | [d] => { results := [.lit (.bool false)], args := [d] }
  | _ => none }
def FnExactApartOfWrongFalsely : Prop := fnExactApartOfRow.holds Try.pinned (OpenSpec.ofChange fnExactApartOfWrong)

/-- 'laws.FnExactExchangePasses': WHATEVER THE INPUT: true; the input reads as it did. -/
def fnExactExchangePassesSpec : ChangeSpec := { name := "fnExactExchangePasses", fn := fun _ => fun
  | [d1, d2] => { results := [.lit (.bool true)], args := [d1, d2] }
  | _ => none }
def fnExactExchangePassesRow : OpenClaim := { program := "ytomhhognfpfacaa", sum := "628939612f84465566a47e65a58d97cc4685db425d73085c14d9625230195640", func := "loop.example/g00927/laws.FnExactExchangePasses", spec := "fnExactExchangePasses", unfollowed := true, recurses := true, apart := false }
def FnExactExchangePassesSaid : Prop := fnExactExchangePassesRow.holds Try.pinned (OpenSpec.ofChange fnExactExchangePassesSpec)

/-- ITS FALSE NEIGHBOUR: 'it returns false'. Refute it at one input. -/
def fnExactExchangePassesWrong : ChangeSpec := { name := "fnExactExchangePasses", fn := fun _ => fun
  | [d1, d2] => { results := [.lit (.bool false)], args := [d1, d2] }
  | _ => none }
def FnExactExchangePassesWrongFalsely : Prop := fnExactExchangePassesRow.holds Try.pinned (OpenSpec.ofChange fnExactExchangePassesWrong)

/-- 'laws.FnExactSwapJugglers': WHATEVER THE INPUT: true; the input reads as it did. -/
def fnExactSwapJugglersSpec : ChangeSpec := { name := "fnExactSwapJugglers", fn := fun _ => fun
  | [d] => { results := [.lit (.bool true)], args := [d] }
  | _ => none }
def fnExactSwapJugglersRow : OpenClaim := { program := "ytomhhognfpfacaa", sum := "628939612f84465566a47e65a58d97cc4685db425d73085c14d9625230195640", func := "loop.example/g00927/laws.FnExactSwapJugglers", spec := "fnExactSwapJugglers", unfollowed := true, recurses := true, apart := false }
def FnExactSwapJugglersSaid : Prop := fnExactSwapJugglersRow.holds Try.pinned (OpenSpec.ofChange fnExactSwapJugglersSpec)

/-- ITS FALSE NEIGHBOUR: 'it returns false'. Refute it at one input. -/
def fnExactSwapJugglersWrong : ChangeSpec := { name := "fnExactSwapJugglers", fn := fun _ => fun
  | [d] => { results := [.lit (.bool false)], args := [d] }
  | _ => none }
def FnExactSwapJugglersWrongFalsely : Prop := fnExactSwapJugglersRow.holds Try.pinned (OpenSpec.ofChange fnExactSwapJugglersWrong)

/-- 'laws.FnExactRotatePassing': WHATEVER THE INPUT: true; the input reads as it did. -/
def fnExactRotatePassingSpec : ChangeSpec := { name := "fnExactRotatePassing", fn := fun _ => fun
  | [d1, d2] => { results := [.lit (.bool true)], args := [d1, d2] }
  | _ => none }
def fnExactRotatePassingRow : OpenClaim := { program := "ytomhhognfpfacaa", sum := "628939612f84465566a47e65a58d97cc4685db425d73085c14d9625230195640", func := "loop.example/g00927/laws.FnExactRotatePassing", spec := "fnExactRotatePassing", unfollowed := true, recurses := true, apart := false }
def FnExactRotatePassingSaid : Prop := fnExactRotatePassingRow.holds Try.pinned (OpenSpec.ofChange fnExactRotatePassingSpec)

/-- ITS FALSE NEIGHBOUR: 'it returns false'. Refute it at one input. -/
def fnExactRotatePassingWrong : ChangeSpec := { name := "fnExactRotatePassing", fn := fun _ => fun
  | [d1, d2] => { results := [.lit (.bool false)], args := [d1, d2] }
  | _ => none }
def FnExactRotatePassingWrongFalsely : Prop := fnExactRotatePassingRow.holds Try.pinned (OpenSpec.ofChange fnExactRotatePassingWrong)

/-- 'laws.FnExactPassingText': WHATEVER THE INPUT: true; the input reads as it did. -/
def fnExactPassingTextSpec : ChangeSpec := { name := "fnExactPassingText", fn := fun _ => fun
  | [d] => { results := [.lit (.bool true)], args := [d] }
  | _ => none }
def fnExactPassingTextRow : OpenClaim := { program := "ytomhhognfpfacaa", sum := "628939612f84465566a47e65a58d97cc4685db425d73085c14d9625230195640", func := "loop.example/g00927/laws.FnExactPassingText", spec := "fnExactPassingText", inPlace := ["internal/abi.NoEscape", "internal/bytealg.MakeNoZero"], unfollowed := true, recurses := true, apart := false }
def FnExactPassingTextSaid : Prop := fnExactPassingTextRow.holds Try.pinned (OpenSpec.ofChange fnExactPassingTextSpec)

/-- ITS FALSE NEIGHBOUR: 'it returns false'. Refute it at one input. -/
def fnExactPassingTextWrong : ChangeSpec := { name := "fnExactPassingText", fn := fun _ => fun
  | [d] => { results := [.lit (.bool false)], args := [d] }
  | _ => none }
def FnExactPassingTextWrongFalsely : Prop := fnExactPassingTextRow.holds Try.pinned (OpenSpec.ofChange fnExactPassingTextWrong)

/- THE SECOND FORM. 'bulk': how many values and letters a reading holds, each counted each time it is reached (what is shared counts as often as it is met; a slice's spare places count too). A statement '..UptoSaid' is the law's where the arguments, and the package variables that the reading takes, are together of bulk at most 1048576: NARROWER than '..Said'. Prove '..Said' where nothing that the law and all that it calls make is longer than what came in: it says more and counts as full. Else prove '..UptoSaid'. A law counts once. -/
mutual
def uptoBulk {H : Type} : DataW H → Nat
  | .lit (.string bytes) => bytes.length + 1
  | .lit _ => 1
  | .nil => 1
  | .ptr d => uptoBulk d + 1
  | .slice elems spare => uptoBulkAll elems + uptoBulkAll spare + 1
  | .agg parts => uptoBulkAll parts + 1
  | .iface _ d => uptoBulk d + 1
  | .map entries => uptoBulkEntries entries + 1
  | .held _ => 1
def uptoBulkAll {H : Type} : List (DataW H) → Nat
  | [] => 0
  | d :: r => uptoBulk d + uptoBulkAll r
def uptoBulkEntries {H : Type} : List (Lit × DataW H) → Nat
  | [] => 0
  | x :: r => uptoBulkEntry x + uptoBulkEntries r
def uptoBulkEntry {H : Type} : Lit × DataW H → Nat
  | (.string bytes, d) => bytes.length + uptoBulk d + 1
  | (_, d) => uptoBulk d + 1
 end
def uptoSmall : (H : Type) → List (DataW H) → Bool := fun _ ds => decide (uptoBulkAll ds ≤ 1048576)
def OpenSpec.upto (s : _root_.Go.ChangeSpec) : _root_.Go.OpenSpec := { _root_.Go.OpenSpec.ofChange s with cond := some uptoSmall }

/-- 'laws.FnPatterns', WHERE WHAT IT READS IS OF BULK AT MOST 1048576: true; the input reads as it did. -/
def fnPatternsUptoRow : OpenClaim := { program := "ytomhhognfpfacaa", sum := "628939612f84465566a47e65a58d97cc4685db425d73085c14d9625230195640", func := "loop.example/g00927/laws.FnPatterns", spec := "fnPatterns", inPlace := ["internal/abi.NoEscape"], apart := false, narrowed := true }
def FnPatternsUptoSaid : Prop := fnPatternsUptoRow.holds Try.pinned (OpenSpec.upto fnPatternsSpec)

/-- 'laws.FnPassings', WHERE WHAT IT READS IS OF BULK AT MOST 1048576: true; the input reads as it did. -/
def fnPassingsUptoRow : OpenClaim := { program := "ytomhhognfpfacaa", sum := "628939612f84465566a47e65a58d97cc4685db425d73085c14d9625230195640", func := "loop.example/g00927/laws.FnPassings", spec := "fnPassings", unfollowed := true, recurses := true, apart := false, narrowed := true }
def FnPassingsUptoSaid : Prop := fnPassingsUptoRow.holds Try.pinned (OpenSpec.upto fnPassingsSpec)

/-- 'laws.FnTogether', WHERE WHAT IT READS IS OF BULK AT MOST 1048576: true; the input reads as it did. -/
def fnTogetherUptoRow : OpenClaim := { program := "ytomhhognfpfacaa", sum := "628939612f84465566a47e65a58d97cc4685db425d73085c14d9625230195640", func := "loop.example/g00927/laws.FnTogether", spec := "fnTogether", unfollowed := true, recurses := true, apart := false, narrowed := true }
def FnTogetherUptoSaid : Prop := fnTogetherUptoRow.holds Try.pinned (OpenSpec.upto fnTogetherSpec)

/-- 'laws.FnExactReadPattern', WHERE WHAT IT READS IS OF BULK AT MOST 1048576: true; the input reads as it did. -/
def fnExactReadPatternUptoRow : OpenClaim := { program := "ytomhhognfpfacaa", sum := "628939612f84465566a47e65a58d97cc4685db425d73085c14d9625230195640", func := "loop.example/g00927/laws.FnExactReadPattern", spec := "fnExactReadPattern", apart := false, narrowed := true }
def FnExactReadPatternUptoSaid : Prop := fnExactReadPatternUptoRow.holds Try.pinned (OpenSpec.upto fnExactReadPatternSpec)

/-- 'laws.FnExactValidPassing', WHERE WHAT IT READS IS OF BULK AT MOST 1048576: true; the input reads as it did. -/
def fnExactValidPassingUptoRow : OpenClaim := { program := "ytomhhognfpfacaa", sum := "628939612f84465566a47e65a58d97cc4685db425d73085c14d9625230195640", func := "loop.example/g00927/laws.FnExactValidPassing", spec := "fnExactValidPassing", unfollowed := true, recurses := true, apart := false, narrowed := true }
def FnExactValidPassingUptoSaid : Prop := fnExactValidPassingUptoRow.holds Try.pinned (OpenSpec.upto fnExactValidPassingSpec)

/-- 'laws.FnExactSamePassing', WHERE WHAT IT READS IS OF BULK AT MOST 1048576: true; the input reads as it did. -/
def fnExactSamePassingUptoRow : OpenClaim := { program := "ytomhhognfpfacaa", sum := "628939612f84465566a47e65a58d97cc4685db425d73085c14d9625230195640", func := "loop.example/g00927/laws.FnExactSamePassing", spec := "fnExactSamePassing", apart := false, narrowed := true }
def FnExactSamePassingUptoSaid : Prop := fnExactSamePassingUptoRow.holds Try.pinned (OpenSpec.upto fnExactSamePassingSpec)

/-- 'laws.FnExactPassingProps', WHERE WHAT IT READS IS OF BULK AT MOST 1048576: true; the input reads as it did. -/
def fnExactPassingPropsUptoRow : OpenClaim := { program := "ytomhhognfpfacaa", sum := "628939612f84465566a47e65a58d97cc4685db425d73085c14d9625230195640", func := "loop.example/g00927/laws.FnExactPassingProps", spec := "fnExactPassingProps", unfollowed := true, recurses := true, apart := false, narrowed := true }
def FnExactPassingPropsUptoSaid : Prop := fnExactPassingPropsUptoRow.holds Try.pinned (OpenSpec.upto fnExactPassingPropsSpec)

/-- 'laws.FnExactPassesOf', WHERE WHAT IT READS IS OF BULK AT MOST 1048576: true; the input reads as it did. -/
def fnExactPassesOfUptoRow : OpenClaim := { program := "ytomhhognfpfacaa", sum := "628939612f84465566a47e65a58d97cc4685db425d73085c14d9625230195640", func := "loop.example/g00927/laws.FnExactPassesOf", spec := "fnExactPassesOf", unfollowed := true, recurses := true, apart := false, narrowed := true }
def FnExactPassesOfUptoSaid : Prop := fnExactPassesOfUptoRow.holds Try.pinned (OpenSpec.upto fnExactPassesOfSpec)

/-- 'laws.FnExactTogetherOf', WHERE WHAT IT READS IS OF BULK AT MOST 1048576: true; the input reads as it did. -/
def fnExactTogetherOfUptoRow : OpenClaim := { program := "ytomhhognfpfacaa", sum := "628939612f84465566a47e65a58d97cc4685db425d73085c14d9625230195640", func := "loop.example/g00927/laws.FnExactTogetherOf", spec := "fnExactTogetherOf", apart := false, narrowed := true }
def FnExactTogetherOfUptoSaid : Prop := fnExactTogetherOfUptoRow.holds Try.pinned (OpenSpec.upto fnExactTogetherOfSpec)

/-- 'laws.FnExactApartOf', WHERE WHAT IT READS IS OF BULK AT MOST 1048576: true; the input reads as it did. -/
def fnExactApartOfUptoRow : OpenClaim := { program := "ytomhhognfpfacaa", sum := "628939612f84465566a47e65a58d97cc4685db425d73085c14d9625230195640", func := "loop.example/g00927/laws.FnExactApartOf", spec := "fnExactApartOf", unfollowed := true, recurses := true, apart := false, narrowed := true }
def FnExactApartOfUptoSaid : Prop := fnExactApartOfUptoRow.holds Try.pinned (OpenSpec.upto fnExactApartOfSpec)

/-- 'laws.FnExactExchangePasses', WHERE WHAT IT READS IS OF BULK AT MOST 1048576: true; the input reads as it did. -/
def fnExactExchangePassesUptoRow : OpenClaim := { program := "ytomhhognfpfacaa", sum := "628939612f84465566a47e65a58d97cc4685db425d73085c14d9625230195640", func := "loop.example/g00927/laws.FnExactExchangePasses", spec := "fnExactExchangePasses", unfollowed := true, recurses := true, apart := false, narrowed := true }
def FnExactExchangePassesUptoSaid : Prop := fnExactExchangePassesUptoRow.holds Try.pinned (OpenSpec.upto fnExactExchangePassesSpec)

/-- 'laws.FnExactSwapJugglers', WHERE WHAT IT READS IS OF BULK AT MOST 1048576: true; the input reads as it did. -/
def fnExactSwapJugglersUptoRow : OpenClaim := { program := "ytomhhognfpfacaa", sum := "628939612f84465566a47e65a58d97cc4685db425d73085c14d9625230195640", func := "loop.example/g00927/laws.FnExactSwapJugglers", spec := "fnExactSwapJugglers", unfollowed := true, recurses := true, apart := false, narrowed := true }
def FnExactSwapJugglersUptoSaid : Prop := fnExactSwapJugglersUptoRow.holds Try.pinned (OpenSpec.upto fnExactSwapJugglersSpec)

/-- 'laws.FnExactRotatePassing', WHERE WHAT IT READS IS OF BULK AT MOST 1048576: true; the input reads as it did. -/
def fnExactRotatePassingUptoRow : OpenClaim := { program := "ytomhhognfpfacaa", sum := "628939612f84465566a47e65a58d97cc4685db425d73085c14d9625230195640", func := "loop.example/g00927/laws.FnExactRotatePassing", spec := "fnExactRotatePassing", unfollowed := true, recurses := true, apart := false, narrowed := true }
def FnExactRotatePassingUptoSaid : Prop := fnExactRotatePassingUptoRow.holds Try.pinned (OpenSpec.upto fnExactRotatePassingSpec)

/-- 'laws.FnExactPassingText', WHERE WHAT IT READS IS OF BULK AT MOST 1048576: true; the input reads as it did. -/
def fnExactPassingTextUptoRow : OpenClaim := { program := "ytomhhognfpfacaa", sum := "628939612f84465566a47e65a58d97cc4685db425d73085c14d9625230195640", func := "loop.example/g00927/laws.FnExactPassingText", spec := "fnExactPassingText", inPlace := ["internal/abi.NoEscape", "internal/bytealg.MakeNoZero"], unfollowed := true, recurses := true, apart := false, narrowed := true }
def FnExactPassingTextUptoSaid : Prop := fnExactPassingTextUptoRow.holds Try.pinned (OpenSpec.upto fnExactPassingTextSpec)

end Rows
end Go.Proofs.Ytomhhognfpfacaa
