/-
  NARROWER THAN 'FOR EVERY INPUT', by the rows' own cells (each row's printed sentence says how): FnBestBridges: laid · FnExactCountPrimes: ifaces, laid · FnExactLongestPrime: ifaces, laid.
  DERIVED. THE GIVEN ROWS OF THIS SEAT. 3 by the template 'for every input the law returns true; each argument reads behind the call as it read before'; 0 by the template 'total and deterministic' (their statements: YtdghbbnddgngoaaDoorTotals.lean).
  GIVEN WITH THE SEED: the statements are not yours to turn. If you find one false, say at which input.
  Laid BY PROGRAM, IN A SANDBOX (cutbox-rows.mjs): the forced cells as the released guide's own fill.sh prints them over the translation b09208663d63d3ed… (all of the seat's roots in one cut). By AI agents, Wed Nov 11 2026. No macro, syntax, notation, axiom, sorry.
-/
import Derived.Test.YtdghbbnddgngoaaDoorChecked
import GoSem.Claim
import GoSem.ClaimJoined
import GoSem.ClaimMapViews
import Derived.JoinedTies
import Derived.KernelRfl
namespace Go.Proofs.YtdghbbnddgngoaaDoor
/- THE CELL 'sum', in the pinned program and in every row, IS THE sha256 OF THE DUMP (.gsa) THAT YtdghbbnddgngoaaDoorProg.lean LOADS. Nothing in Lean hashes anything: it is a label: what it is worth is what the hold of that sum in a sandbox is worth. -/
noncomputable def Tryd.pinned : Pinned := { name := "ytdghbbnddgngoaadoor", sum := "b09208663d63d3ede85d7686be783aabc225eaebfe0c864c86917fab8b432d00", checked := Tryd.checked }
namespace Rows
def none {H : Type} : Left H := { results := [], args := [] }

/- WHAT THE LISTED PACKAGE-LEVEL VARIABLES READ AS WHEN THE CALL BEGINS. Each datum BY PROGRAM (the guide's laid-datum.mjs) off the statement by which the dump's own 'gosem.cut.vars' lays the variable. In a bare row this is a premise. The card (YtdghbbnddgngoaaDoorCards.lean) ties it to the program's text. -/
def laid_math_bits_deBruijn64tab {H : Type} : DataW H := .agg [.lit (.int .u8 0), .lit (.int .u8 1), .lit (.int .u8 56), .lit (.int .u8 2), .lit (.int .u8 57), .lit (.int .u8 49), .lit (.int .u8 28), .lit (.int .u8 3), .lit (.int .u8 61), .lit (.int .u8 58), .lit (.int .u8 42), .lit (.int .u8 50), .lit (.int .u8 38), .lit (.int .u8 29), .lit (.int .u8 17), .lit (.int .u8 4), .lit (.int .u8 62), .lit (.int .u8 47), .lit (.int .u8 59), .lit (.int .u8 36), .lit (.int .u8 45), .lit (.int .u8 43), .lit (.int .u8 51), .lit (.int .u8 22), .lit (.int .u8 53), .lit (.int .u8 39), .lit (.int .u8 33), .lit (.int .u8 30), .lit (.int .u8 24), .lit (.int .u8 18), .lit (.int .u8 12), .lit (.int .u8 5), .lit (.int .u8 63), .lit (.int .u8 55), .lit (.int .u8 48), .lit (.int .u8 27), .lit (.int .u8 60), .lit (.int .u8 41), .lit (.int .u8 37), .lit (.int .u8 16), .lit (.int .u8 46), .lit (.int .u8 35), .lit (.int .u8 44), .lit (.int .u8 21), .lit (.int .u8 52), .lit (.int .u8 32), .lit (.int .u8 23), .lit (.int .u8 11), .lit (.int .u8 54), .lit (.int .u8 26), .lit (.int .u8 40), .lit (.int .u8 15), .lit (.int .u8 34), .lit (.int .u8 20), .lit (.int .u8 31), .lit (.int .u8 10), .lit (.int .u8 25), .lit (.int .u8 14), .lit (.int .u8 19), .lit (.int .u8 9), .lit (.int .u8 13), .lit (.int .u8 8), .lit (.int .u8 7), .lit (.int .u8 6)]
def laid_loop_example_g00927_impl_errTooMany {H : Type} : DataW H := .iface "*errors.errorString" (.ptr (.agg [.lit (.string [116, 111, 111, 32, 109, 97, 110, 121, 32, 112, 114, 105, 109, 101, 32, 112, 97, 116, 116, 101, 114, 110, 115])]))

/-- 'laws.FnBestBridges': WHATEVER THE INPUT: true; the input reads as it did. -/
def fnBestBridgesSpec : ChangeSpec := { name := "fnBestBridges", fn := fun _ => fun
  | [d] => { results := [.lit (.bool true)], args := [d] }
  | _ => none }
def fnBestBridgesRow : OpenClaim := { program := "ytdghbbnddgngoaadoor", sum := "b09208663d63d3ede85d7686be783aabc225eaebfe0c864c86917fab8b432d00", func := "loop.example/g00927/laws.FnBestBridges", spec := "fnBestBridges", unfollowed := true, recurses := true, named := ["math/bits.deBruijn64tab"], plainKeys := false, apart := false, laid := [("math/bits.deBruijn64tab", laid_math_bits_deBruijn64tab)] }
def FnBestBridgesSaid : Prop := fnBestBridgesRow.holds Tryd.pinned (OpenSpec.ofChange fnBestBridgesSpec)

/-- ITS FALSE NEIGHBOUR: 'it returns false'. Refute it at one input. -/
def fnBestBridgesWrong : ChangeSpec := { name := "fnBestBridges", fn := fun _ => fun
  | [d] => { results := [.lit (.bool false)], args := [d] }
  | _ => none }
def FnBestBridgesWrongFalsely : Prop := fnBestBridgesRow.holds Tryd.pinned (OpenSpec.ofChange fnBestBridgesWrong)

/-- 'laws.FnExactCountPrimes': WHATEVER THE INPUT: true; the input reads as it did. -/
def fnExactCountPrimesSpec : ChangeSpec := { name := "fnExactCountPrimes", vars := ["loop.example/g00927/impl.errTooMany"], fn := fun _ => fun
  | [d1, d2, d3, g1] => { results := [.lit (.bool true)], args := [d1, d2, d3], vars := [g1] }
  | _ => none }
def fnExactCountPrimesRow : OpenClaim := { program := "ytdghbbnddgngoaadoor", sum := "b09208663d63d3ede85d7686be783aabc225eaebfe0c864c86917fab8b432d00", func := "loop.example/g00927/laws.FnExactCountPrimes", spec := "fnExactCountPrimes", inPlace := ["internal/reflectlite.TypeOf"], unfollowed := true, recurses := true, named := ["loop.example/g00927/impl.errTooMany", "math/bits.deBruijn64tab"], ifaces := true, plainKeys := false, apart := false, laid := [("math/bits.deBruijn64tab", laid_math_bits_deBruijn64tab), ("loop.example/g00927/impl.errTooMany", laid_loop_example_g00927_impl_errTooMany)] }
def FnExactCountPrimesSaid : Prop := fnExactCountPrimesRow.holds Tryd.pinned (OpenSpec.ofChange fnExactCountPrimesSpec)

/-- ITS FALSE NEIGHBOUR: 'it returns false'. Refute it at one input. -/
def fnExactCountPrimesWrong : ChangeSpec := { name := "fnExactCountPrimes", vars := ["loop.example/g00927/impl.errTooMany"], fn := fun _ => fun
  | [d1, d2, d3, g1] => { results := [.lit (.bool false)], args := [d1, d2, d3], vars := [g1] }
  | _ => none }
def FnExactCountPrimesWrongFalsely : Prop := fnExactCountPrimesRow.holds Tryd.pinned (OpenSpec.ofChange fnExactCountPrimesWrong)

/-- 'laws.FnExactLongestPrime': WHATEVER THE INPUT: true; the input reads as it did. -/
def fnExactLongestPrimeSpec : ChangeSpec := { name := "fnExactLongestPrime", vars := ["loop.example/g00927/impl.errTooMany"], fn := fun _ => fun
  | [d1, d2, g1] => { results := [.lit (.bool true)], args := [d1, d2], vars := [g1] }
  | _ => none }
def fnExactLongestPrimeRow : OpenClaim := { program := "ytdghbbnddgngoaadoor", sum := "b09208663d63d3ede85d7686be783aabc225eaebfe0c864c86917fab8b432d00", func := "loop.example/g00927/laws.FnExactLongestPrime", spec := "fnExactLongestPrime", inPlace := ["internal/reflectlite.TypeOf"], unfollowed := true, recurses := true, named := ["loop.example/g00927/impl.errTooMany", "math/bits.deBruijn64tab"], ifaces := true, plainKeys := false, apart := false, laid := [("math/bits.deBruijn64tab", laid_math_bits_deBruijn64tab), ("loop.example/g00927/impl.errTooMany", laid_loop_example_g00927_impl_errTooMany)] }
def FnExactLongestPrimeSaid : Prop := fnExactLongestPrimeRow.holds Tryd.pinned (OpenSpec.ofChange fnExactLongestPrimeSpec)

/-- ITS FALSE NEIGHBOUR: 'it returns false'. Refute it at one input. -/
def fnExactLongestPrimeWrong : ChangeSpec := { name := "fnExactLongestPrime", vars := ["loop.example/g00927/impl.errTooMany"], fn := fun _ => fun
  | [d1, d2, g1] => { results := [.lit (.bool false)], args := [d1, d2], vars := [g1] }
  | _ => none }
def FnExactLongestPrimeWrongFalsely : Prop := fnExactLongestPrimeRow.holds Tryd.pinned (OpenSpec.ofChange fnExactLongestPrimeWrong)

/- THE SECOND FORM. 'bulk': how many values and letters a reading holds, each counted each time it is reached (what is shared counts as often as it is met; a slice's spare places count too). A statement '..UptoSaid' is the law's where the arguments, and the package variables that the reading takes, are together of bulk at most 1048576: NARROWER than '..Said'. Prove '..Said' where nothing that the law and all that it calls make is longer than what came in: it says more and counts as full. Else prove '..UptoSaid'. A law counts once. -/
mutual
def uptoBulk {H : Type} : DataW H → Nat
  | .lit (.string bytes) => bytes.length + 1
  | .lit _ => 1
  | .nil => 1
  | .ptr d => uptoBulk d + 1
  | .slice elems spare => uptoBulkAll elems + uptoBulkAll spare + 1
  | .agg parts => uptoBulkAll parts + 1
  | .iface _ d => uptoBulk d + 1
  | .map entries => uptoBulkEntries entries + 1
  | .held _ => 1
def uptoBulkAll {H : Type} : List (DataW H) → Nat
  | [] => 0
  | d :: r => uptoBulk d + uptoBulkAll r
def uptoBulkEntries {H : Type} : List (Lit × DataW H) → Nat
  | [] => 0
  | x :: r => uptoBulkEntry x + uptoBulkEntries r
def uptoBulkEntry {H : Type} : Lit × DataW H → Nat
  | (.string bytes, d) => bytes.length + uptoBulk d + 1
  | (_, d) => uptoBulk d + 1
 end
def uptoSmall : (H : Type) → List (DataW H) → Bool := fun _ ds => decide (uptoBulkAll ds ≤ 1048576)
def OpenSpec.upto (s : _root_.Go.ChangeSpec) : _root_.Go.OpenSpec := { _root_.Go.OpenSpec.ofChange s with cond := some uptoSmall }

/-- 'laws.FnBestBridges', WHERE WHAT IT READS IS OF BULK AT MOST 1048576: true; the input reads as it did. -/
def fnBestBridgesUptoRow : OpenClaim := { program := "ytdghbbnddgngoaadoor", sum := "b09208663d63d3ede85d7686be783aabc225eaebfe0c864c86917fab8b432d00", func := "loop.example/g00927/laws.FnBestBridges", spec := "fnBestBridges", unfollowed := true, recurses := true, named := ["math/bits.deBruijn64tab"], plainKeys := false, apart := false, laid := [("math/bits.deBruijn64tab", laid_math_bits_deBruijn64tab)], narrowed := true }
def FnBestBridgesUptoSaid : Prop := fnBestBridgesUptoRow.holds Tryd.pinned (OpenSpec.upto fnBestBridgesSpec)

/-- 'laws.FnExactCountPrimes', WHERE WHAT IT READS IS OF BULK AT MOST 1048576: true; the input reads as it did. -/
def fnExactCountPrimesUptoRow : OpenClaim := { program := "ytdghbbnddgngoaadoor", sum := "b09208663d63d3ede85d7686be783aabc225eaebfe0c864c86917fab8b432d00", func := "loop.example/g00927/laws.FnExactCountPrimes", spec := "fnExactCountPrimes", inPlace := ["internal/reflectlite.TypeOf"], unfollowed := true, recurses := true, named := ["loop.example/g00927/impl.errTooMany", "math/bits.deBruijn64tab"], ifaces := true, plainKeys := false, apart := false, laid := [("math/bits.deBruijn64tab", laid_math_bits_deBruijn64tab), ("loop.example/g00927/impl.errTooMany", laid_loop_example_g00927_impl_errTooMany)], narrowed := true }
def FnExactCountPrimesUptoSaid : Prop := fnExactCountPrimesUptoRow.holds Tryd.pinned (OpenSpec.upto fnExactCountPrimesSpec)

/-- 'laws.FnExactLongestPrime', WHERE WHAT IT READS IS OF BULK AT MOST 1048576: true; the input reads as it did. -/
def fnExactLongestPrimeUptoRow : OpenClaim := { program := "ytdghbbnddgngoaadoor", sum := "b09208663d63d3ede85d7686be783aabc225eaebfe0c864c86917fab8b432d00", func := "loop.example/g00927/laws.FnExactLongestPrime", spec := "fnExactLongestPrime", inPlace := ["internal/reflectlite.TypeOf"], unfollowed := true, recurses := true, named := ["loop.example/g00927/impl.errTooMany", "math/bits.deBruijn64tab"], ifaces := true, plainKeys := false, apart := false, laid := [("math/bits.deBruijn64tab", laid_math_bits_deBruijn64tab), ("loop.example/g00927/impl.errTooMany", laid_loop_example_g00927_impl_errTooMany)], narrowed := true }
def FnExactLongestPrimeUptoSaid : Prop := fnExactLongestPrimeUptoRow.holds Tryd.pinned (OpenSpec.upto fnExactLongestPrimeSpec)

end Rows
end Go.Proofs.YtdghbbnddgngoaaDoor
