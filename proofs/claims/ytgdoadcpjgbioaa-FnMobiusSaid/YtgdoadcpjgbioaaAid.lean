/- The laws' helpers a2At (a number that depends on a byte) and a2Sum (the sum of a list of throws). Conditions: at most 3000 bytes; a list of throws. -/
import Derived.Test.YtgdoadcpjgbioaaSrc
import Derived.Test.YtgdoadcpjgbioaaPat
namespace Go.Proofs.Ytgdoadcpjgbioaa
open Go.RowKit
set_option linter.unusedSimpArgs false
set_option linter.unusedVariables false

theorem a2At_any (a : Option Addr) (len cap : Nat) (zs : List Int) (i : Nat) (n : Int) (w : World) (hr : IsRow .u8 w a len cap zs) (hlen : len ≤ 3000) (hi : i ≤ 100) (h1 : 1 ≤ n) (h2 : n ≤ 1000) :
    Calls Try.prog 15 #[.slice a len cap, .int .i64 i, .int .i64 n] w fun e w' => ∃ x, e = .returned (.int .i64 x) ∧ (0 ≤ x ∧ x < n) ∧ w = w' := by
  obtain ⟨_, _, hb⟩ := hr.bytes
  by_cases hlt : i < len
  · rcases hb with h0 | ⟨b, off, rfl, hbs, hc⟩
    · omega
    · obtain ⟨c1, y1, y2⟩ := hc i hlt
      clear hc hr
      generalize zs.getD i 0 = y at *
      have hn1 : ¬ n < 1 := by omega
      go_enter Try.func15, Try.ntmps15
      go_wp2
      go_ret
      exact ⟨_, rfl, ⟨Int.emod_nonneg _ (by omega), Int.emod_lt_of_pos _ (by omega)⟩, rfl⟩
  · have hle : len ≤ i := by omega
    clear hb hr
    go_enter Try.func15, Try.ntmps15
    go_wp2
    go_ret
    exact ⟨_, rfl, ⟨by omega, by omega⟩, rfl⟩

end Go.Proofs.Ytgdoadcpjgbioaa
