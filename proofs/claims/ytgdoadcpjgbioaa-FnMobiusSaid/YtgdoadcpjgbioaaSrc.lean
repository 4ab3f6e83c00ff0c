/- The model's source of choices: l00Src's methods next and pick answer numbers within their bounds, and write the source alone. No conditions. -/
import Derived.Test.YtgdoadcpjgbioaaBase
import Derived.Laws.BitsAllLaws
namespace Go.Proofs.Ytgdoadcpjgbioaa
open Go.RowKit
set_option linter.unusedSimpArgs false
set_option linter.unusedVariables false

/-- the bytes that came in -/
theorem IsRow.bytes {w : World} {a : Option Addr} {len cap : Nat} {zs : List Int} (h : IsRow .u8 w a len cap zs) :
    len ≤ zs.length ∧ len ≤ maxLen ∧ (len = 0 ∨ ∃ b off, a = some ⟨b, off, none⟩ ∧ b < w.heap.size ∧ ∀ i, i < len → w.cell? ⟨b, off + i, none⟩ = some (.int .u8 (zs.getD i 0)) ∧ 0 ≤ zs.getD i 0 ∧ zs.getD i 0 ≤ 255) := by
  rcases h with ⟨_, rfl, _, rfl⟩ | ⟨x, rfl, hl, hm, hz, hc, hw⟩
  · exact ⟨by simp, by simp [maxLen], .inl rfl⟩
  · refine ⟨by omega, by omega, ?_⟩
    by_cases h0 : len = 0
    · exact .inl h0
    · right
      obtain ⟨b, off, spot⟩ := x
      have hc0 := hc 0 (by omega)
      have hspot : spot = none := by simpa [Addr.add] using World.cell?_spot hc0
      subst hspot
      refine ⟨b, off, rfl, cell_block hc0, fun i hi => ⟨by rw [← hc i (by omega)]; by_cases h0 : i = 0 <;> simp [Addr.add, h0], ?_⟩⟩
      have hmem : zs.getD i 0 ∈ zs := by rw [List.getD_eq_getElem?_getD, List.getElem?_eq_getElem (by omega)]; simp
      exact bounds_u8 (hw _ hmem)

/-- a byte of the seed -/
theorem low_byte (z : Int) : 0 ≤ wrap64 (bits BinOp.and IntKind.u64 (IntKind.u64.wrap z / 1099511627776) 255) ∧ wrap64 (bits BinOp.and IntKind.u64 (IntKind.u64.wrap z / 1099511627776) 255) ≤ 255 := by
  have hw : 0 ≤ IntKind.u64.wrap z ∧ IntKind.u64.wrap z < 18446744073709551616 := by
    simp [IntKind.wrap, IntKind.signed, IntKind.bits]
    omega
  have hb := u64_and (IntKind.u64.wrap z / 1099511627776) 255 (by omega) (by omega) (by decide) (by decide)
  rw [hb]
  have hl : ((IntKind.u64.wrap z / 1099511627776).toNat &&& (255 : Int).toNat : Nat) ≤ 255 := Nat.and_le_right
  generalize ((IntKind.u64.wrap z / 1099511627776).toNat &&& (255 : Int).toNat : Nat) = q at hl
  unfold wrap64
  omega

end Go.Proofs.Ytgdoadcpjgbioaa
