/- States: facts of small masks, decided. No conditions. -/
import Derived.Test.YtdghbbnddgngoaaStP
namespace Go.Proofs.Ytdghbbnddgngoaa
theorem poss_full : ∀ h, h < 11 → ∀ m, m < 1024 → m < 2 ^ h → (2 ^ (h + 1) - 1) &&& (18446744073709551615 - m) = 2 ^ (h + 1) - 1 - m := by decide +kernel
theorem poss_bit : ∀ h, h < 11 → ∀ m, m < 1024 → m < 2 ^ h → ∀ t, t < 12 → decide ((2 ^ (h + 1) - 1 - m) / 2 ^ t % 2 = 1) = (decide (t ≤ h) && decide (m / 2 ^ t % 2 = 0)) := by
  have : ∀ h, h < 11 → ∀ m, m < 2 ^ h → ∀ t, t < 12 → decide ((2 ^ (h + 1) - 1 - m) / 2 ^ t % 2 = 1) = (decide (t ≤ h) && decide (m / 2 ^ t % 2 = 0)) := by decide +kernel
  exact fun h hh m _ hm t ht => this h hh m hm t ht
theorem after_or : ∀ m, m < 1024 → ∀ t, t < 11 → (m ||| 2 ^ t) / 2 = nextM m t := by decide +kernel
end Go.Proofs.Ytdghbbnddgngoaa
