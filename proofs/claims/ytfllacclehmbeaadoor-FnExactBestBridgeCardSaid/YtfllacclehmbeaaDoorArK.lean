/- ArcsOf, ArcCount, the model's and the program's. Conditions: the library's table as its text lays it. -/
import Derived.Test.YtfllacclehmbeaaDoorArC
namespace Go.Proofs.YtfllacclehmbeaaDoor
open Go.RowKit
set_option linter.unusedSimpArgs false
set_option linter.unusedVariables false

theorem gphG_row (h p j : Nat) (hh : h ≤ 10) (hj : j < (gphG h p).length) : 1 ≤ ((gphG h p).getD j []).length := by
  rw [gphG_len] at hj
  rw [gphG_at hj, rowG_len]
  have := thrN_some h (by omega) _ (mskG_at hj).1
  omega
theorem arcG_pos (h p : Nat) (hp : p ≤ h) (hh : h ≤ 10) : 1 ≤ (gphG h p).flatten.length := by
  have h0 := cntG_pos hp hh
  have h1 : 0 < (gphG h p).length := by rw [gphG_len]; omega
  have h2 := gphG_row h p 0 hh h1
  have h3 := flat_le (gphG h p) 1
  rw [flat_take (k := 0) h1, List.take_zero, List.flatten_nil, List.nil_append] at h3
  omega

/-- what ArcsOf answers -/
def arcA (n h : Int) : List ArcT := if gndOk n h then arcG h.toNat n.toNat else []
theorem arcA_len (n h : Int) : (arcA n h).length ≤ 12000 := by
  unfold arcA
  split
  · rename_i k
    obtain ⟨p, a, rfl, rfl, h1, h2, h3⟩ := gndOk_nat k
    exact arcG_len _ _ (by rw [Int.toNat_natCast]; exact h2)
  · simp

theorem arcsOf_spec (n h : Int) (w : World) :
    Calls Tryd.prog 14 #[.int .i64 n, .int .i64 h] w fun e w' => ∃ u, e = .returned (.tuple #[u, .int .i64 (gndC n h)]) ∧ Arcs w' w.heap.size u (arcA n h) ∧ Below w.heap.size w w' := by
  have HC := fun W => l09Code_any n h W
  unfold arcA
  cases hk : gndOk n h with
  | false =>
    rw [if_neg (by simp), show gndC n h = 2 from by rw [gndC, hk]; rfl] at *
    go_enter Tryd.func14, Tryd.ntmps14
    go_wp2_with fail
    refine (HC _).mono ?_
    rintro e w1 ⟨rfl, rfl⟩
    go_wp2
    go_ret2
    exact ⟨_, rfl, OwnK.nil _ _ _ _ _, Below.refl _ _⟩
  | true =>
    rw [if_pos rfl, show gndC n h = 0 from by rw [gndC, hk]; rfl] at *
    obtain ⟨p, a, rfl, rfl, h1, h2, h3⟩ := gndOk_nat hk
    rw [Int.toNat_natCast, Int.toNat_natCast]
    have HM := fun W => l09Masks_any p a W (by omega) h2
    have HA := fun v B W hI => l09Arcs_any v B p a W hI h1 h2
    generalize arcG a p = L at *
    generalize mskI p (2 ^ a) = M at *
    clear hk
    go_enter Tryd.func14, Tryd.ntmps14
    go_wp2_with fail
    refine (HC _).mono ?_
    rintro e w1 ⟨rfl, rfl⟩
    go_wp2_with fail
    refine (HM _).mono ?_
    rintro e w2 ⟨u, rfl, i2, b2⟩
    go_wp2_with fail
    refine (HA _ _ _ i2).mono ?_
    rintro e w3 ⟨v, rfl, i3, b3⟩
    have bb := b2.trans (b3.mono b2.size)
    have i4 := OwnK.mono i3 b2.size
    clear i3 b3 b2 i2 HA HM HC
    go_wp2
    go_ret2
    exact ⟨_, rfl, i4, bb⟩

end Go.Proofs.YtfllacclehmbeaaDoor
