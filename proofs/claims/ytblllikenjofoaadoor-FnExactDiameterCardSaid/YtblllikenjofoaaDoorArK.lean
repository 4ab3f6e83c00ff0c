/- ArcsOf, ArcCount, the model's and the program's. Conditions: the library's table as its text lays it. -/
import Derived.Test.YtblllikenjofoaaDoorArC
namespace Go.Proofs.YtblllikenjofoaaDoor
open Go.RowKit
set_option linter.unusedSimpArgs false
set_option linter.unusedVariables false

theorem gphG_row (h p j : Nat) (hh : h ≤ 10) (hj : j < (gphG h p).length) : 1 ≤ ((gphG h p).getD j []).length := by
  rw [gphG_len] at hj
  rw [gphG_at hj, rowG_len]
  have := thrN_some h (by omega) _ (mskG_at hj).1
  omega
theorem arcG_pos (h p : Nat) (hp : p ≤ h) (hh : h ≤ 10) : 1 ≤ (gphG h p).flatten.length := by
  have h0 := cntG_pos hp hh
  have h1 : 0 < (gphG h p).length := by rw [gphG_len]; omega
  have h2 := gphG_row h p 0 hh h1
  have h3 := flat_le (gphG h p) 1
  rw [flat_take (k := 0) h1, List.take_zero, List.flatten_nil, List.nil_append] at h3
  omega

theorem arcs_any (v : Value) (B p h : Nat) (w : World) (hG : GraphIs w B v (gphG h p)) (hp : p ≤ h) (hh : h ≤ 10) :
    Calls Tryd.prog 58 #[v] w fun e w' => ∃ u, e = .returned u ∧ Arcs w' w.heap.size u (arcG h p) ∧ Below w.heap.size w w' := by
  have hl : (gphG h p).length ≤ 1024 := by rw [gphG_len]; exact cntG_le h p hh
  have h2 : (gphG h p).flatten.length ≤ 20000 := by have := arcG_len h p hh; unfold arcG at this; omega
  have HC := concatArc_any v B (gphG h p) w hG hl (fun j hj => gphG_row h p j hh hj) (arcG_pos h p hp hh) h2
  unfold arcG
  clear hl h2
  obtain ⟨gb, hs, rfl, _⟩ := hG
  generalize (gphG h p).flatten = L at *
  generalize (gphG h p).length = n at *
  go_enter Tryd.func58, Tryd.ntmps58
  go_wp2_with fail
  refine HC.mono ?_
  rintro e w1 ⟨u, rfl, i1, b1⟩
  go_wp2
  go_ret
  exact ⟨_, rfl, i1, b1⟩

/-- what ArcsOf answers -/
def arcA (n h : Int) : List ArcT := if gndOk n h then arcG h.toNat n.toNat else []
theorem arcA_len (n h : Int) : (arcA n h).length ≤ 12000 := by
  unfold arcA
  split
  · rename_i k
    obtain ⟨p, a, rfl, rfl, h1, h2, h3⟩ := gndOk_nat k
    exact arcG_len _ _ (by rw [Int.toNat_natCast]; exact h2)
  · simp

theorem arcsOf_spec (n h : Int) (w : World) :
    Calls Tryd.prog 18 #[.int .i64 n, .int .i64 h] w fun e w' => ∃ u, e = .returned (.tuple #[u, .int .i64 (gndC n h)]) ∧ Arcs w' w.heap.size u (arcA n h) ∧ Below w.heap.size w w' := by
  have HC := fun W => l09Code_any n h W
  unfold arcA
  cases hk : gndOk n h with
  | false =>
    rw [if_neg (by simp), show gndC n h = 2 from by rw [gndC, hk]; rfl] at *
    go_enter Tryd.func18, Tryd.ntmps18
    go_wp2_with fail
    refine (HC _).mono ?_
    rintro e w1 ⟨rfl, rfl⟩
    go_wp2
    go_ret2
    exact ⟨_, rfl, OwnK.nil _ _ _ _ _, Below.refl _ _⟩
  | true =>
    rw [if_pos rfl, show gndC n h = 0 from by rw [gndC, hk]; rfl] at *
    obtain ⟨p, a, rfl, rfl, h1, h2, h3⟩ := gndOk_nat hk
    rw [Int.toNat_natCast, Int.toNat_natCast]
    have HM := fun W => l09Masks_any p a W (by omega) h2
    have HA := fun v B W hI => l09Arcs_any v B p a W hI h1 h2
    generalize arcG a p = L at *
    generalize mskI p (2 ^ a) = M at *
    clear hk
    go_enter Tryd.func18, Tryd.ntmps18
    go_wp2_with fail
    refine (HC _).mono ?_
    rintro e w1 ⟨rfl, rfl⟩
    go_wp2_with fail
    refine (HM _).mono ?_
    rintro e w2 ⟨u, rfl, i2, b2⟩
    go_wp2_with fail
    refine (HA _ _ _ i2).mono ?_
    rintro e w3 ⟨v, rfl, i3, b3⟩
    have bb := b2.trans (b3.mono b2.size)
    have i4 := OwnK.mono i3 b2.size
    clear i3 b3 b2 i2 HA HM HC
    go_wp2
    go_ret2
    exact ⟨_, rfl, i4, bb⟩

theorem arcCount_spec (n h : Int) (w : World) :
    Calls Tryd.prog 25 #[.int .i64 n, .int .i64 h] w fun e w' => e = .returned (.tuple #[.int .i64 (arcA n h).length, .int .i64 (gndC n h)]) ∧ Below w.heap.size w w' := by
  have HC := fun W => l09Code_any n h W
  unfold arcA
  cases hk : gndOk n h with
  | false =>
    rw [if_neg (by simp), show gndC n h = 2 from by rw [gndC, hk]; rfl] at *
    go_enter Tryd.func25, Tryd.ntmps25
    go_wp2_with fail
    refine (HC _).mono ?_
    rintro e w1 ⟨rfl, rfl⟩
    go_wp2
    go_ret2
    exact ⟨rfl, Below.refl _ _⟩
  | true =>
    rw [if_pos rfl, show gndC n h = 0 from by rw [gndC, hk]; rfl] at *
    obtain ⟨p, a, rfl, rfl, h1, h2, h3⟩ := gndOk_nat hk
    rw [Int.toNat_natCast, Int.toNat_natCast]
    have HM := fun W => l09Masks_any p a W (by omega) h2
    have HA := fun v B W hI => l09Arcs_any v B p a W hI h1 h2
    generalize arcG a p = L at *
    generalize mskI p (2 ^ a) = M at *
    clear hk
    go_enter Tryd.func25, Tryd.ntmps25
    go_wp2_with fail
    refine (HC _).mono ?_
    rintro e w1 ⟨rfl, rfl⟩
    go_wp2_with fail
    refine (HM _).mono ?_
    rintro e w2 ⟨u, rfl, i2, b2⟩
    go_wp2_with fail
    refine (HA _ _ _ i2).mono ?_
    rintro e w3 ⟨v, rfl, i3, b3⟩
    have bb := b2.trans (b3.mono b2.size)
    obtain ⟨va, vc, rfl⟩ := i3.sl
    clear i3 b3 b2 i2 HA HM HC
    go_wp2
    go_ret2
    exact ⟨rfl, bb⟩

set_option maxRecDepth 10000 in
theorem arcsOf_impl (n h : Int) (w : World) (hT : CtzTab w) :
    Calls Tryd.prog 21 #[.int .i64 n, .int .i64 h] w fun e w' => ∃ u, e = .returned (.tuple #[u, .int .i64 (gndC n h)]) ∧ Arcs w' w.heap.size u (arcA n h) ∧ Below w.heap.size w w' := by
  have HK := fun W => kindOf_any n h W
  unfold arcA
  cases hk : gndOk n h with
  | false =>
    rw [hk] at HK
    simp only [Bool.false_eq_true, if_false] at HK ⊢
    rw [show gndC n h = 2 from by rw [gndC, hk]; rfl] at *
    go_enter Tryd.func21, Tryd.ntmps21
    go_wp2_with fail
    refine (HK _).mono ?_
    rintro e w1 ⟨rfl, b1⟩
    have bb := bel_alGp b1 (.cells #[.int .i64 0, .int .i64 0] 70)
    go_wp2
    go_ret2
    exact ⟨_, rfl, OwnK.nil _ _ _ _ _, bb⟩
  | true =>
    rw [hk] at HK
    simp only [if_true] at HK ⊢
    rw [show gndC n h = 0 from by rw [gndC, hk]; rfl] at *
    obtain ⟨p, a, rfl, rfl, h1, h2, h3⟩ := gndOk_nat hk
    rw [Int.toNat_natCast, Int.toNat_natCast]
    have HGp := fun W (hW : CtzTab W) => graph_any p a W h3 h1 h2 hW
    have HAr := fun v B W hG => arcs_any v B p a W hG h3 h2
    generalize arcG a p = L at *
    generalize gphG a p = M at *
    clear hk
    go_enter Tryd.func21, Tryd.ntmps21
    go_wp2_with fail
    refine (HK _).mono ?_
    rintro e w1 ⟨rfl, b1⟩
    have bb := bel_alGp b1 (.cells #[.int .i64 p, .int .i64 a] 70)
    go_wp2_with fail
    refine (HGp _ (hT.below bb)).mono ?_
    rintro e w2 ⟨u, rfl, i2, b2⟩
    go_wp2_with fail
    refine (HAr _ _ _ i2).mono ?_
    rintro e w3 ⟨v, rfl, i3, b3⟩
    have hz := bb.size
    have b23 := b2.trans (b3.mono b2.size)
    have b4 := bb.trans (b23.mono hz)
    have hz2 := b2.size
    have i4 := OwnK.mono i3 (Nat.le_trans hz hz2)
    clear i3 b3 b2 i2 HGp HAr HK b1 bb b23 hz hz2
    go_wp2
    go_ret2
    exact ⟨_, rfl, i4, b4⟩

theorem arcCount_impl (n h : Int) (w : World) (hT : CtzTab w) :
    Calls Tryd.prog 26 #[.int .i64 n, .int .i64 h] w fun e w' => e = .returned (.tuple #[.int .i64 (arcA n h).length, .int .i64 (gndC n h)]) ∧ Below w.heap.size w w' := by
  have HA := arcsOf_impl n h w hT
  generalize arcA n h = L at *
  generalize gndC n h = c at *
  go_enter Tryd.func26, Tryd.ntmps26
  go_wp2_with fail
  refine HA.mono ?_
  rintro e w1 ⟨u, rfl, i1, b1⟩
  obtain ⟨va, vc, rfl⟩ := i1.sl
  go_wp2
  go_ret2
  exact ⟨rfl, b1⟩
end Go.Proofs.YtblllikenjofoaaDoor
