/- Multiplex, the model's: l04Shape answers whether beats have valid throws in their order. No conditions. -/
import Derived.Test.YtgjmhihomklooaaGrid
import Derived.Test.YtgjmhihomklooaaSpec02
import Derived.Test.YtgjmhihomklooaaMul
namespace Go.Proofs.Ytgjmhihomklooaa
open Go.RowKit
set_option linter.unusedSimpArgs false
set_option linter.unusedVariables false

theorem l00In_same (n low high : Int) (w : World) :
    Calls Try.prog 61 #[.int .i64 n, .int .i64 low, .int .i64 high] w fun e w' => e = .returned (.bool (inB n low high)) ∧ w' = w :=
  (l00In_any n low high w).mono fun _ _ ⟨h1, h2⟩ => ⟨h1, h2.symm⟩

set_option maxHeartbeats 1500000 in
theorem l04Shape_some (p : Addr) (g cap n : Nat) (E : TypeId) (B C : Nat) (pss : List (List Int)) (w : World) (hp : w.cell? p = some (.slice (some ⟨g, 0, none⟩) n cap)) (hg : g < w.heap.size) (hn1 : 1 ≤ n) (hn2 : n ≤ 12)
    (hbad : ∀ i, i < n → rowOk (pss.getD i []) = false → shapeL pss = false) (hgood : (∀ i, i < n → rowOk (pss.getD i []) = true) → shapeL pss = true)
    (hrow : ∀ i, i < n → ∃ u, w.cell? ⟨g, i, none⟩ = some u ∧ Ints w B u (pss.getD i [])) :
    Calls Try.prog 120 #[.pointer (some p)] w fun e w' => e = .returned (.bool (shapeL pss)) ∧ Below w.heap.size w w' := by
  have hpl := cell_block hp
  have hd1 : decide ((n : Int) ≤ 12) = true := decide_eq_true (by omega)
  go_enter Try.func120, Try.ntmps120
  go_wp2
  go_loopw [3] (fun i wr => ∃ k : Nat, k ≤ n ∧ i = .int .i64 k ∧ Hid (∀ j, j < k → rowOk (pss.getD j []) = true) ∧ Below w.heap.size w wr) (fun i _ => n - (intOf i).toNat)
  case atStart => exact ⟨0, Nat.zero_le _, rfl, fun j hj => absurd hj (Nat.not_lt_zero _), Below.refl _ _⟩
  case round =>
    obtain ⟨i, hi, rfl, hall, hb⟩ := hrel
    have hp1 : wr.cell? p = some (.slice (some ⟨g, 0, none⟩) n cap) := by rw [hb.cell hpl]; exact hp
    by_cases hlt : i < n
    · obtain ⟨u, hu, i1⟩ := hrow i hlt
      have hu1 : wr.cell? ⟨g, i, none⟩ = some u := by rw [hb.cell hg]; exact hu
      have hbi := hbad i hlt
      have hi1 := i1.below hb
      clear hrow hbad hu
      obtain ⟨b, hbe⟩ : ∃ b, b = pss.getD i [] := ⟨_, rfl⟩
      have hnext : rowOk b = true → ∀ j, j < i + 1 → rowOk (pss.getD j []) = true := fun hr j hj => by
        by_cases e : j = i
        · subst e; rw [← hbe]; exact hr
        · exact hall.out j (by omega)
      rw [← hbe] at hbi hi1 i1
      have HNX := Lib.hid hnext
      have HBI := Lib.hid hbi
      clear hnext hbe hall hgood hbi
      by_cases hl : 1 ≤ b.length ∧ b.length ≤ 4
      · obtain ⟨hl1, hl2⟩ := hl
        obtain ⟨gb, cb, rfl, _, hgb, _⟩ := hi1.shape.resolve_left fun e => by rw [e.2] at hl1; simp at hl1
        obtain ⟨m, hm2⟩ : ∃ m, m = b.length := ⟨_, rfl⟩
        have hrb := fun k hk => @rowOk_bad b k hk
        have hrg := fun hh => @rowOk_good b hl1 hl2 hh
        have hcw : ∀ k, k < b.length → ∀ W, Below w.heap.size w W → W.cell? ⟨gb, k, none⟩ = some (.int .i64 (b.getD k 0)) := fun k hk W hW => (i1.below hW).cell k hk
        rw [← hm2] at hl1 hl2 hrb hrg hu1 hcw
        clear hi1 i1
        have HM := Lib.hid hm2
        have HRB := Lib.hid hrb
        have HRG := Lib.hid hrg
        have HCW := Lib.hid hcw
        clear hm2 hrb hrg hcw
        have hd2 : decide ((m : Int) ≤ 4) = true := decide_eq_true (by omega)
        go_wp2
        go_loopw [5] (fun c wr => ∃ k : Nat, k ≤ m ∧ c = .int .i64 k ∧ Hid (∀ q, q < k → okAtB b q = true) ∧ Below w.heap.size w wr) (fun c _ => m - (intOf c).toNat)
        case atStart => exact ⟨0, Nat.zero_le _, rfl, fun j hj => absurd hj (Nat.not_lt_zero _), hb⟩
        case round =>
          obtain ⟨k, hk, rfl, hok, hbk⟩ := hrel
          by_cases hkm : k < m
          · have HF := Lib.hid (fun h0 : okAtB b k = false => HBI.out (HRB.out k hkm h0))
            have HT := Lib.hid (fun (ht : okAtB b k = true) => show ∀ q, q < k + 1 → okAtB b q = true from fun q hq => by
              by_cases e : q = k
              · subst e; exact ht
              · exact hok.out q (by omega))
            have hcx : wr.cell? ⟨gb, k, none⟩ = some (.int .i64 (b.getD k 0)) := HCW.out k hkm wr hbk
            obtain ⟨x, hx⟩ : ∃ x, b.getD k 0 = x := ⟨_, rfl⟩
            rw [hx] at hcx
            have HX := Lib.hid hx
            clear hx hok hu1 hp1 hp hd1 hd2
            by_cases hin : 0 ≤ x ∧ x ≤ 15
            · have hib : inB x 0 15 = true := inB_true hin
              by_cases hz : x = 0
              · by_cases hmany : 1 < m
                · have HF2 := Lib.hid (HF.out (by rw [okAtB_eq HX.out HM.out]; simp [hz, hmany]))
                  have hmany' : (1 : Int) < (m : Int) := by omega
                  subst hz
                  clear hin
                  go_wp2
                  go_quiet ((go_at_call 61; exact Calls.quiet_of_same (l00In_same _ _ _ _)))
                  go_wp2
                  go_ret
                  exact ⟨by rw [HF2.out]; rfl, below_drewN hbk _⟩
                · obtain rfl : k = 0 := by omega
                  have HG2 := Lib.hid (HT.out (by rw [okAtB_eq HX.out HM.out]; simp [hz, hmany]))
                  have hmany' : decide ((1 : Int) < (m : Int)) = false := decide_eq_false (by omega)
                  subst hz
                  clear hin
                  go_wp2
                  go_quiet ((go_at_call 61; exact Calls.quiet_of_same (l00In_same _ _ _ _)))
                  go_wp2
                  go_roundw
                  case rel => exact ⟨0 + 1, by omega, by go_num, HG2.out, below_drewN hbk _⟩
                  case measure => simp [intOf]; omega
              · have hz' : (x == 0) = false := by simpa using hz
                cases k with
                | zero =>
                  have HG2 := Lib.hid (HT.out (by rw [okAtB_eq HX.out HM.out]; simp [hz, hin]))
                  clear hin
                  go_wp2
                  go_quiet ((go_at_call 61; exact Calls.quiet_of_same (l00In_same _ _ _ _)))
                  go_wp2
                  go_roundw
                  case rel => exact ⟨0 + 1, by omega, by go_num, HG2.out, below_drewN hbk _⟩
                  case measure => simp [intOf]; omega
                | succ j =>
                  have hcy : wr.cell? ⟨gb, j, none⟩ = some (.int .i64 (b.getD j 0)) := HCW.out j (by omega) wr hbk
                  obtain ⟨y, hy⟩ : ∃ y, b.getD (j + 1 - 1) 0 = y := ⟨_, rfl⟩
                  have hy' : b.getD j 0 = y := hy
                  rw [hy'] at hcy
                  have HY := Lib.hid hy
                  clear hy hy'
                  by_cases hd : y < x
                  · have HF2 := Lib.hid (HF.out (by rw [okAtB_eq HX.out HM.out, HY.out]; simp [hd]))
                    clear hin
                    go_wp2
                    go_quiet ((go_at_call 61; exact Calls.quiet_of_same (l00In_same _ _ _ _)))
                    go_wp2
                    go_ret
                    exact ⟨by rw [HF2.out]; rfl, below_drewN hbk _⟩
                  · have HG2 := Lib.hid (HT.out (by rw [okAtB_eq HX.out HM.out, HY.out]; simp [hd, hz, hin]))
                    have hd' : decide (y < x) = false := decide_eq_false hd
                    clear hin
                    go_wp2
                    go_quiet ((go_at_call 61; exact Calls.quiet_of_same (l00In_same _ _ _ _)))
                    go_wp2
                    go_roundw
                    case rel => first | exact ⟨(j + 1) + 1, by omega, by go_num, HG2.out, below_drewN hbk _⟩ | ((repeat apply Exists.intro); exact ⟨⟨(j + 1) + 1, by omega, by go_num, HG2.out, below_drewN hbk _⟩, rfl⟩)
                    case measure => simp [intOf]; omega
            · have hib : inB x 0 15 = false := inB_false (by omega)
              have HF2 := Lib.hid (HF.out (by rw [okAtB_eq HX.out HM.out]; simp [hin]))
              clear hin
              go_wp2
              go_quiet ((go_at_call 61; exact Calls.quiet_of_same (l00In_same _ _ _ _)))
              go_wp2
              go_ret
              exact ⟨by rw [HF2.out]; rfl, below_drewN hbk _⟩
          · obtain rfl : k = m := by omega
            have HRT := Lib.hid (HNX.out (HRG.out hok.out))
            clear hu1 hp1 hp
            go_wp2
            go_roundw
            case rel => exact ⟨i + 1, by omega, by go_num, HRT.out, hbk⟩
            case measure => simp [intOf]; omega
      · have HRT := Lib.hid (HBI.out (rowOk_len hl))
        obtain ⟨m, hm⟩ : ∃ m, m = b.length := ⟨_, rfl⟩
        obtain ⟨a, cb, rfl⟩ : ∃ a cb, u = .slice a m cb := by
          rcases hi1.shape with ⟨rfl, h0⟩ | ⟨gb, cb, rfl, _⟩
          · exact ⟨none, 0, by rw [hm, h0]; rfl⟩
          · exact ⟨_, cb, by rw [hm]⟩
        have hml := hi1.len
        rw [← hm] at hl hml
        clear hi1 i1 hm
        have hbad : (m : Int) < 1 ∨ (4 : Int) < m := by omega
        rcases hbad with hbad | hbad
        · go_wp2
          go_ret
          exact ⟨by rw [HRT.out]; rfl, hb⟩
        · have hd2 : decide ((m : Int) ≤ 4) = false := decide_eq_false (by omega)
          go_wp2
          go_ret
          exact ⟨by rw [HRT.out]; rfl, hb⟩
    · obtain rfl : i = n := by omega
      have HRT := Lib.hid (hgood hall.out)
      clear hrow hbad hgood hall
      go_wp2
      go_ret
      exact ⟨by rw [HRT.out]; rfl, hb⟩

theorem l04Shape_any (p : Addr) (v : Value) (E : TypeId) (B C : Nat) (pss : List (List Int)) (w : World) (hp : w.cell? p = some v) (h : Grid E w B C v pss) :
    Calls Try.prog 120 #[.pointer (some p)] w fun e w' => e = .returned (.bool (shapeL pss)) ∧ Below w.heap.size w w' := by
  by_cases hn : 1 ≤ pss.length ∧ pss.length ≤ 12
  · obtain ⟨hn1, hn2⟩ := hn
    obtain ⟨g, cap, rfl, _, hg, _, hm⟩ := h.shape.resolve_left fun e => by rw [e.2] at hn1; simp at hn1
    exact l04Shape_some p g cap pss.length E B C pss w hp hg hn1 hn2 (fun i hi => shapeL_bad i hi) (fun hh => shapeL_good hn1 hn2 hh) fun i hi => by
      obtain ⟨u, h1, h2, _⟩ := h.row i hi
      exact ⟨u, h1, h2⟩
  · rw [shapeL_len hn]
    have hm := h.len
    obtain ⟨n, hnn⟩ : ∃ n, n = pss.length := ⟨_, rfl⟩
    obtain ⟨a, cap, rfl⟩ : ∃ a cap, v = .slice a n cap := by
      rcases h.shape with ⟨rfl, h0⟩ | ⟨g, cap, rfl, _⟩
      · exact ⟨none, 0, by rw [hnn, h0]; rfl⟩
      · exact ⟨_, cap, by rw [hnn]⟩
    rw [← hnn] at hn hm
    have hbad : (n : Int) < 1 ∨ (12 : Int) < n := by omega
    clear h hnn hn
    rcases hbad with hbad | hbad
    · go_enter Try.func120, Try.ntmps120
      go_wp2
      go_ret
      exact ⟨rfl, Below.refl _ _⟩
    · have hd1 : decide ((n : Int) ≤ 12) = false := decide_eq_false (by omega)
      go_enter Try.func120, Try.ntmps120
      go_wp2
      go_ret
      exact ⟨rfl, Below.refl _ _⟩
end Go.Proofs.Ytgjmhihomklooaa
