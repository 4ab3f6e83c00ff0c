/- The walk of the law FnMobius: it returns true. No conditions. -/
import Derived.Test.YtgdoadcpjgbioaaCtN
import Derived.Test.YtgdoadcpjgbioaaSame
import Derived.Test.YtgdoadcpjgbioaaAid
import Derived.Test.YtgdoadcpjgbioaaImpl02b
import Derived.Test.YtgdoadcpjgbioaaStF
import Derived.Test.YtgdoadcpjgbioaaSees
namespace Go.Proofs.Ytgdoadcpjgbioaa
open Go.RowKit
set_option linter.unusedSimpArgs false
set_option linter.unusedVariables false

set_option maxRecDepth 100000 in
set_option maxHeartbeats 4000000 in
theorem walk_FnMobius (a0 : Option Addr) (len0 cap0 : Nat) (z0 : List Int) (w : World) (r0 : IsRow .u8 w a0 len0 cap0 z0) :
    Calls Try.prog 3 #[.slice a0 len0 cap0] w fun e w' => e = .returned (.bool true) ∧ Below w.heap.size w w' := by
  have hm0 : len0 ≤ 9223372036854775807 := by have := r0.bytes.2.1; unfold maxLen at this; omega
  have HL := a2Long_any a0 none len0 cap0 0 0 w hm0 (by decide)
  cases hL : longL len0 0 with
  | true =>
    rw [hL] at HL
    go_enter Try.func3, Try.ntmps3
    go_wp2_with fail
    refine HL.mono ?_
    rintro e w' ⟨rfl, rfl⟩
    go_wp2
    go_ret
    exact ⟨rfl, Below.refl _ _⟩
  | false =>
    rw [hL] at HL
    have hb0 : len0 ≤ 3000 := by simp [longL] at hL; omega
    clear hL hm0
    have BB := Below.refl w.heap.size w
    have HA0 := Lib.hid (a2At_any a0 len0 cap0 z0 0 250 w r0 hb0 (by omega) (by omega) (by omega))
    have HA1 := Lib.hid (a2At_any a0 len0 cap0 z0 1 2 w r0 hb0 (by omega) (by omega) (by omega))
    have HD := fun n => divisorsOf_impl n w
    have HM := Lib.hid (fun n W => mobius_impl n W)
    have HFA := Lib.hid divA_facts
    clear r0
    go_enter Try.func3, Try.ntmps3
    go_wp2_with fail
    refine HL.mono ?_
    rintro e w' ⟨rfl, rfl⟩
    clear HL
    go_wp2_with fail
    refine HA0.out.mono ?_
    rintro e w1 ⟨x, rfl, ⟨hx1, hx2⟩, rfl⟩
    go_wp2_with fail
    refine HA1.out.mono ?_
    rintro e w1 ⟨y, rfl, ⟨hy1, hy2⟩, rfl⟩
    clear HA0 HA1
    by_cases hlow : 1 + x * 4 - y < 1
    · have hlow2 : decide (1 + x * 4 - y < 1) = true := decide_eq_true hlow
      obtain ⟨hl1, hl2, hf, hla, hmc, hm, hri, hsb, hsum⟩ := HFA.out (1 : Int) (by omega) (by omega)
      have HD1 := HD (1 : Int)
      rw [hmc] at HD1
      clear HD HFA hmc
      have HMM := Lib.hid hm
      have HRI := Lib.hid hri
      have HSB := Lib.hid hsb
      have HSU := Lib.hid hsum
      have HSN := Lib.hid (fun i hi => muP_next (divA (1 : Int)) i hi)
      have HS0 := Lib.hid (show muP (divA (1 : Int)) 0 = 0 from rfl)
      clear hm hri hsb hsum
      generalize muP (divA (1 : Int)) = s at *
      generalize divA (1 : Int) = L at *
      go_wp2_with fail
      refine HD1.mono ?_
      rintro e w1 ⟨v, rfl, ip, bb⟩
      clear HD1
      have BB1 := BB.trans (bb.mono BB.size)
      clear bb
      obtain ⟨g, cap, rfl, _, _, _, _⟩ := ip.shape2 hl1
      have cf := ip.cell 0 (by omega)
      have cl := ip.cell (L.length - 1) (by omega)
      rw [hf] at cf
      rw [hla] at cl
      have HIP := Lib.hid ip
      obtain ⟨m, hmL⟩ : ∃ m, L.length = m := ⟨_, rfl⟩
      rw [hmL] at hl1 hl2 cl ⊢
      have hsubm : IntKind.i64.wrap ((m : Int) - 1) = ((m - 1 : Nat) : Int) := by rw [IntWalk.i64_in _ (by omega)]; omega
      have HML := Lib.hid hmL
      have hmz : ((m : Int) == 0) = false := beq_eq_false_iff_ne.2 (by omega)
      clear hf hla ip hmL
      go_wp2
      clear cf cl
      go_loopw [6, 7] (fun t i wr => ∃ k : Nat, k ≤ m ∧ i = .int .i64 k ∧ t = .int .i64 (s k) ∧ Below w1.heap.size w1 wr) (fun _ i _ => m - (intOf i).toNat)
      case atStart => exact ⟨0, Nat.zero_le _, rfl, by rw [HS0.out], Below.refl _ _⟩
      case round =>
        obtain ⟨k, hk, rfl, rfl, hb⟩ := hrel
        have hsb := HSB.out k (by rw [HML.out]; exact hk)
        by_cases hlt : k < m
        · obtain ⟨hx1, hx2, hx3, hx4, hx5⟩ := HMM.out k (by rw [HML.out]; exact hlt)
          have hsn := HSN.out k (by rw [HML.out]; exact hlt)
          have c1 := (HIP.out.below hb).cell k (by rw [HML.out]; exact hlt)
          have HMX := fun W => HM.out (L.getD k 0) W
          rw [hx3] at HMX
          by_cases hk0 : k = 0
          · subst hk0
            have hq1 : decide ((0 : Int) < 0) = false := rfl
            clear HMM HRI HSB HSN HM
            generalize hz : L.getD 0 0 = z at *
            have HZ := Lib.hid hz
            clear hz
            generalize muA z = u at *
            have HE := Lib.hid hsn
            have d1 : decide (u < -1) = false := decide_eq_false (by omega)
            have d2 : decide (1 < u) = false := decide_eq_false (by omega)
            have d3 : decide (z < 1) = false := decide_eq_false (by omega)
            have d4 : ((1 : Int) % z != 0) = false := by rw [hx2]; rfl
            clear hsn
            go_wp2_with fail
            refine (HMX _).mono ?_
            rintro e w2 ⟨rfl, bb⟩
            have hb2 := hb.trans (bb.mono hb.size)
            have c1 := (HIP.out.below hb2).cell 0 (by rw [HML.out]; exact hlt)
            rw [HZ.out] at c1
            clear HMX
            go_wp2
            go_quiet (fail)
            go_wp2
            go_roundw
            case rel => exact ⟨1, by omega, by go_num, by rw [HE.out], below_drewN hb2 _⟩
            case measure => simp [intOf]; omega
          · obtain ⟨j, rfl⟩ : ∃ j, k = j + 1 := ⟨k - 1, by omega⟩
            have hq1 : decide ((0 : Int) < ((j + 1 : Nat) : Int)) = true := decide_eq_true (by omega)
            have hri := HRI.out j (by rw [HML.out]; exact hlt)
            have hjm : j < L.length := by rw [HML.out]; omega
            have c0 := (HIP.out.below hb).cell j hjm
            clear HMM HRI HSB HSN HM
            generalize hz : L.getD (j + 1) 0 = z at *
            generalize hz0 : L.getD j 0 = z0 at *
            have HZ := Lib.hid hz
            have HZ0 := Lib.hid hz0
            clear hz hz0
            generalize muA z = u at *
            have HE := Lib.hid hsn
            have d1 : decide (u < -1) = false := decide_eq_false (by omega)
            have d2 : decide (1 < u) = false := decide_eq_false (by omega)
            have d3 : decide (z < 1) = false := decide_eq_false (by omega)
            have d4 : ((1 : Int) % z != 0) = false := by rw [hx2]; rfl
            have d5 : decide (z ≤ z0) = false := decide_eq_false (by omega)
            clear hsn
            go_wp2_with fail
            refine (HMX _).mono ?_
            rintro e w2 ⟨rfl, bb⟩
            have hb2 := hb.trans (bb.mono hb.size)
            have c1 := (HIP.out.below hb2).cell (j + 1) (by rw [HML.out]; exact hlt)
            have c0 := (HIP.out.below hb2).cell j hjm
            rw [HZ.out] at c1
            rw [HZ0.out] at c0
            clear HMX
            go_wp2
            go_quiet (fail)
            go_wp2
            go_roundw
            case rel => exact ⟨j + 1 + 1, by omega, by go_num, by rw [HE.out], below_drewN hb2 _⟩
            case measure => simp [intOf]; omega
        · obtain rfl : k = m := by omega
          have hsu := HSU.out
          rw [HML.out] at hsu
          clear HMM HRI HSB HSN HM
          generalize s k = t at *
          by_cases hn1 : (1 : Int) ≤ 1
          · rw [if_pos hn1] at hsu
            subst hsu
            have d1 : decide ((1 : Int) < (1 : Int)) = false := decide_eq_false (by omega)
            go_wp2
            go_ret
            exact ⟨rfl, BB1.trans (hb.mono BB1.size)⟩
          · rw [if_neg hn1] at hsu
            subst hsu
            first
              | (exact absurd (show (1 : Int) ≤ 1 by omega) hn1)
              | (have d1 : decide ((1 : Int) < (1 : Int)) = true := decide_eq_true (by omega)
                 go_wp2
                 go_ret
                 exact ⟨rfl, BB1.trans (hb.mono BB1.size)⟩)
    · have hlow2 : decide (1 + x * 4 - y < 1) = false := decide_eq_false hlow
      obtain ⟨n, hn⟩ : ∃ n, 1 + x * 4 - y = n := ⟨_, rfl⟩
      have hn1' : 1 ≤ n := by omega
      have hn2' : n ≤ 1000 := by omega
      have hlow3 : decide (n < 1) = false := decide_eq_false (by omega)
      obtain ⟨hl1, hl2, hf, hla, hmc, hm, hri, hsb, hsum⟩ := HFA.out n hn1' hn2'
      have HD1 := HD n
      rw [hmc] at HD1
      clear HD HFA hmc
      have HMM := Lib.hid hm
      have HRI := Lib.hid hri
      have HSB := Lib.hid hsb
      have HSU := Lib.hid hsum
      have HSN := Lib.hid (fun i hi => muP_next (divA n) i hi)
      have HS0 := Lib.hid (show muP (divA n) 0 = 0 from rfl)
      clear hm hri hsb hsum
      generalize muP (divA n) = s at *
      generalize divA n = L at *
      go_wp2_with fail
      clear hn hlow hlow2
      refine HD1.mono ?_
      rintro e w1 ⟨v, rfl, ip, bb⟩
      clear HD1
      have BB1 := BB.trans (bb.mono BB.size)
      clear bb
      obtain ⟨g, cap, rfl, _, _, _, _⟩ := ip.shape2 hl1
      have cf := ip.cell 0 (by omega)
      have cl := ip.cell (L.length - 1) (by omega)
      rw [hf] at cf
      rw [hla] at cl
      have HIP := Lib.hid ip
      obtain ⟨m, hmL⟩ : ∃ m, L.length = m := ⟨_, rfl⟩
      rw [hmL] at hl1 hl2 cl ⊢
      have hsubm : IntKind.i64.wrap ((m : Int) - 1) = ((m - 1 : Nat) : Int) := by rw [IntWalk.i64_in _ (by omega)]; omega
      have HML := Lib.hid hmL
      have hmz : ((m : Int) == 0) = false := beq_eq_false_iff_ne.2 (by omega)
      clear hf hla ip hmL
      go_wp2
      clear cf cl
      go_loopw [6, 7] (fun t i wr => ∃ k : Nat, k ≤ m ∧ i = .int .i64 k ∧ t = .int .i64 (s k) ∧ Below w1.heap.size w1 wr) (fun _ i _ => m - (intOf i).toNat)
      case atStart => exact ⟨0, Nat.zero_le _, rfl, by rw [HS0.out], Below.refl _ _⟩
      case round =>
        obtain ⟨k, hk, rfl, rfl, hb⟩ := hrel
        have hsb := HSB.out k (by rw [HML.out]; exact hk)
        by_cases hlt : k < m
        · obtain ⟨hx1, hx2, hx3, hx4, hx5⟩ := HMM.out k (by rw [HML.out]; exact hlt)
          have hsn := HSN.out k (by rw [HML.out]; exact hlt)
          have c1 := (HIP.out.below hb).cell k (by rw [HML.out]; exact hlt)
          have HMX := fun W => HM.out (L.getD k 0) W
          rw [hx3] at HMX
          by_cases hk0 : k = 0
          · subst hk0
            have hq1 : decide ((0 : Int) < 0) = false := rfl
            clear HMM HRI HSB HSN HM
            generalize hz : L.getD 0 0 = z at *
            have HZ := Lib.hid hz
            clear hz
            generalize muA z = u at *
            have HE := Lib.hid hsn
            have d1 : decide (u < -1) = false := decide_eq_false (by omega)
            have d2 : decide (1 < u) = false := decide_eq_false (by omega)
            have d3 : decide (z < 1) = false := decide_eq_false (by omega)
            have d4 : (n % z != 0) = false := by rw [hx2]; rfl
            clear hsn
            go_wp2_with fail
            refine (HMX _).mono ?_
            rintro e w2 ⟨rfl, bb⟩
            have hb2 := hb.trans (bb.mono hb.size)
            have c1 := (HIP.out.below hb2).cell 0 (by rw [HML.out]; exact hlt)
            rw [HZ.out] at c1
            clear HMX
            go_wp2
            go_quiet (fail)
            go_wp2
            go_roundw
            case rel => exact ⟨1, by omega, by go_num, by rw [HE.out], below_drewN hb2 _⟩
            case measure => simp [intOf]; omega
          · obtain ⟨j, rfl⟩ : ∃ j, k = j + 1 := ⟨k - 1, by omega⟩
            have hq1 : decide ((0 : Int) < ((j + 1 : Nat) : Int)) = true := decide_eq_true (by omega)
            have hri := HRI.out j (by rw [HML.out]; exact hlt)
            have hjm : j < L.length := by rw [HML.out]; omega
            have c0 := (HIP.out.below hb).cell j hjm
            clear HMM HRI HSB HSN HM
            generalize hz : L.getD (j + 1) 0 = z at *
            generalize hz0 : L.getD j 0 = z0 at *
            have HZ := Lib.hid hz
            have HZ0 := Lib.hid hz0
            clear hz hz0
            generalize muA z = u at *
            have HE := Lib.hid hsn
            have d1 : decide (u < -1) = false := decide_eq_false (by omega)
            have d2 : decide (1 < u) = false := decide_eq_false (by omega)
            have d3 : decide (z < 1) = false := decide_eq_false (by omega)
            have d4 : (n % z != 0) = false := by rw [hx2]; rfl
            have d5 : decide (z ≤ z0) = false := decide_eq_false (by omega)
            clear hsn
            go_wp2_with fail
            refine (HMX _).mono ?_
            rintro e w2 ⟨rfl, bb⟩
            have hb2 := hb.trans (bb.mono hb.size)
            have c1 := (HIP.out.below hb2).cell (j + 1) (by rw [HML.out]; exact hlt)
            have c0 := (HIP.out.below hb2).cell j hjm
            rw [HZ.out] at c1
            rw [HZ0.out] at c0
            clear HMX
            go_wp2
            go_quiet (fail)
            go_wp2
            go_roundw
            case rel => exact ⟨j + 1 + 1, by omega, by go_num, by rw [HE.out], below_drewN hb2 _⟩
            case measure => simp [intOf]; omega
        · obtain rfl : k = m := by omega
          have hsu := HSU.out
          rw [HML.out] at hsu
          clear HMM HRI HSB HSN HM
          generalize s k = t at *
          by_cases hn1 : n ≤ 1
          · rw [if_pos hn1] at hsu
            subst hsu
            have d1 : decide ((1 : Int) < n) = false := decide_eq_false (by omega)
            go_wp2
            go_ret
            exact ⟨rfl, BB1.trans (hb.mono BB1.size)⟩
          · rw [if_neg hn1] at hsu
            subst hsu
            first
              | (exact absurd (show n ≤ 1 by omega) hn1)
              | (have d1 : decide ((1 : Int) < n) = true := decide_eq_true (by omega)
                 go_wp2
                 go_ret
                 exact ⟨rfl, BB1.trans (hb.mono BB1.size)⟩)
end Go.Proofs.Ytgdoadcpjgbioaa
