/- ReadDecimal, the model's: l01Number answers the number of a decimal form. Condition: at most 2^20 bytes. -/
import Derived.Test.YtjaofiepmhgjiaaDoorNum
namespace Go.Proofs.YtjaofiepmhgjiaaDoor
open Go.RowKit
set_option linter.unusedSimpArgs false
set_option linter.unusedVariables false

def Rd (s : ByteArray) (w : World) (e : Ending) (w' : World) : Prop := ∃ n b, e = .returned (.tuple #[.int .i64 n, .bool b]) ∧ Ans s n b ∧ Below w.heap.size w w'
theorem Rd.no {s : ByteArray} {w w' : World} (h : ∀ m, ¬ Good m s) (hb : Below w.heap.size w w') : Rd s w (.returned (.tuple #[.int .i64 0, .bool false])) w' := ⟨0, false, rfl, Ans.no h, hb⟩
theorem Rd.yes {s : ByteArray} {w w' : World} {n : Int} (h : Good n s) (hb : Below w.heap.size w w') : Rd s w (.returned (.tuple #[.int .i64 n, .bool true])) w' := ⟨n, true, rfl, Ans.yes h, hb⟩

theorem l01Number_empty (w : World) : Calls Tryd.prog 6 #[.string ⟨#[]⟩] w (Rd ⟨#[]⟩ w) := by
  have hno : ∀ m, ¬ Good m ⟨#[]⟩ := fun m h => absurd h.some_size (by decide)
  go_enter Tryd.func6, Tryd.ntmps6
  go_wp2
  go_ret2
  exact Rd.no hno (Below.refl _ _)

/-- what is known of the digits that were read -/
theorem dv_step_lt (t : ByteArray) (k : Nat) (hk : k < t.size) (h18 : t.size ≤ 18) (h : ∀ j (hj : j < t.size), j < k → isD (t[j]'hj)) (hd : isD (t[k]'hk)) :
    dv t k ≤ 99999999999999999 ∧ (dv t (k + 1) : Int) = 10 * (dv t k : Int) + (((t[k]'hk).toNat : Int) - 48) ∧ ∀ j (hj : j < t.size), j < k + 1 → isD (t[j]'hj) := by
  have h1 : ∀ j (hj : j < t.size), j < k + 1 → isD (t[j]'hj) := fun j hj hjk => by
    by_cases e : j = k
    · subst e; exact hd
    · exact h j hj (by omega)
  have h2 := dv_lt t (k + 1) (by omega) (by omega) h1
  have h3 := dv_succ t k hk
  unfold isD at hd
  exact ⟨by omega, by omega, h1⟩
theorem ne_list {x y : ByteArray} (h : ¬ x = y) : (x.toList == y.toList) = false := by
  rw [ByteArray.toList_eq, ByteArray.toList_eq]
  simp only [beq_eq_false_iff_ne]
  exact fun e => h (ByteArray.ext (Array.toList_inj.1 e))

theorem l01Number_plain (s : ByteArray) (w : World) (hs : s.size ≤ 1048576) (h0 : 0 < s.size) (hc0 : (s[0]'h0).toNat ≠ 45) : Calls Tryd.prog 6 #[.string s] w (Rd s w) := by
  have hgood := fun m (h : Good m s) => h.plain h0 hc0
  have hemp : s.toList.isEmpty = false := by
    rw [ByteArray.toList_eq]
    cases he : s.data.toList with
    | nil => have : s.size = 0 := by rw [show s.size = s.data.toList.length by simp, he]; rfl
             omega
    | cons a r => rfl
  have hx0 : ¬ ((s[0]'h0).toNat : Int) = 45 := by omega
  clear hc0
  have HG := Lib.hid hgood
  clear hgood
  go_enter Tryd.func6, Tryd.ntmps6
  by_cases hlen : 1 ≤ s.size ∧ s.size ≤ 18
  · obtain ⟨hl1, hl2⟩ := hlen
    go_wp2
    clear hemp hx0
    go_loopw [5, 6] (fun n i wr => ∃ k : Nat, k ≤ s.size ∧ i = .int .i64 k ∧ n = .int .i64 (dv s k) ∧ Hid (∀ j (hj : j < s.size), j < k → isD (s[j]'hj)) ∧ Below w.heap.size w wr) (fun _ i _ => s.size - (intOf i).toNat)
    case atStart => exact ⟨0, Nat.zero_le _, rfl, rfl, fun j hj h => absurd h (Nat.not_lt_zero _), Below.refl _ _⟩
    case round =>
      obtain ⟨k, hk, rfl, rfl, hall, hb⟩ := hrel
      by_cases hlt : k < s.size
      · have hbk : ((s[k]'hlt).toNat : Int) ≤ 255 := by have := (s[k]'hlt).toNat_lt; omega
        by_cases hd : isD (s[k]'hlt)
        · obtain ⟨g1, g2, g3⟩ := dv_step_lt s k hlt hl2 hall.out hd
          have hd1 : (48 : Int) ≤ ((s[k]'hlt).toNat : Int) := by have := hd.1; omega
          have hd2 : ((s[k]'hlt).toNat : Int) ≤ 57 := by have := hd.2; omega
          have G2 := Lib.hid g2
          have G3 := Lib.hid g3
          clear g2 g3 hd
          generalize hdv : dv s k = d at *
          go_wp2
          go_roundw
          case rel => exact ⟨k + 1, by omega, by go_num, by rw [G2.out], G3, hb⟩
          case measure => simp [intOf]; omega
        · have hno : ∀ m, ¬ Good m s := fun m h => hd ((HG.out m h).2.2.1 k hlt)
          have hbad : ((s[k]'hlt).toNat : Int) < 48 ∨ (57 : Int) < ((s[k]'hlt).toNat : Int) := by unfold isD at hd; omega
          clear hd
          rcases hbad with hbad | hbad
          · go_wp2
            go_ret2
            exact Rd.no hno hb
          · have hd2 : decide (((s[k]'hlt).toNat : Int) ≤ 57) = false := decide_eq_false (by omega)
            have hd1 : (48 : Int) ≤ ((s[k]'hlt).toNat : Int) := by omega
            go_wp2
            go_ret2
            exact Rd.no hno hb
      · obtain rfl : k = s.size := by omega
        have hub := dv_lt s s.size (Nat.le_refl _) hl2 hall.out
        have hG : ∀ m, Good m s → m = (dv s s.size : Int) := fun m h => (HG.out m h).2.2.2
        clear hall
        generalize dv s s.size = d at *
        have HC := fun W => l01Dec_any ((d : Int)) W (by omega) (by omega)
        have HG2 := Lib.hid hG
        clear hG
        by_cases he : decS ((d : Int)) = s
        · have hgd : Good ((d : Int)) s := ⟨by omega, by omega, he⟩
          rw [he] at HC
          clear he
          go_wp2_with fail
          refine (HC _).mono ?_
          rintro e w1 ⟨rfl, b1⟩
          go_wp2
          go_ret2
          exact Rd.yes hgd (hb.trans (b1.mono hb.size))
        · have hno : ∀ m, ¬ Good m s := fun m h => he (by rw [← HG2.out m h]; exact h.2.2)
          have hq := ne_list he
          generalize decS ((d : Int)) = x at *
          clear he
          go_wp2_with fail
          refine (HC _).mono ?_
          rintro e w1 ⟨rfl, b1⟩
          go_wp2
          go_ret2
          exact Rd.no hno (hb.trans (b1.mono hb.size))
  · have hno : ∀ m, ¬ Good m s := fun m h => by have := HG.out m h; omega
    have hbad : s.size < 1 ∨ 18 < s.size := by omega
    clear hlen
    rcases hbad with hbad | hbad
    · omega
    · go_wp2
      go_ret2
      exact Rd.no hno (Below.refl _ _)

theorem l01Number_minus (s : ByteArray) (w : World) (hs : s.size ≤ 1048576) (h0 : 0 < s.size) (hc0 : (s[0]'h0).toNat = 45) : Calls Tryd.prog 6 #[.string s] w (Rd s w) := by
  have hgood := fun m (h : Good m s) => h.minus h0 hc0
  have hemp : s.toList.isEmpty = false := by
    rw [ByteArray.toList_eq]
    cases he : s.data.toList with
    | nil => have : s.size = 0 := by rw [show s.size = s.data.toList.length by simp, he]; rfl
             omega
    | cons a r => rfl
  have hx0 : ((s[0]'h0).toNat : Int) = 45 := by omega
  have hts : (s.extract 1 s.size).size = s.size - 1 := by rw [ByteArray.size_extract]; omega
  clear hc0
  generalize htt : s.extract 1 s.size = t at *
  have HT := Lib.hid hts
  have hti : (t.size : Int) < (s.size : Int) := by omega
  have hti2 : t.size < s.size := by omega
  clear hts
  have HG := Lib.hid hgood
  clear hgood
  go_enter Tryd.func6, Tryd.ntmps6
  by_cases hlen : 1 ≤ t.size ∧ t.size ≤ 18
  · obtain ⟨hl1, hl2⟩ := hlen
    go_wp2
    clear hemp hx0
    go_loopw [5, 6] (fun n i wr => ∃ k : Nat, k ≤ t.size ∧ i = .int .i64 k ∧ n = .int .i64 (dv t k) ∧ Hid (∀ j (hj : j < t.size), j < k → isD (t[j]'hj)) ∧ Below w.heap.size w wr) (fun _ i _ => t.size - (intOf i).toNat)
    case atStart => exact ⟨0, Nat.zero_le _, rfl, rfl, fun j hj h => absurd h (Nat.not_lt_zero _), Below.refl _ _⟩
    case round =>
      obtain ⟨k, hk, rfl, rfl, hall, hb⟩ := hrel
      by_cases hlt : k < t.size
      · have hbk : ((t[k]'hlt).toNat : Int) ≤ 255 := by have := (t[k]'hlt).toNat_lt; omega
        by_cases hd : isD (t[k]'hlt)
        · obtain ⟨g1, g2, g3⟩ := dv_step_lt t k hlt hl2 hall.out hd
          have hd1 : (48 : Int) ≤ ((t[k]'hlt).toNat : Int) := by have := hd.1; omega
          have hd2 : ((t[k]'hlt).toNat : Int) ≤ 57 := by have := hd.2; omega
          have G2 := Lib.hid g2
          have G3 := Lib.hid g3
          clear g2 g3 hd
          generalize hdv : dv t k = d at *
          go_wp2
          go_roundw
          case rel => exact ⟨k + 1, by omega, by go_num, by rw [G2.out], G3, hb⟩
          case measure => simp [intOf]; omega
        · have hno : ∀ m, ¬ Good m s := fun m h => hd ((HG.out m h).2.2.1 k hlt)
          have hbad : ((t[k]'hlt).toNat : Int) < 48 ∨ (57 : Int) < ((t[k]'hlt).toNat : Int) := by unfold isD at hd; omega
          clear hd
          rcases hbad with hbad | hbad
          · go_wp2
            go_ret2
            exact Rd.no hno hb
          · have hd2 : decide (((t[k]'hlt).toNat : Int) ≤ 57) = false := decide_eq_false (by omega)
            have hd1 : (48 : Int) ≤ ((t[k]'hlt).toNat : Int) := by omega
            go_wp2
            go_ret2
            exact Rd.no hno hb
      · obtain rfl : k = t.size := by omega
        have hub := dv_lt t t.size (Nat.le_refl _) hl2 hall.out
        have hG : ∀ m, Good m s → m = -(dv t t.size : Int) := fun m h => (HG.out m h).2.2.2
        clear hall
        generalize dv t t.size = d at *
        have HC := fun W => l01Dec_any (-(d : Int)) W (by omega) (by omega)
        have HG2 := Lib.hid hG
        clear hG
        by_cases he : decS (-(d : Int)) = s
        · have hgd : Good (-(d : Int)) s := ⟨by omega, by omega, he⟩
          rw [he] at HC
          clear he
          go_wp2_with fail
          refine (HC _).mono ?_
          rintro e w1 ⟨rfl, b1⟩
          go_wp2
          go_ret2
          exact Rd.yes hgd (hb.trans (b1.mono hb.size))
        · have hno : ∀ m, ¬ Good m s := fun m h => he (by rw [← HG2.out m h]; exact h.2.2)
          have hq := ne_list he
          generalize decS (-(d : Int)) = x at *
          clear he
          go_wp2_with fail
          refine (HC _).mono ?_
          rintro e w1 ⟨rfl, b1⟩
          go_wp2
          go_ret2
          exact Rd.no hno (hb.trans (b1.mono hb.size))
  · have hno : ∀ m, ¬ Good m s := fun m h => by have := HG.out m h; omega
    have hbad : t.size < 1 ∨ 18 < t.size := by omega
    clear hlen
    rcases hbad with hbad | hbad
    · go_wp2
      go_ret2
      exact Rd.no hno (Below.refl _ _)
    · go_wp2
      go_ret2
      exact Rd.no hno (Below.refl _ _)

theorem l01Number_any (s : ByteArray) (w : World) (hs : s.size ≤ 1048576) : Calls Tryd.prog 6 #[.string s] w (Rd s w) := by
  by_cases h0 : 0 < s.size
  · by_cases hc : (s[0]'h0).toNat = 45
    · exact l01Number_minus s w hs h0 hc
    · exact l01Number_plain s w hs h0 hc
  · have : s = ⟨#[]⟩ := ByteArray.ext (Array.eq_empty_of_size_eq_zero (by show s.size = 0; omega))
    subst this
    exact l01Number_empty w
theorem readDecimal_spec (s : ByteArray) (w : World) (hs : s.size ≤ 1048576) : Calls Tryd.prog 4 #[.string s] w (Rd s w) := by
  have HC := l01Number_any s w hs
  go_enter Tryd.func4, Tryd.ntmps4
  go_wp2_with fail
  refine HC.mono ?_
  rintro e w1 ⟨n, b, rfl, ha, hb⟩
  go_wp2
  go_ret2
  exact ⟨n, b, rfl, ha, hb⟩
end Go.Proofs.YtjaofiepmhgjiaaDoor
