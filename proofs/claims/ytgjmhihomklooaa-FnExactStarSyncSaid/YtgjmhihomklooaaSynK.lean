/- Synchronous patterns, the program's, third part: SyncClash, ValidSync. No conditions. -/
import Derived.Test.YtgjmhihomklooaaSynJ
import Derived.Outline
namespace Go.Proofs.Ytgjmhihomklooaa
open Go.RowKit
set_option linter.unusedSimpArgs false
set_option linter.unusedVariables false

set_option maxRecDepth 10000 in
theorem index_hit (g n cap B i : Nat) (x : Int) (L : List Int) (w : World) (h : Ints w B (.slice (some ⟨g, 0, none⟩) n cap) L) (hg : g < w.heap.size) (hn : n = L.length) (hn2 : n ≤ 1000000) (hi : i < n) (he : L.getD i 0 = x) (hlt : ∀ j, j < i → L.getD j 0 ≠ x) :
    Calls Try.prog 88 #[.slice (some ⟨g, 0, none⟩) n cap, .int .i64 x] w fun e w' => e = .returned (.int .i64 i) ∧ Below w.heap.size w w' := by
  have HC := Lib.hid (fun j (hj : j < n) => h.cell j (by omega))
  have HLT := Lib.hid hlt
  have HE := Lib.hid he
  clear h hn hlt he
  go_enter Try.func88, Try.ntmps88
  go_wp2
  go_loopw [8] (fun m wr => ∃ k : Nat, k ≤ i ∧ m = .int .i64 k ∧ Below w.heap.size w wr) (fun m _ => n - (intOf m).toNat)
  case atStart => exact ⟨0, Nat.zero_le _, rfl, Below.refl _ _⟩
  case round =>
    obtain ⟨k, hk, rfl, hb⟩ := hrel
    have hkn : k < n := by omega
    have hc := (hb.cell (p := ⟨g, k, none⟩) hg).trans (HC.out k hkn)
    by_cases hlt : k < i
    · have hne : (x == L.getD k 0) = false := by
        have := HLT.out k hlt
        simp only [beq_eq_false_iff_ne]
        exact fun e => this e.symm
      have hne2 : (L.getD k 0 == x) = false := by
        have := HLT.out k hlt
        simpa using this
      clear HC HLT HE
      generalize L.getD k 0 = y at *
      go_wp2
      go_roundw
      case rel => exact ⟨k + 1, by omega, by go_num, hb⟩
      case measure => simp [intOf]; omega
    · obtain rfl : k = i := by omega
      rw [HE.out] at hc
      clear HC HLT HE
      go_wp2
      go_ret
      exact ⟨rfl, hb⟩

/-- has one of the first landings this number? -/
def visB (h : Nat → Int) (k : Nat) (j : Nat) : Bool := (List.range k).any fun a => h a == (j : Int)
def visL (h : Nat → Int) (k : Nat) : List Value := (List.range 12).map fun j => .bool (visB h k j)
theorem visL_len (h : Nat → Int) (k : Nat) : (visL h k).length = 12 := by simp [visL]
theorem visL_at (h : Nat → Int) (k j : Nat) (hj : j < 12) : (visL h k)[j]? = some (.bool (visB h k j)) := by simp [visL, hj]
theorem visL_zero (h : Nat → Int) : visL h 0 = [.bool false, .bool false, .bool false, .bool false, .bool false, .bool false, .bool false, .bool false, .bool false, .bool false, .bool false, .bool false] := by
  simp [visL, visB, List.range_succ]
theorem visL_step (h : Nat → Int) (k j : Nat) (hj : h k = (j : Int)) (h12 : j < 12) : (visL h k).set j (.bool true) = visL h (k + 1) := by
  apply List.ext_getElem?
  intro i
  by_cases hi : i < 12
  · by_cases e : i = j
    · subst e
      rw [visL_at h (k + 1) i hi, List.getElem?_set_self (by rw [visL_len]; exact hi)]
      simp [visB, List.range_succ, hj]
    · rw [List.getElem?_set_ne (Ne.symm e), visL_at h k i hi, visL_at h (k + 1) i hi]
      have : ¬ ((h k) = (i : Int)) := by omega
      simp [visB, List.range_succ, this]
  · rw [List.getElem?_eq_none (by simp [visL_len]; omega), List.getElem?_eq_none (by rw [visL_len]; omega)]
theorem visB_true {h : Nat → Int} {k j : Nat} (hv : visB h k j = true) : ∃ a, a < k ∧ h a = (j : Int) := by
  simp only [visB, List.any_eq_true, List.mem_range, beq_iff_eq] at hv
  exact hv
theorem visB_false {h : Nat → Int} {k j : Nat} (hv : visB h k j = false) : ∀ a, a < k → h a ≠ (j : Int) := by
  intro a ha e
  have : visB h k j = true := by
    simp only [visB, List.any_eq_true, List.mem_range, beq_iff_eq]
    exact ⟨a, ha, e⟩
  rw [this] at hv; cases hv

set_option maxRecDepth 10000 in
set_option maxHeartbeats 400000 in
theorem syncClash_core (g cap n : Nat) (h : Nat → Int) (x y z : Int) (w : World) (hn1 : 1 ≤ n) (hn9 : n ≤ 6)
    (HO : Calls Try.prog 84 #[.slice (some ⟨g, 0, none⟩) n cap] w fun e w' => e = .returned (.bool true) ∧ Below w.heap.size w w')
    (HL : ∀ W, Below w.heap.size w W → Calls Try.prog 87 #[.slice (some ⟨g, 0, none⟩) n cap] W fun e w' => ∃ b c, e = .returned (.slice (some ⟨b, 0, none⟩) (2 * n) c) ∧ Ints w' W.heap.size (.slice (some ⟨b, 0, none⟩) (2 * n) c) ((List.range (2 * n)).map h) ∧ Below W.heap.size W w')
    (hb : ∀ k, 0 ≤ h k ∧ h k < 2 * (n : Int)) (hd : distinct h (2 * n) → x = -1 ∧ y = -1 ∧ z = 0)
    (hs : ∀ i k, k < 2 * n → i < k → distinct h k → h i = h k → (∀ j, j < i → h j ≠ h k) → x = (i : Int) ∧ y = (k : Int) ∧ z = 9) :
    Calls Try.prog 36 #[.slice (some ⟨g, 0, none⟩) n cap] w fun e w' => e = .returned (.tuple #[.int .i64 x, .int .i64 y, .int .i64 z]) ∧ Below w.heap.size w w' := by
  have HB := Lib.hid hb
  have HD := Lib.hid hd
  have HS := Lib.hid hs
  clear hb hd hs
  have HLE : Hid (((List.range (2 * n)).map h).length = 2 * n) := by unfold Hid; simp
  have HAT := Lib.hid (fun k (hk : k < 2 * n) => show ((List.range (2 * n)).map h).getD k 0 = h k from by simp [hk])
  generalize (List.range (2 * n)).map h = L at *
  go_enter Try.func36, Try.ntmps36
  go_wp2_with fail
  refine HO.mono ?_
  rintro e w1 ⟨rfl, b1⟩
  clear HO
  go_wp2_with fail
  refine (HL _ b1).mono ?_
  rintro e w2 ⟨b, c, rfl, i2, b2⟩
  clear HL
  have hz1 := b1.size
  have hz2 := b2.size
  have HC := Lib.hid (fun k (hk : k < 2 * n) => show w2.cell? ⟨b, k, none⟩ = some (.int .i64 (h k)) from by
    rw [← HAT.out k hk]
    exact i2.cell k (by rw [HLE.out]; exact hk))
  have hbl : b < w2.heap.size := by
    rcases i2.shape with ⟨e, _⟩ | ⟨g', c', e, _, h3, _⟩
    · simp at e
    · simp at e; omega
  have I2 := Lib.hid i2
  have V0 : Blk (w2.alloc (.cells #[.bool false, .bool false, .bool false, .bool false, .bool false, .bool false, .bool false, .bool false, .bool false, .bool false, .bool false, .bool false] 110)) w2.heap.size (visL h 0) 110 := by
    rw [visL_zero]
    exact Blk.made _ _ _
  have B0 := b1.trans (b2.mono hz1)
  clear i2 b1 b2
  go_wp2
  go_loopw [18] (fun m wr => ∃ k : Nat, k ≤ 2 * n ∧ m = .int .i64 k ∧ Hid (distinct h k) ∧ Blk wr w2.heap.size (visL h k) 110 ∧ Below w2.heap.size w2 wr) (fun m _ => 2 * n - (intOf m).toNat)
  case atStart => exact ⟨0, Nat.zero_le _, rfl, fun a b _ hb => absurd hb (Nat.not_lt_zero _), V0, below_al (Below.refl _ _) _⟩
  case round =>
    clear V0
    obtain ⟨k, hk, rfl, hd, hV, hb⟩ := hrel
    by_cases hlt : k < 2 * n
    · have hlt' : (k : Int) < 2 * (n : Int) := by omega
      have hck := (hb.cell (p := ⟨b, k, none⟩) hbl).trans (HC.out k hlt)
      have hbd := HB.out k
      obtain ⟨j, hj⟩ : ∃ j : Nat, h k = (j : Int) := ⟨(h k).toNat, by omega⟩
      have hj12 : j < 12 := by omega
      rw [hj] at hck hbd
      have hvc := hV.cell j
      rw [visL_at h k j hj12] at hvc
      have hvf := hV.free j
      have HJ := Lib.hid hj
      cases hv : visB h k j with
      | true =>
        obtain ⟨i, hik, hi⟩ := visB_true hv
        obtain ⟨ex, ey, ez⟩ := HS.out i k hlt hik hd.out (by rw [hi, hj]) fun t ht => by
          have := hd.out t i ht hik
          rw [hj, ← hi]; exact this
        have EX := Lib.hid ex
        have EY := Lib.hid ey
        have EZ := Lib.hid ez
        have HI := Lib.hid (fun W (hW : Below w2.heap.size w2 W) => index_hit b (2 * n) c w1.heap.size i (j : Int) L W (I2.out.below hW) (by have := hW.size; omega) HLE.out.symm (by omega) (by omega) (by rw [HAT.out i (by omega), hi]) (fun t ht => by
          rw [HAT.out t (by omega), ← hi]
          exact hd.out t i ht hik))
        rw [hv] at hvc
        clear HB HD HS HC HAT HLE I2 ex ey ez hj hi hv hd hV HJ
        go_wp2_with (go_at_call 88; refine (HI.out _ hb).mono ?_; rintro e w3 ⟨rfl, b3⟩)
        have b4 := B0.trans ((hb.trans (b3.mono hb.size)).mono (by omega))
        clear HI b3 hb
        go_wp2
        go_ret3
        exact ⟨by rw [EX.out, EY.out, EZ.out]; rfl, b4⟩
      | false =>
        have HDN : Hid (distinct h (k + 1)) := fun a b' hab hb' => by
          by_cases e : b' = k
          · subst e
            rw [hj]
            exact visB_false hv a hab
          · exact hd.out a b' hab (by omega)
        have hVN := hV.set j (.bool true)
        rw [visL_step h k j hj hj12] at hVN
        have HVN := Lib.hid hVN
        have hbn := hb.setCell (p := ⟨w2.heap.size, j, none⟩) (Nat.le_refl _) (.bool true)
        rw [hv] at hvc
        clear HB HD HS HC HAT HLE I2 hj hv hd hV HJ hVN hb
        go_wp2
        go_roundw
        case rel => exact ⟨k + 1, by omega, by go_num, HDN, HVN.out, hbn⟩
        case measure => simp [intOf]; omega
    · obtain rfl : k = 2 * n := by omega
      obtain ⟨ex, ey, ez⟩ := HD.out hd.out
      have EX := Lib.hid ex
      have EY := Lib.hid ey
      have EZ := Lib.hid ez
      have hb3 := B0.trans (hb.mono (by omega))
      clear HB HD HS HC I2 hV hd ex ey ez HAT HLE
      go_wp2
      go_ret3
      exact ⟨by rw [EX.out, EY.out, EZ.out]; rfl, hb3⟩

set_option maxRecDepth 10000 in
theorem syncClash_bad (v : Value) (B : Nat) (p : List Syn) (w : World) (h : Syns w B v p) (hok : okSL p = false) :
    Calls Try.prog 36 #[v] w fun e w' => e = .returned (.tuple #[.int .i64 0, .int .i64 0, .int .i64 1]) ∧ Below w.heap.size w w' := by
  have HO := sList_any v B p w h
  rw [hok] at HO
  clear h hok
  go_enter Try.func36, Try.ntmps36
  go_wp2_with fail
  refine HO.mono ?_
  rintro e w1 ⟨rfl, b1⟩
  clear HO
  go_wp2
  go_ret3
  exact ⟨rfl, b1⟩

theorem syncClash_impl (v : Value) (B : Nat) (p : List Syn) (w : World) (h : Syns w B v p) :
    Calls Try.prog 36 #[v] w fun e w' => e = .returned (.tuple #[.int .i64 (scA p), .int .i64 (scB p), .int .i64 (scC p)]) ∧ Below w.heap.size w w' := by
  cases hok : okSL p with
  | false =>
    obtain ⟨e1, e2, e3⟩ := sc_bad hok
    rw [e1, e2, e3]
    exact syncClash_bad v B p w h hok
  | true =>
    obtain ⟨e1, e2, e3⟩ := sc_good hok
    rw [e1, e2, e3]
    have hl := okSL_len hok
    obtain ⟨g, cap, rfl, _, hg, _, _⟩ := h.shape2 hl.1
    have HO := sList_any _ B p w h
    rw [hok] at HO
    refine syncClash_core g cap p.length (lndS p) _ _ _ w hl.1 hl.2 HO (fun W hW => landings_row g cap p.length p W hl.1 hl.2 rfl (by have := hW.size; omega) (h.beats.below hW hg) hok) (fun k => lndS_bound hok k) ?_ ?_
    · intro hd
      rw [clash_none hd]
      exact ⟨rfl, rfl, rfl⟩
    · intro i k hk hi hd he hlt
      rw [clash_some hk hi hd he hlt]
      exact ⟨rfl, rfl, rfl⟩

set_option maxRecDepth 10000 in
theorem validSync_impl (v : Value) (B : Nat) (p : List Syn) (w : World) (h : Syns w B v p) :
    Calls Try.prog 41 #[v] w fun e w' => e = .returned (.bool (okS p)) ∧ Below w.heap.size w w' := by
  have HC := syncClash_impl v B p w h
  rw [← scC_ok p]
  clear h
  generalize scA p = x at *
  generalize scB p = y at *
  generalize scC p = z at *
  go_enter Try.func41, Try.ntmps41
  go_wp2_with fail
  refine HC.mono ?_
  rintro e w1 ⟨rfl, b1⟩
  clear HC
  go_wp2
  go_ret
  exact ⟨rfl, b1⟩
end Go.Proofs.Ytgjmhihomklooaa
