/- The props in order, the model's and the program's: both answer the plain mathematics. No conditions but a pattern and at most 201 beats. -/
import Derived.Test.YtmmkeihcjpnpjaaOdA
import Derived.Test.YtmmkeihcjpnpjaaSpec02b
import Derived.Test.YtmmkeihcjpnpjaaImpl02b
import Derived.Test.YtmmkeihcjpnpjaaSees
namespace Go.Proofs.Ytmmkeihcjpnpjaa
open Go.RowKit
set_option linter.unusedSimpArgs false
set_option linter.unusedVariables false

theorem ints_slOd {w : World} {B : Nat} {v : Value} {xs : List Int} (h : Ints w B v xs) : ∃ a cap, v = .slice a xs.length cap := by
  rcases h.shape with ⟨rfl, rfl⟩ | ⟨g, cap, rfl, _⟩
  · exact ⟨_, _, rfl⟩
  · exact ⟨_, _, rfl⟩

theorem fillNext (L : List Int) (n k : Nat) (y : Int) (hl : L.length = k) (hk : k < n) : (L ++ List.replicate (n - k) 0).set k y = (L ++ [y]) ++ List.replicate (n - (k + 1)) 0 := by
  rw [show n - k = (n - (k + 1)) + 1 from by omega, List.replicate_succ, List.set_append_right _ _ (by omega), hl, Nat.sub_self, List.set_cons_zero, List.append_assoc]
  rfl

set_option maxRecDepth 10000 in
set_option maxHeartbeats 1000000 in
theorem l13Order_any (v : Value) (B : Nat) (p : List Int) (n : Nat) (w : World) (h : Ints w B v p) (hok : okPat p = true) (hn : n ≤ 201) :
    Calls Try.prog 67 #[v, .int .i64 n] w fun e w' => ∃ u, e = .returned u ∧ Ints w' w.heap.size u (ordA p n) ∧ Below w.heap.size w w' := by
  obtain ⟨l1, l2⟩ := okPat_len hok
  have HFrom := Lib.hid (fun (k : Nat) W (hW : Below w.heap.size w W) (hk : k < n) => l02From_any v B p (k : Int) W (h.below hW) (okPat_list hok) (by omega) (by omega))
  have HAt := Lib.hid (fun (k : Nat) W (hW : Below w.heap.size w W) (hk : k < n) => l02At_any v B p (k : Int) W (h.below hW) l1 (by omega) (by omega) (by omega))
  have HZ := Lib.hid (fun k => ord_zero (p := p) (k := k))
  have HN := Lib.hid (fun k => ord_new (p := p) (k := k))
  have HO := Lib.hid (fun k => ord_old (p := p) (k := k))
  have HB := Lib.hid (fun (k : Nat) (hk : ¬ atL p (k : Int) = 0) => from_before hok hk)
  have HL := Lib.hid (fun k => ordA_len p k)
  have HM := Lib.hid (fun k => ordN_le p k)
  obtain ⟨xa, xc, rfl⟩ := ints_slOd h
  clear h hok
  go_enter Try.func67, Try.ntmps67
  go_wp2
  go_loopw [5, 6, 7] (fun v c i wr => ∃ k : Nat, k ≤ n ∧ i = .int .i64 k ∧ c = .int .i64 (ordN p k) ∧ Ints wr w.heap.size v (ordA p k) ∧ Below w.heap.size w wr) (fun _ _ i _ => n - (intOf i).toNat)
  case atStart =>
    refine ⟨0, Nat.zero_le _, rfl, rfl, ?_, (Below.refl _ _).alloc (Nat.le_refl _) _⟩
    exact World.ownsRow_lit w #[] 0 (Nat.le_refl _) (by simp [maxLen]) rfl
  case round =>
    obtain ⟨k, hk, rfl, rfl, hi, hb⟩ := hrel
    by_cases hlt : k < n
    · have HA := HAt.out k wr hb hlt
      have hlen := HL.out k
      have hnl := HM.out k
      have hBs := hb.size
      by_cases hz : atL p (k : Int) = 0
      · obtain ⟨e1, e2⟩ := HZ.out k hz
        have E1 := Lib.hid e1
        have E2 := Lib.hid e2
        rw [hz] at HA
        clear HFrom HAt HZ HN HO HB HL HM e1 e2 hz
        generalize ordN p k = c at *
        go_wp2_with fail
        refine HA.mono ?_
        rintro e w1 ⟨rfl, rfl⟩
        go_wp2_with (at_builtin; refine append_int _ rfl _ _ rfl _ _ _ rfl hi (-1) rfl (by omega) hBs ?_; intro v' w2 hi2 hg2; refine Hid.out ?_)
        have hb2 := hi.below_grown hb hBs hg2
        rw [← E1.out] at hi2
        clear hg2 hi hb
        refine Lib.hid ?_
        go_wp2
        go_roundw
        case rel => exact ⟨k + 1, by omega, by go_num, by rw [E2.out], hi2, hb2⟩
        case measure => simp [intOf]; omega
      · have hbe := HB.out k hz
        have HF := HFrom.out k wr hb hlt
        by_cases hneg : fromL p (k : Int) < 0
        · obtain ⟨e1, e2⟩ := HN.out k hz hneg
          have E1 := Lib.hid e1
          have E2 := Lib.hid e2
          clear HFrom HAt HZ HN HO HB HL HM e1 e2
          have hz' : (atL p (k : Int) == 0) = false := by simpa using hz
          generalize ordN p k = c at *
          generalize atL p (k : Int) = x at *
          generalize fromL p (k : Int) = fr at *
          go_wp2_with fail
          refine HA.mono ?_
          rintro e w1 ⟨rfl, rfl⟩
          go_wp2_with fail
          refine HF.mono ?_
          rintro e w1 ⟨rfl, b1⟩
          have hi1 := hi.below b1
          have hb1 := hb.trans (b1.mono hb.size)
          have hBs1 := hb1.size
          clear HF HA hi hb
          go_wp2_with (at_builtin; refine append_int _ rfl _ _ rfl _ _ _ rfl hi1 (c : Int) rfl (by omega) hBs1 ?_; intro v' w2 hi2 hg2; refine Hid.out ?_)
          have hb2 := hi1.below_grown hb1 hBs1 hg2
          rw [← E1.out] at hi2
          clear hg2 hi1 hb1
          refine Lib.hid ?_
          go_wp2
          go_roundw
          case rel => exact ⟨k + 1, by omega, by go_num, by rw [E2.out]; go_num, hi2, hb2⟩
          case measure => simp [intOf]; omega
        · obtain ⟨e1, e2⟩ := HO.out k hz (by omega)
          have E1 := Lib.hid e1
          have E2 := Lib.hid e2
          obtain ⟨fr, hfr⟩ : ∃ fr : Nat, fromL p (k : Int) = fr := ⟨(fromL p (k : Int)).toNat, by omega⟩
          rw [hfr, Int.toNat_natCast] at E1
          rw [hfr] at HF hbe
          have HK := Lib.hid hlen
          clear HFrom HAt HZ HN HO HB HL HM e1 e2 hneg hfr
          have hz' : (atL p (k : Int) == 0) = false := by simpa using hz
          generalize ordN p k = c at *
          generalize atL p (k : Int) = x at *
          go_wp2_with fail
          refine HA.mono ?_
          rintro e w1 ⟨rfl, rfl⟩
          go_wp2_with fail
          refine HF.mono ?_
          rintro e w1 ⟨rfl, b1⟩
          have hi1 := hi.below b1
          have hb1 := hb.trans (b1.mono hb.size)
          have hBs1 := hb1.size
          obtain ⟨g, cap, rfl, _, hg, hcap, _⟩ := hi1.shape2 (by omega)
          have c1 := hi1.cell fr (by omega)
          rw [hlen]
          rw [hlen] at hi1
          generalize (ordA p k).getD fr 0 = y at *
          clear HF HA hi hb hcap
          go_wp2_with (at_builtin; refine append_int _ rfl _ _ rfl _ _ _ rfl hi1 y rfl (by omega) hBs1 ?_; intro v' w2 hi2 hg2; refine Hid.out ?_)
          have hb2 := hi1.below_grown hb1 hBs1 hg2
          rw [← E1.out] at hi2
          clear hg2 hi1 hb1
          refine Lib.hid ?_
          go_wp2
          go_roundw
          case rel => exact ⟨k + 1, by omega, by go_num, by rw [E2.out], hi2, hb2⟩
          case measure => simp [intOf]; omega
    · obtain rfl : k = n := by omega
      clear HFrom HAt HZ HN HO HB HL HM
      go_wp2
      go_ret
      exact ⟨_, rfl, hi, hb⟩

set_option maxRecDepth 10000 in
set_option maxHeartbeats 1000000 in
theorem propsInOrderM_any (v : Value) (B : Nat) (p : List Int) (n : Nat) (w : World) (h : Ints w B v p) (hok : okPat p = true) (hn : n ≤ 201) :
    Calls Try.prog 58 #[v, .int .i64 n] w fun e w' => ∃ u, e = .returned u ∧ Ints w' w.heap.size u (ordA p n) ∧ Below w.heap.size w w' := by
  obtain ⟨i0, hi, hz0, hz1, hz2⟩ := info_parts Try.info64
  obtain ⟨l1, l2⟩ := okPat_len hok
  have HFrom := Lib.hid (fun (k : Nat) W (hW : Below w.heap.size w W) (hk : k < n) => landsFromM_any v B p (k : Int) W (h.below hW) hok (by omega) (by omega))
  have HAt := Lib.hid (fun (k : Nat) W (hW : Below w.heap.size w W) (hk : k < n) => at_any v B p (k : Int) W (h.below hW) l1 (by omega) (by omega) (by omega))
  have HZ := Lib.hid (fun k => ord_zero (p := p) (k := k))
  have HN := Lib.hid (fun k => ord_new (p := p) (k := k))
  have HO := Lib.hid (fun k => ord_old (p := p) (k := k))
  have HB := Lib.hid (fun (k : Nat) (hk : ¬ atL p (k : Int) = 0) => from_before hok hk)
  have HL := Lib.hid (fun k => ordA_len p k)
  have HM := Lib.hid (fun k => ordN_le p k)
  obtain ⟨xa, xc, rfl⟩ := ints_slOd h
  clear h hok
  go_enter Try.func58, Try.ntmps58
  go_wp2_with (at_make; refine wpList_make_full _ rfl _ _ 24 rfl w.heap.size 2 i0 (.int .i64 0) 1 Try.underlying24 hi hz0 hz1 _ _ _ _ n rfl rfl rfl rfl (by rw [hz2]; omega) (by unfold maxLen; omega) (Nat.le_refl _) ?_)
  intro w1 hown hgr
  have hI : Ints w1 w.heap.size (.slice (some ⟨w.heap.size, 0, none⟩) n n) (ordA p 0 ++ List.replicate (n - 0) 0) := by
    rw [ordA_zero]
    unfold Ints
    simpa [toList_madeCells_one] using hown
  have b1 : Below w.heap.size w w1 := (Below.refl _ _).grown hgr (Nat.le_refl _) (by simp)
  clear hown hgr hi hz0 hz1 hz2
  go_wp2
  go_loopw [6, 12] (fun c i wr => ∃ k : Nat, k ≤ n ∧ i = .int .i64 k ∧ c = .int .i64 (ordN p k) ∧ Ints wr w.heap.size (.slice (some ⟨w.heap.size, 0, none⟩) n n) (ordA p k ++ List.replicate (n - k) 0) ∧ Below w.heap.size w wr) (fun _ i _ => n - (intOf i).toNat)
  case atStart => exact ⟨0, Nat.zero_le _, rfl, rfl, hI, b1⟩
  case round =>
    obtain ⟨k, hk, rfl, rfl, hr, hbr⟩ := hrel
    by_cases hlt : k < n
    · have HA := HAt.out k wr hbr hlt
      have HF := HFrom.out k wr hbr hlt
      have hlen := HL.out k
      have hnl := HM.out k
      have hold := hr.cell k (by simp [hlen]; omega)
      have hfree := hr.free k
      have SET := Lib.hid (fun y => fillNext (ordA p k) n k y hlen hlt)
      by_cases hz : atL p (k : Int) = 0
      · obtain ⟨e1, e2⟩ := HZ.out k hz
        have hn := hr.set k (-1)
        rw [SET.out (-1), ← e1] at hn
        have hbn := hbr.setCell (p := ⟨w.heap.size, k, none⟩) (Nat.le_refl _) (.int .i64 (-1))
        have E2 := Lib.hid e2
        rw [hz] at HA
        clear HFrom HAt HZ HN HO HB HL HM e1 e2 hz SET hI b1 hr hbr
        generalize ordN p k = c at *
        generalize fromL p (k : Int) = fr at *
        go_wp2_with fail
        refine HF.mono ?_
        rintro e w1 ⟨rfl, rfl⟩
        go_wp2_with fail
        refine HA.mono ?_
        rintro e w1 ⟨rfl, rfl⟩
        go_wp2
        go_roundw
        case rel => exact ⟨k + 1, by omega, by go_num, by rw [E2.out], hn, hbn⟩
        case measure => simp [intOf]; omega
      · have hz' : (atL p (k : Int) == 0) = false := by simpa using hz
        have hbe := HB.out k hz
        by_cases hneg : fromL p (k : Int) < 0
        · obtain ⟨e1, e2⟩ := HN.out k hz hneg
          have hn := hr.set k (ordN p k : Nat)
          rw [SET.out, ← e1] at hn
          have hbn := hbr.setCell (p := ⟨w.heap.size, k, none⟩) (Nat.le_refl _) (.int .i64 (ordN p k : Nat))
          have E2 := Lib.hid e2
          clear HFrom HAt HZ HN HO HB HL HM e1 e2 SET hI b1 hr hbr
          generalize ordN p k = c at *
          generalize atL p (k : Int) = x at *
          generalize fromL p (k : Int) = fr at *
          go_wp2_with fail
          refine HF.mono ?_
          rintro e w1 ⟨rfl, rfl⟩
          go_wp2_with fail
          refine HA.mono ?_
          rintro e w1 ⟨rfl, rfl⟩
          go_wp2
          go_roundw
          case rel => exact ⟨k + 1, by omega, by go_num, by rw [E2.out]; go_num, hn, hbn⟩
          case measure => simp [intOf]; omega
        · obtain ⟨e1, e2⟩ := HO.out k hz (by omega)
          obtain ⟨fr, hfr⟩ : ∃ fr : Nat, fromL p (k : Int) = fr := ⟨(fromL p (k : Int)).toNat, by omega⟩
          rw [hfr, Int.toNat_natCast] at e1
          rw [hfr] at HF hbe
          have c1 := hr.cell fr (by simp [hlen]; omega)
          have hg1 : (ordA p k ++ List.replicate (n - k) 0).getD fr 0 = (ordA p k).getD fr 0 := by
            simp [List.getElem?_append_left (show fr < (ordA p k).length by omega)]
          rw [hg1] at c1
          have hn := hr.set k ((ordA p k).getD fr 0)
          rw [SET.out, ← e1] at hn
          have hbn := hbr.setCell (p := ⟨w.heap.size, k, none⟩) (Nat.le_refl _) (.int .i64 ((ordA p k).getD fr 0))
          have E2 := Lib.hid e2
          clear HFrom HAt HZ HN HO HB HL HM e1 e2 SET hI b1 hr hbr hneg hfr hg1
          generalize ordN p k = c at *
          generalize atL p (k : Int) = x at *
          generalize (ordA p k).getD fr 0 = y at *
          go_wp2_with fail
          refine HF.mono ?_
          rintro e w1 ⟨rfl, rfl⟩
          go_wp2_with fail
          refine HA.mono ?_
          rintro e w1 ⟨rfl, rfl⟩
          go_wp2
          go_roundw
          case rel => exact ⟨k + 1, by omega, by go_num, by rw [E2.out], hn, hbn⟩
          case measure => simp [intOf]; omega
    · obtain rfl : k = n := by omega
      rw [Nat.sub_self, List.replicate_zero, List.append_nil] at hr
      clear HFrom HAt HZ HN HO HB HL HM hI b1
      go_wp2
      go_ret
      exact ⟨_, rfl, hr, hbr⟩
end Go.Proofs.Ytmmkeihcjpnpjaa
