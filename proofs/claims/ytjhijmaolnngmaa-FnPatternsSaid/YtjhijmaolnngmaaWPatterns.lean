/- The walk of the law FnPatterns: it returns true. No conditions. -/
import Derived.Test.YtjhijmaolnngmaaDrawD
import Derived.Test.YtjhijmaolnngmaaAid
import Derived.Test.YtjhijmaolnngmaaSame
import Derived.Test.YtjhijmaolnngmaaOrder
import Derived.Test.YtjhijmaolnngmaaLands
import Derived.Test.YtjhijmaolnngmaaHigh
import Derived.Test.YtjhijmaolnngmaaText
import Derived.Test.YtjhijmaolnngmaaRead
import Derived.Test.YtjhijmaolnngmaaImpl02b
import Derived.Test.YtjhijmaolnngmaaOpsLaws
import Derived.Test.YtjhijmaolnngmaaSees
namespace Go.Proofs.Ytjhijmaolnngmaa
open Go.RowKit
set_option linter.unusedSimpArgs false
set_option linter.unusedVariables false

theorem sameL_yes2 {p q : List Int} (h : p = q) : sameL p q = true := by simp [sameL, h]
theorem below_cellset2 {B : Nat} {w wr : World} (h : Below B w wr) {g : Nat} (j : Nat) (hg : B ≤ g) (v : Value) : Below B w (wr.setCell ⟨g, j, none⟩ v) := h.setCell (p := ⟨g, j, none⟩) hg v
/-- a pattern is read back from its text -/
theorem digL_digB {x : Int} (h0 : 0 ≤ x) (h1 : x ≤ 15) : digL ((digB x).toNat : Int) = x := by
  obtain ⟨k, rfl⟩ : ∃ k : Nat, x = k := ⟨x.toNat, by omega⟩
  have hk : k ≤ 15 := by omega
  clear h0 h1
  unfold digB
  by_cases h : (k : Int) < 10
  · rw [if_pos h, Int.toNat_natCast]
    have e : ((UInt8.ofNat (48 + k)).toNat : Int) = 48 + k := by simp; omega
    rw [e, digL_a (by omega)]
    omega
  · rw [if_neg h, Int.toNat_natCast]
    have e : ((UInt8.ofNat (87 + k)).toNat : Int) = 87 + k := by simp; omega
    rw [e, digL_b (by omega)]
    omega
theorem read_text {p : List Int} (h : okPat p = true) : readL (bytesOf (textL p)) = p := by
  have hl : (bytesOf (textL p)).size = p.length := by rw [bytesOf_size, textL_len]
  refine ext_getD (by rw [readL_len, hl]) fun i hi => ?_
  rw [readL_len, hl] at hi
  rw [readL_at _ i (by rw [hl]; exact hi), ← byteAt_is _ i (by rw [hl]; exact hi)]
  have hb := okPat_at h i hi
  have e : (bytesOf (textL p))[i]'(by rw [hl]; exact hi) = digB (p.getD i 0) := by
    show (textL p).toArray[i]'(by simp [textL_len]; exact hi) = _
    simp [textL, hi]
  rw [e]
  exact digL_digB hb.1 hb.2
/-- the beat from which a throw came -/
theorem from_at {p : List Int} (h : okPat p = true) (beat : Int) : fromL p (beat + atL p beat) = beat := by
  have hb := atL_bound h beat
  obtain ⟨t, _, hf, _, hu⟩ := from_spec h (beat + atL p beat)
  have e := hu (atL p beat).toNat (by
    rw [show beat + atL p beat - ((atL p beat).toNat : Int) = beat from by omega]; omega)
  rw [hf]; omega
/-- no pattern has more props than its highest throw -/
theorem props_high {p : List Int} (h : okPat p = true) : p.sum / (p.length : Int) ≤ highA p := by
  obtain ⟨l1, l2⟩ := okPat_len h
  rw [highA_true h]
  have hH : ∀ i, i < p.length → p.getD i 0 ≤ hiF (fun i => p.getD i 0) p.length := fun i hi => hiF_ge (fun i => p.getD i 0) p.length i hi
  generalize hiF (fun i => p.getD i 0) p.length = H at *
  have hs : ∀ k, k ≤ p.length → (p.take k).sum ≤ k * H := by
    intro k
    induction k with
    | zero => intro _; simp
    | succ k ih =>
      intro hk
      have h1 := ih (by omega)
      have h2 := hH k (by omega)
      rw [sum_take k (by omega), Int.natCast_add, Int.add_mul, show ((1 : Nat) : Int) * H = H from by simp]
      omega
  have h3 := hs p.length (Nat.le_refl _)
  rw [List.take_length] at h3
  exact Int.ediv_le_of_le_mul (by omega) (by rw [Int.mul_comm]; exact h3)
theorem Try.infoB : (Try.prog.info? 4).map (fun i => (i.zero, i.size, i.bytes)) = some (some (.bool false), 1, 1) := by kernel_rfl
/-- which landings have been seen -/
def Seen (p : List Int) (k : Nat) (bs : List Bool) : Prop := bs.length = p.length ∧ ∀ x, bs.getD x false = true → ∃ i, i < k ∧ lnd p i = x
theorem Seen.nil (p : List Int) : Seen p 0 (List.replicate p.length false) := ⟨by simp, fun x hx => by
  rw [List.getD_eq_getElem?_getD, List.getElem?_replicate] at hx
  split at hx <;> simp at hx⟩
theorem Seen.new {p : List Int} {k : Nat} {bs : List Bool} (h : Seen p k bs) (hok : okPat p = true) (hk : k < p.length) (a : Nat) (ha : lnd p k = a) : bs.getD a false = false := by
  cases hb : bs.getD a false with
  | false => rfl
  | true =>
    obtain ⟨i, hi, he⟩ := h.2 a hb
    exact absurd (he.trans ha.symm) (okPat_distinct hok i k hi hk)
theorem Seen.more {p : List Int} {k : Nat} {bs : List Bool} (h : Seen p k bs) (a : Nat) (ha : lnd p k = a) (hal : a < p.length) : Seen p (k + 1) (bs.set a true) := by
  refine ⟨by rw [List.length_set]; exact h.1, fun x hx => ?_⟩
  by_cases e : x = a
  · subst e; exact ⟨k, by omega, ha⟩
  · rw [List.getD_eq_getElem?_getD, List.getElem?_set_ne (Ne.symm e), ← List.getD_eq_getElem?_getD] at hx
    obtain ⟨i, hi, he⟩ := h.2 x hx
    exact ⟨i, by omega, he⟩

set_option maxRecDepth 100000 in
set_option maxHeartbeats 4000000 in
theorem walk_FnPatterns (a0 : Option Addr) (len0 cap0 : Nat) (z0 : List Int) (a1 : Option Addr) (len1 cap1 : Nat) (z1 : List Int) (w : World) (r0 : IsRow .u8 w a0 len0 cap0 z0) (r1 : IsRow .u8 w a1 len1 cap1 z1) :
    Calls Try.prog 14 #[.slice a0 len0 cap0, .slice a1 len1 cap1] w fun e w' => e = .returned (.bool true) ∧ Below w.heap.size w w' := by
  have hm0 : len0 ≤ 9223372036854775807 := by have := r0.bytes.2.1; unfold maxLen at this; omega
  have hm1 : len1 ≤ 9223372036854775807 := by have := r1.bytes.2.1; unfold maxLen at this; omega
  have HL := a2Long_any a0 a1 len0 cap0 len1 cap1 w hm0 hm1
  cases hL : longL len0 len1 with
  | true =>
    rw [hL] at HL
    go_enter Try.func14, Try.ntmps14
    go_wp2_with fail
    refine HL.mono ?_
    rintro e w' ⟨rfl, rfl⟩
    go_wp2
    go_ret
    exact ⟨rfl, Below.refl _ _⟩
  | false =>
    rw [hL] at HL
    have hb0 : len0 ≤ 3000 := by simp [longL] at hL; omega
    have hb1 : len1 ≤ 3000 := by simp [longL] at hL; omega
    clear hL hm0 hm1
    have BB := Below.refl w.heap.size w
    go_enter Try.func14, Try.ntmps14
    go_wp2_with fail
    refine HL.mono ?_
    rintro e w' ⟨rfl, rfl⟩
    clear HL
    have rw0 := r1
    have HC := a2Pattern_any a0 len0 cap0 z0 _ r0 hb0
    go_wp2_with fail
    refine HC.mono ?_
    rintro e u1 ⟨v, p, rfl, ip, hok, bb⟩
    clear HC
    replace r1 := r1.below bb
    replace BB := BB.trans (bb.mono BB.size)
    clear bb
    have HOK := Lib.hid hok
    obtain ⟨l1, l2⟩ := okPat_len hok
    have hl : 1 ≤ (p.length : Int) ∧ (p.length : Int) ≤ 12 := by omega
    obtain ⟨P, hP⟩ : ∃ P : Int, p.sum / (p.length : Int) = P := ⟨_, rfl⟩
    have hsb := sum_bound (fun i hi => okPat_at hok i hi) p.length (Nat.le_refl _)
    rw [List.take_length] at hsb
    have hsd := sum_dvd hok
    rw [hP] at hsd
    have hM1 : 0 ≤ P * (p.length : Int) := by rw [← hsd]; exact hsb.1
    have hM2 : P * (p.length : Int) ≤ 1000 := by rw [← hsd]; omega
    have HSD := Lib.hid hsd
    have hPb1 : 0 ≤ P := by rw [← hP]; exact Int.ediv_nonneg hsb.1 (by omega)
    have hPb2 : P ≤ 200 := by rw [← hP]; exact Int.le_trans (Int.ediv_le_self _ hsb.1) (by omega)
    have HP := Lib.hid hP
    obtain ⟨H, hH⟩ : ∃ H, H = highA p := ⟨_, rfl⟩
    have hPH : ¬ H < P := by have := props_high hok; rw [← hH, hP] at this; omega
    have HH := Lib.hid hH
    have HRT : Hid (readL (textA p) = p) := by show readL (textA p) = p; rw [textA_true hok]; exact read_text hok
    have HTS : Hid ((textA p).size ≤ 1048576) := by show (textA p).size ≤ 1048576; rw [textA_true hok, bytesOf_size, textL_len]; omega
    clear hok r0 hP hH hsb hsd
    obtain ⟨g, cap, rfl, _, _, _, _⟩ := ip.shape2 l1
    have HC := landingBeats_impl _ _ p _ ip
    rw [okC_true HOK.out, landsA_true HOK.out] at HC
    go_wp2_with fail
    refine HC.mono ?_
    rintro e u2 ⟨ul, rfl, il, bb⟩
    clear HC
    replace r1 := r1.below bb
    replace ip := ip.below bb
    replace BB := BB.trans (bb.mono BB.size)
    clear bb
    obtain ⟨gl, cl, hul, _, hgl, _, _⟩ := il.shape2 (by rw [lndL_len]; exact l1)
    rw [lndL_len] at hul
    subst hul
    have HC := propsOf_impl _ _ p _ ip
    rw [propsA_true HOK.out, okC_true HOK.out, HP.out] at HC
    go_wp2_with fail
    refine HC.mono ?_
    rintro e u3 ⟨rfl, bb⟩
    clear HC
    replace r1 := r1.below bb
    replace ip := ip.below bb
    replace il := il.below bb
    replace BB := BB.trans (bb.mono BB.size)
    clear bb
    have HC := highestOf_impl _ _ p _ ip
    rw [okC_true HOK.out, ← HH.out] at HC
    go_wp2_with fail
    refine HC.mono ?_
    rintro e u4 ⟨rfl, bb⟩
    clear HC
    replace r1 := r1.below bb
    replace ip := ip.below bb
    replace il := il.below bb
    replace BB := BB.trans (bb.mono BB.size)
    clear bb
    have HC := patternText_impl _ _ p _ ip
    go_wp2_with fail
    refine HC.mono ?_
    rintro e u5 ⟨rfl, bb⟩
    clear HC
    replace r1 := r1.below bb
    replace ip := ip.below bb
    replace il := il.below bb
    replace BB := BB.trans (bb.mono BB.size)
    clear bb
    have HC := readPattern_impl (textA p) u5 HTS.out
    rw [readA_true (by rw [HRT.out]; exact HOK.out), HRT.out, HOK.out] at HC
    go_wp2_with fail
    refine HC.mono ?_
    rintro e u6 ⟨ur, rfl, ir, bb⟩
    clear HC
    replace r1 := r1.below bb
    replace ip := ip.below bb
    replace il := il.below bb
    replace BB := BB.trans (bb.mono BB.size)
    clear bb
    have HC := a2Sum_any _ _ _ _ ip (okPat_list HOK.out)
    rw [HSD.out] at HC
    go_wp2_with fail
    refine HC.mono ?_
    rintro e _ ⟨rfl, rfl⟩
    clear HC
    have HC := a2Same_any _ _ _ _ _ _ _ ir ip
    rw [sameL_yes2 rfl] at HC
    go_wp2_with fail
    refine HC.mono ?_
    rintro e u8 ⟨rfl, bb⟩
    clear HC
    replace r1 := r1.below bb
    replace ip := ip.below bb
    replace il := il.below bb
    replace ir := ir.below bb
    replace BB := BB.trans (bb.mono BB.size)
    clear bb
    have HC := validPattern_impl _ _ _ _ ip
    rw [HOK.out] at HC
    go_wp2_with fail
    refine HC.mono ?_
    rintro e u9 ⟨rfl, bb⟩
    clear HC
    replace r1 := r1.below bb
    replace ip := ip.below bb
    replace il := il.below bb
    replace ir := ir.below bb
    replace BB := BB.trans (bb.mono BB.size)
    clear bb
    clear ir
    have HGP : g < u9.heap.size := by
      obtain ⟨g', c', e, _, h, _⟩ := ip.shape2 l1
      simp at e
      obtain ⟨rfl, _⟩ := e
      exact h
    have HGL : gl < u9.heap.size := by
      obtain ⟨g', c', e, _, h, _⟩ := il.shape2 (by rw [lndL_len]; exact l1)
      simp at e
      obtain ⟨rfl, _⟩ := e
      exact h
    obtain ⟨i0, hi0, hz0, hz1, hz2⟩ := info_parts Try.infoB
    go_wp2_with (at_make; refine wpList_make_full _ rfl _ _ 68 rfl u9.heap.size 4 i0 (.bool false) 1 Try.underlying68 hi0 hz0 hz1 _ _ _ _ p.length rfl rfl rfl rfl (by rw [hz2]; omega) (by unfold maxLen; omega) (Nat.le_refl _) ?_)
    intro wm hown hgr
    have hR : wm.ownsRow u9.heap.size 4 1 (.slice (some ⟨u9.heap.size, 0, none⟩) p.length p.length) p.length ((List.replicate p.length false).map Value.bool) := by
      simpa [toList_madeCells_one] using hown
    have bb : Below u9.heap.size u9 wm := (Below.refl _ _).grown hgr (Nat.le_refl _) (by simp)
    replace r1 := r1.below bb
    replace ip := ip.below bb
    replace il := il.below bb
    have hKs := BB.size
    replace BB := BB.trans (bb.mono BB.size)
    clear hown hgr hi0 hz0 hz1 hz2 bb
    obtain ⟨C, hC⟩ : ∃ C, C = u9.heap.size := ⟨_, rfl⟩
    have hwC : w'.heap.size ≤ C := by omega
    have hCm : C ≤ wm.heap.size := by
      rcases hR.2 with ⟨h1, _⟩ | ⟨g', cap', cur, h1, _, h3, _⟩
      · simp at h1
      · simp at h1
        obtain ⟨rfl, _⟩ := h1
        have := (Array.getElem?_eq_some_iff.1 h3).1
        omega
    have hglC : gl < C := by omega
    have hgC : g < C := by omega
    have R0 : Hid (∀ wr : World, Below w'.heap.size w' wr → IsRow .u8 wr a1 len1 cap1 z1) := fun wr hb => rw0.below hb
    have r1w := R0
    have BBm := BB
    rw [← hC] at hR
    go_wp2
    rw [← hC]
    clear hC
    
    go_loopw [16] (fun i wr => ∃ (k : Nat) (bs : List Bool), k ≤ p.length ∧ i = .int .i64 k ∧ Seen p k bs ∧ wr.ownsRow C 4 1 (.slice (some ⟨C, 0, none⟩) p.length p.length) p.length (bs.map Value.bool) ∧ Below C wm wr) (fun i _ => p.length - (intOf i).toNat)
    case atStart => exact ⟨0, _, Nat.zero_le _, rfl, Seen.nil p, hR, Below.refl _ _⟩
    case round =>
      clear hR
      obtain ⟨k, bs, hk, rfl, hseen, hr, hb⟩ := hrel
      by_cases hlt : k < p.length
      · have hlb := lnd_bound p l1 k
        obtain ⟨a, ha⟩ : ∃ a : Nat, lnd p k = a := ⟨(lnd p k).toNat, by omega⟩
        have haN : a < p.length := by omega
        have cl1 := (hb.cell (p := ⟨gl, k, none⟩) hglC).trans (il.cell k (by rw [lndL_len]; exact hlt))
        have hlg : (lndL p).getD k 0 = a := by rw [← ha]; exact getD_mk _ _ _ hlt
        rw [hlg] at cl1
        have hnew := hseen.new HOK.out hlt a ha
        have hmore := hseen.more a ha haN
        have cs1 : wr.cell? ⟨C, a, none⟩ = some (.bool false) := by
          rw [hr.cellAt a (by omega), List.getElem?_map]
          have hab : a < bs.length := by rw [hseen.1]; exact haN
          rw [List.getElem?_eq_getElem hab]
          rw [List.getD_eq_getElem?_getD, List.getElem?_eq_getElem hab] at hnew
          simp at hnew
          simp [hnew]
        have f1 := hr.frozenAt a
        have hst := (hr.stored a (.bool true)).1
        rw [← List.map_set] at hst
        have hb1 := below_cellset2 hb a (Nat.le_refl C) (.bool true)
        have ha0 : 0 ≤ (a : Int) := by omega
        have HSM := Lib.hid hmore
        clear hlb ha hlg hnew hmore hseen hr hb
        go_wp2
        go_roundw
        case rel => exact ⟨k + 1, _, by omega, by go_num, HSM.out, hst, hb1⟩
        case measure => simp [intOf]; omega
      · obtain rfl : k = p.length := by omega
        have bb := hb
        replace ip : Ints wr w'.heap.size _ p := ip.block fun g' hg' hlt' => hb.block g' (by simp [Value.ownBlock] at hg'; omega)
        have r1 : IsRow .u8 wr a1 len1 cap1 z1 := r1w.out wr (BBm.trans (hb.mono hwC))
        replace BB := BB.trans (hb.mono hwC)
        clear bb hr hb il hseen
        have HC := a2At_any a1 len1 cap1 z1 0 200 _ r1 hb1 (by omega) (by omega) (by omega)
        go_wp2_with fail
        refine HC.mono ?_
        rintro e _ ⟨x, rfl, hx, rfl⟩
        clear HC
        obtain ⟨s, hs⟩ : ∃ s : Int, x - 100 = s := ⟨_, rfl⟩
        have hs1 : -100 ≤ s := by omega
        have hs2 : s ≤ 100 := by omega
        clear hx
        obtain ⟨T, hT⟩ : ∃ T, T = atL p s := ⟨_, rfl⟩
        have hTb := atL_bound HOK.out s
        rw [← hT] at hTb
        obtain ⟨hT1, hT2⟩ := hTb
        have HFR : Hid (fromL p (s + T) = s) := by show fromL p (s + T) = s; rw [hT]; exact from_at HOK.out s
        have HT := Lib.hid hT
        clear hT
        have HS1 : Hid (beatCode p s = 0) := beatCode_ok s HOK.out (inB_true (by omega))
        have HS2 : Hid (beatCode p (s + T) = 0) := beatCode_ok (s + T) HOK.out (inB_true (by omega))
        have HCL : Hid (clash (lnd p) p.length = none) := clash_none (okPat_distinct HOK.out)
        have HC := throwAt_impl _ _ p s _ ip
        rw [beatA_ok _ _ HS1.out, HS1.out, ← HT.out] at HC
        go_wp2_with fail
        refine HC.mono ?_
        rintro e u11 ⟨rfl, bb⟩
        clear HC
        replace r1 := r1.below bb
        replace ip := ip.below bb
        replace BB := BB.trans (bb.mono BB.size)
        clear bb
        have HC := landsFrom_impl _ _ p (s + T) _ ip
        rw [beatA_ok _ _ HS2.out, HS2.out, HFR.out] at HC
        go_wp2_with fail
        refine HC.mono ?_
        rintro e u12 ⟨rfl, bb⟩
        clear HC
        replace r1 := r1.below bb
        replace ip := ip.below bb
        replace BB := BB.trans (bb.mono BB.size)
        clear bb
        have HC := collisionOf_impl _ _ p _ ip
        rw [show colA p = -1 from by rw [colA, if_pos (okPat_list HOK.out), HCL.out]; rfl, show colB p = -1 from by rw [colB, if_pos (okPat_list HOK.out), HCL.out]; rfl, show colC p = 0 from by rw [colC, if_pos (okPat_list HOK.out), HCL.out]; rfl] at HC
        go_wp2_with fail
        refine HC.mono ?_
        rintro e u13 ⟨rfl, bb⟩
        clear HC
        replace r1 := r1.below bb
        replace ip := ip.below bb
        replace BB := BB.trans (bb.mono BB.size)
        clear bb
        go_wp2
        go_ret
        exact ⟨by first | rfl | exact ret_bool (by simp), BB⟩
end Go.Proofs.Ytjhijmaolnngmaa
