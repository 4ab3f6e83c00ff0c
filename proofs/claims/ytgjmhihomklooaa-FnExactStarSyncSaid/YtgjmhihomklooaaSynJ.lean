/- Synchronous patterns, the program's, second part: lists, landings. No conditions. -/
import Derived.Test.YtgjmhihomklooaaSynI
import Derived.Outline
namespace Go.Proofs.Ytgjmhihomklooaa
open Go.RowKit
set_option linter.unusedSimpArgs false
set_option linter.unusedVariables false

theorem okSL_thrs {p : List Syn} (h1 : 1 ≤ p.length) (h6 : p.length ≤ 6) (h : ∀ k, k < 2 * p.length → okT ((thrs p).getD k t0) = true) : okSL p = true :=
  okSL_good h1 h6 fun i hi => by
    have a := h (2 * i) (by omega)
    have b := h (2 * i + 1) (by omega)
    rw [thrs_even p i hi] at a
    rw [thrs_odd p i hi] at b
    exact ⟨a, b⟩
theorem okSL_thr_bad {p : List Syn} (k : Nat) (hk : k < 2 * p.length) (h : okT ((thrs p).getD k t0) = false) : okSL p = false := by
  cases e : okSL p with
  | false => rfl
  | true => rw [okSL_thr e k hk] at h; cases h
/-- the two cells of a throw -/
def Two (w : World) (b o : Nat) (t : Thr) : Prop := w.cell? ⟨b, o, none⟩ = some (.int .i64 t.1) ∧ w.cell? ⟨b, o + 1, none⟩ = some (.bool t.2)
theorem Two.below {w w' : World} {N b o : Nat} {t : Thr} (h : Two w b o t) (hb : Below N w w') (hN : b < N) : Two w' b o t :=
  ⟨(hb.cell (p := ⟨b, o, none⟩) hN).trans h.1, (hb.cell (p := ⟨b, o + 1, none⟩) hN).trans h.2⟩
theorem OwnK.two {w : World} {e : TypeId} {B g n cap : Nat} {xs : List Thr} (h : OwnK e 2 thrV w B (.slice (some ⟨g, 0, none⟩) n cap) xs) (i : Nat) (hi : i < xs.length) : Two w g (i * 2) (xs.getD i t0) :=
  ⟨h.cell thrV_len t0 i 0 hi (by decide), h.cell thrV_len t0 i 1 hi (by decide)⟩
/-- a walk is told of the throws: where they lie -/
theorem throws_at (g cap n : Nat) (p : List Syn) (w : World) (hn1 : 1 ≤ n) (hn9 : n ≤ 6) (hn : n = p.length) (hg : g < w.heap.size) (hc : Beats w g n p) :
    Calls Try.prog 91 #[.slice (some ⟨g, 0, none⟩) n cap] w fun e w' => ∃ b c, e = .returned (.slice (some ⟨b, 0, none⟩) (2 * n) c) ∧ w.heap.size ≤ b ∧ b < w'.heap.size ∧ (∀ k, k < 2 * n → Two w' b (k * 2) ((thrs p).getD k t0)) ∧ Below w.heap.size w w' :=
  (throws_row g cap n p w hn1 hn9 hn hg hc).mono fun e w' ⟨a, c, h1, h2, h3⟩ => by
    have hl := thrs_len p
    obtain ⟨b, c', e1, hb1, hb2, _, _⟩ := h2.shape2 (by omega)
    simp at e1
    obtain ⟨rfl, _, rfl⟩ := e1
    exact ⟨b, c, h1, hb1, hb2, fun k hk => h2.two k (by omega), h3⟩

set_option maxRecDepth 10000 in
theorem sList_num (a : Option Addr) (n cap : Nat) (w : World) (hm : n ≤ 9223372036854775807) (h : ¬ (1 ≤ n ∧ n ≤ 6)) :
    Calls Try.prog 84 #[.slice a n cap] w fun e w' => e = .returned (.bool false) ∧ Below w.heap.size w w' := by
  by_cases h1 : n < 1
  · go_enter Try.func84, Try.ntmps84
    go_wp2
    go_ret
    exact ⟨rfl, Below.refl _ _⟩
  · have h2 : 6 < n := by omega
    go_enter Try.func84, Try.ntmps84
    go_wp2
    go_ret
    exact ⟨rfl, Below.refl _ _⟩

set_option maxRecDepth 10000 in
set_option maxHeartbeats 400000 in
theorem sList_row (g cap n : Nat) (p : List Syn) (w : World) (hn1 : 1 ≤ n) (hn9 : n ≤ 6) (hn : n = p.length) (hg : g < w.heap.size) (hc : Beats w g n p) :
    Calls Try.prog 84 #[.slice (some ⟨g, 0, none⟩) n cap] w fun e w' => e = .returned (.bool (okSL p)) ∧ Below w.heap.size w w' := by
  have HT := throws_at g cap n p w hn1 hn9 hn hg hc
  have HB := Lib.hid (fun k (hk : k < 2 * n) (h : okT ((thrs p).getD k t0) = false) => okSL_thr_bad (p := p) k (by omega) h)
  have HG := Lib.hid (fun (h : ∀ k, k < 2 * n → okT ((thrs p).getD k t0) = true) => okSL_thrs (p := p) (by omega) (by omega) fun k hk => h k (by omega))
  clear hc hn
  go_enter Try.func84, Try.ntmps84
  go_wp2_with fail
  refine HT.mono ?_
  rintro e w1 ⟨b, c, rfl, hb0, hb1, hcells, b1⟩
  have HC := Lib.hid hcells
  clear HT hcells
  go_wp2
  go_loopw [16] (fun i wr => ∃ k : Nat, k ≤ 2 * n ∧ i = .int .i64 k ∧ Hid (∀ j, j < k → okT ((thrs p).getD j t0) = true) ∧ Below w.heap.size w wr ∧ Below w1.heap.size w1 wr) (fun i _ => 2 * n - (intOf i).toNat)
  case atStart => exact ⟨0, Nat.zero_le _, rfl, fun j hj => absurd hj (Nat.not_lt_zero _), b1, Below.refl _ _⟩
  case round =>
    obtain ⟨k, hk, rfl, hall, hb, hbb⟩ := hrel
    clear b1
    by_cases hlt : k < 2 * n
    · have hlt' : (k : Int) < 2 * (n : Int) := by omega
      obtain ⟨c0, c1⟩ := (HC.out k hlt).below hbb hb1
      have HBK := Lib.hid (HB.out k hlt)
      have HNX := Lib.hid (fun (h : okT ((thrs p).getD k t0) = true) => show ∀ j, j < k + 1 → okT ((thrs p).getD j t0) = true from fun j hj => by
        by_cases e : j = k
        · subst e; exact h
        · exact hall.out j (by omega))
      clear HC HB HG
      generalize (thrs p).getD k t0 = y at *
      obtain ⟨y0, y1⟩ := y
      simp only at c0 c1
      have HI := fun W => isThrow_any y0 y1 W
      cases h1 : okT (y0, y1) with
      | false =>
        rw [h1] at HI
        have HR := Lib.hid (HBK.out h1)
        clear h1 HBK HNX
        go_wp2_with fail
        refine (HI _).mono ?_
        rintro e w2 ⟨rfl, b2⟩
        have b3 := (below_al (Below.refl wr.heap.size wr) _).trans (b2.mono (by simp))
        replace hb := hb.trans (b3.mono hb.size)
        clear HI b2
        go_wp2
        go_ret
        exact ⟨by rw [HR.out]; rfl, hb⟩
      | true =>
        rw [h1] at HI
        have HN := Lib.hid (HNX.out h1)
        clear h1 HBK HNX
        go_wp2_with fail
        refine (HI _).mono ?_
        rintro e w2 ⟨rfl, b2⟩
        have b3 := (below_al (Below.refl wr.heap.size wr) _).trans (b2.mono (by simp))
        replace hb := hb.trans (b3.mono hb.size)
        replace hbb := hbb.trans (b3.mono hbb.size)
        clear HI b2
        go_wp2
        go_roundw
        case rel => exact ⟨k + 1, by omega, by go_num, HN, hb, hbb⟩
        case measure => simp [intOf]; omega
    · obtain rfl : k = 2 * n := by omega
      have HR := Lib.hid (HG.out hall.out)
      clear HC HB HG hall
      go_wp2
      go_ret
      exact ⟨by rw [HR.out]; rfl, hb⟩

theorem sList_any (v : Value) (B : Nat) (p : List Syn) (w : World) (h : Syns w B v p) :
    Calls Try.prog 84 #[v] w fun e w' => e = .returned (.bool (okSL p)) ∧ Below w.heap.size w w' := by
  by_cases hn : 1 ≤ p.length ∧ p.length ≤ 6
  · obtain ⟨g, cap, rfl, _, hg, _, _⟩ := h.shape2 hn.1
    exact sList_row g cap p.length p w hn.1 hn.2 rfl hg h.beats
  · rw [okSL_num hn]
    obtain ⟨a, cap, rfl⟩ := h.sl
    exact sList_num a p.length cap w h.len hn

theorem xor_one (m : Int) (h0 : 0 ≤ m) (h1 : m ≤ 11) : bits .xor .i64 m 1 = oth m := by
  have h : ∀ n : Fin 12, bits .xor .i64 (n.val : Int) 1 = oth (n.val : Int) := by decide
  have := h ⟨m.toNat, by omega⟩
  simp only [Int.toNat_of_nonneg h0] at this
  exact this
/-- all landings -/
def sndL (p : List Syn) (n : Nat) : List Int := (List.range (2 * n)).map (lndS p)
theorem sndL_len (p : List Syn) (n : Nat) : (sndL p n).length = 2 * n := by simp [sndL]
theorem sndL_at (p : List Syn) (n k : Nat) (h : k < 2 * n) : (sndL p n).getD k 0 = lndS p k := by simp [sndL, h]
theorem sndL_set (p : List Syn) (n k : Nat) (h : k < 2 * n) : ((sndL p n).take k ++ List.replicate (2 * n - k) 0).set k (lndS p k) = (sndL p n).take (k + 1) ++ List.replicate (2 * n - (k + 1)) 0 := by
  rw [← sndL_at p n k h]
  exact take_set_next _ _ _ h (by rw [sndL_len]; exact Nat.le_refl _)

set_option maxRecDepth 10000 in
set_option maxHeartbeats 400000 in
theorem landings_row (g cap n : Nat) (p : List Syn) (w : World) (hn1 : 1 ≤ n) (hn9 : n ≤ 6) (hn : n = p.length) (hg : g < w.heap.size) (hc : Beats w g n p) (hok : okSL p = true) :
    Calls Try.prog 87 #[.slice (some ⟨g, 0, none⟩) n cap] w fun e w' => ∃ b c, e = .returned (.slice (some ⟨b, 0, none⟩) (2 * n) c) ∧ Ints w' w.heap.size (.slice (some ⟨b, 0, none⟩) (2 * n) c) (sndL p n) ∧ Below w.heap.size w w' := by
  have HT := throws_at g cap n p w hn1 hn9 hn hg hc
  have HV := Lib.hid (fun k (hk : k < 2 * n) => okT_num (okSL_thr hok k (by omega)))
  have HS := Lib.hid (fun k (hk : k < 2 * n) => sndL_set p n k hk)
  have HP := Lib.hid (fun k (h : ((thrs p).getD k t0).2 = false) => show lndS p k = ((k : Int) + ((thrs p).getD k t0).1) % (2 * (n : Int)) from by rw [hn]; exact lndS_plain h)
  have HX := Lib.hid (fun k (h : ((thrs p).getD k t0).2 = true) => show lndS p k = oth (((k : Int) + ((thrs p).getD k t0).1) % (2 * (n : Int))) from by rw [hn]; exact lndS_cross h)
  have HF : Hid ((sndL p n).take (2 * n) = sndL p n) := List.take_of_length_le (by rw [sndL_len]; exact Nat.le_refl _)
  have HLL := Lib.hid (fun k (hk : k < 2 * n) => show k < ((sndL p n).take k ++ List.replicate (2 * n - k) 0).length from by rw [List.length_append, List.length_take, sndL_len, List.length_replicate]; omega)
  clear hc hn hok
  obtain ⟨i0, hi, hz0, hz1, hz2⟩ := info_parts Try.info64
  go_enter Try.func87, Try.ntmps87
  go_wp2_with fail
  refine HT.mono ?_
  rintro e w1 ⟨b, c, rfl, hb0, hb1, hcells, b1⟩
  have HC := Lib.hid hcells
  clear HT hcells
  go_wp2_with (at_make; refine wpList_make_full _ rfl _ _ 32 rfl w1.heap.size 2 i0 (.int .i64 0) 1 Try.underlying32 hi hz0 hz1 _ _ _ _ (2 * n) rfl rfl rfl rfl (by rw [hz2]; omega) (by unfold maxLen; omega) (Nat.le_refl _) ?_; intro w2 hown hgr; refine Hid.out ?_)
  have h1 : Ints w2 w1.heap.size (.slice (some ⟨w1.heap.size, 0, none⟩) (2 * n) (2 * n)) ((sndL p n).take 0 ++ List.replicate (2 * n - 0) 0) := by
    have e : (madeCells (Value.int IntKind.i64 0).cells (2 * n)).toList = List.replicate (2 * n) (.int .i64 0) := toList_madeCells_one _ _
    rw [Nat.mul_one, e] at hown
    unfold Ints
    simpa using hown
  have hb2 : Below w1.heap.size w1 w2 := (Below.refl _ _).grown hgr (Nat.le_refl _) (by simp)
  clear hown hgr hi hz0 hz1 hz2
  refine Lib.hid ?_
  go_wp2
  go_loopw [15] (fun i wr => ∃ k : Nat, k ≤ 2 * n ∧ i = .int .i64 k ∧ Ints wr w1.heap.size (.slice (some ⟨w1.heap.size, 0, none⟩) (2 * n) (2 * n)) ((sndL p n).take k ++ List.replicate (2 * n - k) 0) ∧ Below w1.heap.size w1 wr) (fun i _ => 2 * n - (intOf i).toNat)
  case atStart => exact ⟨0, Nat.zero_le _, rfl, h1, hb2⟩
  case round =>
    clear h1 hb2
    obtain ⟨k, hk, rfl, hI, hb⟩ := hrel
    by_cases hlt : k < 2 * n
    · have hlt' : (k : Int) < 2 * (n : Int) := by omega
      obtain ⟨c0, c1⟩ := (HC.out k hlt).below hb hb1
      obtain ⟨hv0, hv1⟩ := HV.out k hlt
      have HSK := Lib.hid (HS.out k hlt)
      have HPK := Lib.hid (HP.out k)
      have HXK := Lib.hid (HX.out k)
      have HLK := Lib.hid (HLL.out k hlt)
      clear HC HV HS HP HX HF HLL
      generalize (thrs p).getD k t0 = y at *
      generalize (sndL p n).take k ++ List.replicate (2 * n - k) 0 = zs at *
      obtain ⟨y0, y1⟩ := y
      simp only at c0 c1 hv0 hv1 HPK HXK
      have HM := fun W => modulo_any ((k : Int) + y0) (2 * (n : Int)) W (by omega) (by omega) (by omega) (by omega)
      have e0 := Int.emod_nonneg ((k : Int) + y0) (show 2 * (n : Int) ≠ 0 by omega)
      have e1 := Int.emod_lt_of_pos ((k : Int) + y0) (show 0 < 2 * (n : Int) by omega)
      generalize ((k : Int) + y0) % (2 * (n : Int)) = m at *
      have hI2 := hI.alloc (.cells #[.int .i64 y0, .bool y1] 113)
      have hb2 := hb.alloc hb.size (.cells #[.int .i64 y0, .bool y1] 113)
      have hold := hI2.cell k HLK.out
      have hfree := hI2.free k
      cases y1 with
      | false =>
        have HN := Lib.hid (hI2.set k m)
        rw [show zs.set k m = zs.set k (lndS p k) from by rw [HPK.out rfl], HSK.out] at HN
        have hbn := hb2.setCell (p := ⟨w1.heap.size, k, none⟩) (Nat.le_refl _) (.int .i64 m)
        clear HSK HPK HXK HLK hI hI2 hb2 hb
        go_wp2_with fail
        refine (HM _).mono ?_
        rintro e w' ⟨rfl, rfl⟩
        clear HM
        go_wp2
        go_roundw
        case rel => exact ⟨k + 1, by omega, by go_num, HN.out, hbn⟩
        case measure => simp [intOf]; omega
      | true =>
        have HN := Lib.hid (hI2.set k (oth m))
        rw [show zs.set k (oth m) = zs.set k (lndS p k) from by rw [HXK.out rfl], HSK.out] at HN
        have HB9 := Lib.hid (xor_one m e0 (by omega))
        have hbn := hb2.setCell (p := ⟨w1.heap.size, k, none⟩) (Nat.le_refl _) (.int .i64 (oth m))
        clear HSK HPK HXK HLK hI hI2 hb2 hb
        go_wp2_with fail
        refine (HM _).mono ?_
        rintro e w' ⟨rfl, rfl⟩
        clear HM
        go_wp2
        go_roundw
        case rel => rw [HB9.out]; exact ⟨k + 1, by omega, by go_num, HN.out, hbn⟩
        case measure => simp [intOf]; omega
    · obtain rfl : k = 2 * n := by omega
      rw [HF.out] at hI
      have hI3 := hI.mono b1.size
      have hb3 := b1.trans (hb.mono b1.size)
      clear HC HV HS HP HX HF HLL hI hb
      go_wp2
      go_ret
      exact ⟨_, _, rfl, by simpa using hI3, hb3⟩
end Go.Proofs.Ytgjmhihomklooaa
