/- Multiplex: MultiLandings, the model's and the program's. Conditions: beats of at most 10^7 throws for the program's. -/
import Derived.Test.YtgjmhihomklooaaPropsM
namespace Go.Proofs.Ytgjmhihomklooaa
open Go.RowKit Go.Maps
set_option linter.unusedSimpArgs false
set_option linter.unusedVariables false

/-- what MultiLandings answers -/
def landsR (pss : List (List Int)) : List Int := if okM pss then landsL pss else []
theorem landsR_len (pss : List (List Int)) : (landsR pss).length ≤ 12 := by
  unfold landsR
  by_cases h : okM pss = true
  · rw [if_pos h, landsL_len]; exact (shapeL_num (okM_shape h)).2
  · rw [if_neg h]; simp
theorem landsN_take (n : Nat) (ps : List (Int × Int)) (k : Nat) (hk : k < n) : ((landsN n ps).take k ++ List.replicate (n - k) 0).set k ((ps.map Prod.snd).count (k : Int) : Int) = (landsN n ps).take (k + 1) ++ List.replicate (n - (k + 1)) 0 := by
  have h := take_set_next (landsN n ps) n k hk (by rw [landsN_len]; exact Nat.le_refl _)
  rwa [landsN_at n ps k hk] at h

set_option maxRecDepth 10000 in
theorem multiLandings_spec (v : Value) (E : TypeId) (B C : Nat) (pss : List (List Int)) (w : World) (h : Grid E w B C v pss) :
    Calls Try.prog 16 #[.agg #[v]] w fun e w' => ∃ u, e = .returned (.tuple #[u, .int .i64 (propsC pss)]) ∧ Ints w' w.heap.size u (landsR pss) ∧ Below w.heap.size w w' := by
  have HO := fun W (hW : Below w.heap.size w W) (hp : W.cell? ⟨w.heap.size, 0, none⟩ = some v) => l04Ok_any _ v E B C pss W hp (h.below hW)
  cases hok : okM pss with
  | false =>
    simp only [landsR, propsC, hok, Bool.false_eq_true, if_false]
    rw [hok] at HO
    clear h hok
    go_enter Try.func16, Try.ntmps16
    go_wp2_with fail
    refine (HO _ (below_alM (Below.refl _ _) _) ?_).mono ?_
    · simp
    rintro e w1 ⟨rfl, b1⟩
    replace b1 := (below_alM (Below.refl w.heap.size w) _).trans (b1.mono (by simp))
    go_wp2
    go_ret2
    exact ⟨_, rfl, Ints.nil _ _, b1⟩
  | true =>
    have hs := okM_shape hok
    simp only [landsR, propsC, hok, if_true]
    rw [hok] at HO
    have HD := fun W (hW : Below w.heap.size w W) (hp : W.cell? ⟨w.heap.size, 0, none⟩ = some v) => l04Landings_any _ v E B C pss W hp (h.below hW) hs
    clear h hok hs
    go_enter Try.func16, Try.ntmps16
    go_wp2_with fail
    refine (HO _ (below_alM (Below.refl _ _) _) ?_).mono ?_
    · simp
    rintro e w1 ⟨rfl, b1⟩
    have c1 : w1.cell? ⟨w.heap.size, 0, none⟩ = some v := by rw [b1.cell (by simp)]; simp
    replace b1 := (below_alM (Below.refl w.heap.size w) _).trans (b1.mono (by simp))
    clear HO
    go_wp2_with fail
    refine (HD w1 b1 c1).mono ?_
    rintro e w2 ⟨u, rfl, i2, b2⟩
    replace b2 := b1.trans (b2.mono b1.size)
    go_wp2
    go_ret2
    exact ⟨_, rfl, i2.mono b1.size, b2⟩

set_option maxRecDepth 10000 in
set_option maxHeartbeats 1000000 in
theorem multiLandings_row (g cap n : Nat) (E : TypeId) (B C : Nat) (pss : List (List Int)) (w : World) (h : Grid E w B C (.slice (some ⟨g, 0, none⟩) n cap) pss) (hn : n = pss.length) (hg : g < w.heap.size) (hsm : Small pss) (hok : okM pss = true) :
    Calls Try.prog 15 #[.agg #[.slice (some ⟨g, 0, none⟩) n cap]] w fun e w' => ∃ u, e = .returned (.tuple #[u, .int .i64 0]) ∧ Ints w' w.heap.size u (landsN n (propsTo pss n)) ∧ Below w.heap.size w w' := by
  have HO := fun W (hW : Below w.heap.size w W) => validMulti_impl _ E B C pss W (h.below hW) hsm
  rw [hok] at HO
  have hs := okM_shape hok
  have hn2 : n ≤ 12 := by rw [hn]; exact (shapeL_num hs).2
  have HC := fun W (hW : Below w.heap.size w W) => count_row g cap n pss W hn hn2 (by have := hW.size; omega) fun i hi => shape_rows (h.below hW) hs i (by omega)
  have hlen : (propsTo pss n).length ≤ 100000 := by
    have := propsTo_len (pss := pss) (m := 4) (fun i hi => (rowOk_num (shapeL_at hs i hi)).2) n (by omega)
    omega
  generalize propsTo pss n = ps at *
  clear h hok hs hsm hn
  obtain ⟨i0, hi, hz0, hz1, hz2⟩ := info_parts Try.info64
  have hfld : ∀ (x y : Option Nat) (W : World), (Instr.field 91 (.agg #[.map x, .map y]) 1).run Try.prog W = .ok (.map y) W := fun _ _ _ => by kernel_rfl
  go_enter Try.func15, Try.ntmps15
  go_wp2_with fail
  refine (HO _ (below_alM (Below.refl _ _) _)).mono ?_
  rintro e w1 ⟨rfl, b1⟩
  have c1 : w1.cell? ⟨w.heap.size, 0, none⟩ = some (.slice (some ⟨g, 0, none⟩) n cap) := by rw [b1.cell (by simp)]; simp
  have s1 : w.heap.size + 1 ≤ w1.heap.size := by have := b1.size; simpa using this
  replace b1 := (below_alM (Below.refl w.heap.size w) _).trans (b1.mono (by simp))
  clear HO
  go_wp2_with fail
  refine (HC w1 b1).mono ?_
  rintro e w2 ⟨rfl, t2, b2⟩
  have c2 := (b2.cell (p := ⟨w.heap.size, 0, none⟩) (by show w.heap.size < _; omega)).trans c1
  have s2 := b2.size
  replace b2 := b1.trans (b2.mono b1.size)
  clear HC b1 c1
  go_wp2_with (at_make; refine wpList_make_full _ rfl _ _ 32 rfl w2.heap.size 2 i0 (.int .i64 0) 1 Try.underlying32 hi hz0 hz1 _ _ _ _ n rfl rfl rfl rfl (by rw [hz2]; omega) (by unfold maxLen; omega) (Nat.le_refl _) ?_)
  intro w3 hown hg3
  have h1 : Ints w3 w2.heap.size (.slice (some ⟨w2.heap.size, 0, none⟩) n n) ((landsN n ps).take 0 ++ List.replicate (n - 0) 0) := by
    unfold Ints
    simpa [toList_madeCells_one] using hown
  have hb1 : Below w2.heap.size w2 w3 := (Below.refl _ _).grown hg3 (Nat.le_refl _) (by simp)
  clear hown hg3 hi hz0 hz1 hz2
  have HT := Lib.hid (fun W (hW : Below w2.heap.size w2 W) => (Two.keep t2 hW).2)
  have HTK := Lib.hid (fun k (hk : k < n) => landsN_take n ps k hk)
  have HAT : Hid (∀ k : Nat, (cntD (H := Unit) (ps.map Prod.snd)).atKey (.int .i64 (k : Int)) (.lit (.int .i64 0)) = .lit (.int .i64 ((ps.map Prod.snd).count (k : Int) : Int))) := fun k => cntD_at0 _ _
  have HFIN : Hid ((landsN n ps).take n ++ List.replicate (n - n) 0 = landsN n ps) := by
    unfold Hid
    rw [Nat.sub_self, List.replicate_zero, List.append_nil, List.take_of_length_le (by rw [landsN_len]; exact Nat.le_refl _)]
  have hlL : ∀ k, k ≤ n → ((landsN n ps).take k ++ List.replicate (n - k) 0).length = n := fun k hk => by
    rw [List.length_append, List.length_take, landsN_len, List.length_replicate]; omega
  have HLEN := Lib.hid hlL
  clear t2 hlL
  go_wp2
  go_loopw [20] (fun i wr => ∃ k : Nat, k ≤ n ∧ i = .int .i64 k ∧ Ints wr w2.heap.size (.slice (some ⟨w2.heap.size, 0, none⟩) n n) ((landsN n ps).take k ++ List.replicate (n - k) 0) ∧ Below w2.heap.size w2 wr) (fun i _ => n - (intOf i).toNat)
  case atStart => exact ⟨0, Nat.zero_le _, rfl, h1, hb1⟩
  case round =>
    obtain ⟨k, hk, rfl, hr, hbr⟩ := hrel
    clear h1 hb1
    by_cases hlt : k < n
    · have hold := hr.cell k (by rw [HLEN.out k hk]; exact hlt)
      have hfree := hr.free k
      have hn := hr.set k ((ps.map Prod.snd).count (k : Int) : Int)
      rw [HTK.out k hlt] at hn
      have hbn := hbr.setCell (p := ⟨w2.heap.size, k, none⟩) (Nat.le_refl _) (.int .i64 ((ps.map Prod.snd).count (k : Int) : Int))
      have hm := HT.out wr hbr
      have k1 : keyOf Try.prog 2 (.int .i64 (k : Int)) = some (.int .i64 (k : Int)) := keyOf_int_mk Try.underlying2 (WalkArith.wf_i64 (by omega))
      have A1 := Lib.hid (HAT.out k)
      generalize (cntD (H := Unit) (ps.map Prod.snd)) = D at *
      generalize ((ps.map Prod.snd).count (k : Int) : Int) = cv at *
      clear hr
      go_wp2_with (at_lookup; refine wpList_lookup_own_int _ rfl _ _ 89 rfl 2 2 .i64 law64 Try.underlying89 Try.underlying2 (zero64 _) (w1.heap.size + 1 + 1) _ _ rfl hm _ _ rfl k1 ?_; intro c hat hwc; refine Hid.out ?_)
      have hc : c = cv := by
        have := hat.symm.trans A1.out
        simpa using this
      subst hc
      clear hat hwc A1
      refine Lib.hid ?_
      go_wp2
      go_roundw
      case rel => exact ⟨k + 1, by omega, by go_num, hn, hbn⟩
      case measure => simp [intOf]; omega
    · obtain rfl : k = n := by omega
      rw [HFIN.out] at hr
      go_wp2
      go_ret2
      exact ⟨_, rfl, hr.mono b2.size, b2.trans (hbr.mono b2.size)⟩

set_option maxRecDepth 10000 in
theorem multiLandings_impl (v : Value) (E : TypeId) (B C : Nat) (pss : List (List Int)) (w : World) (h : Grid E w B C v pss) (hsm : Small pss) :
    Calls Try.prog 15 #[.agg #[v]] w fun e w' => ∃ u, e = .returned (.tuple #[u, .int .i64 (propsC pss)]) ∧ Ints w' w.heap.size u (landsR pss) ∧ Below w.heap.size w w' := by
  cases hok : okM pss with
  | false =>
    have HO := fun W (hW : Below w.heap.size w W) => validMulti_impl v E B C pss W (h.below hW) hsm
    simp only [landsR, propsC, hok, Bool.false_eq_true, if_false]
    rw [hok] at HO
    clear h hok hsm
    go_enter Try.func15, Try.ntmps15
    go_wp2_with fail
    refine (HO _ (below_alM (Below.refl _ _) _)).mono ?_
    rintro e w1 ⟨rfl, b1⟩
    replace b1 := (below_alM (Below.refl w.heap.size w) _).trans (b1.mono (by simp))
    go_wp2
    go_ret2
    exact ⟨_, rfl, Ints.nil _ _, b1⟩
  | true =>
    simp only [landsR, propsC, hok, if_true]
    have h1 := (shapeL_num (okM_shape hok)).1
    obtain ⟨g, cap, rfl, _, hg, _, hm⟩ := h.shape.resolve_left fun e => by rw [e.2] at h1; simp at h1
    exact multiLandings_row g cap pss.length E B C pss w h rfl hg hsm hok
end Go.Proofs.Ytgjmhihomklooaa
