/- OrbitPattern, the model's and the program's. No conditions. -/
import Derived.Test.YtlpeigeadjojnabOrN
namespace Go.Proofs.Ytlpeigeadjojnab
open Go.RowKit
set_option linter.unusedSimpArgs false
set_option linter.unusedVariables false

theorem sl_of_grid {w : World} {B C : Nat} {x : Value} {p : List Int} (hg : Grid 22 w B C x (orbs p)) : ∃ a c, x = .slice a (fsts p).length c := by
  have ho := orbs_len p
  rcases hg.shape with ⟨e, e0⟩ | ⟨g', c', e, _⟩
  · exact ⟨none, 0, by rw [e]; have := congrArg List.length e0; rw [ho] at this; rw [this]; rfl⟩
  · rw [ho] at e; exact ⟨_, _, e⟩
theorem orbs_at {p : List Int} {k : Nat} (hk : k < (fsts p).length) : (orbs p).getD k [] = ints (wayL p ((fsts p).getD k 0)) := by simp [orbs, hk]
/-- the row of an orbit -/
theorem grid_way {w : World} {B C : Nat} {a : Option Addr} {c : Nat} {p : List Int} (hok : okPat p = true) (hg : Grid 22 w B C (.slice a (fsts p).length c) (orbs p)) {k : Nat} (hk : k < (fsts p).length) :
    ∃ gx, a = some ⟨gx, 0, none⟩ ∧ ∃ gy cy, w.cell? ⟨gx, k, none⟩ = some (.slice (some ⟨gy, 0, none⟩) (wayL p ((fsts p).getD k 0)).length cy) ∧ gx < w.heap.size ∧ gy < w.heap.size ∧
      ∀ q, q < (wayL p ((fsts p).getD k 0)).length → w.cell? ⟨gy, q, none⟩ = some (.int .i64 ((wayL p ((fsts p).getD k 0)).getD q 0 : Nat)) := by
  obtain ⟨gx, ex, y, cc, hy⟩ := hg.atSl k (by rw [orbs_len]; exact hk)
  rw [orbs_at hk] at hy
  obtain ⟨gy, cy, rfl, _, hl, _, _⟩ := hy.shape2 (by rw [ints_len]; exact (way_len hok (fsts_at hk).1).1)
  rw [ints_len] at cc hy
  refine ⟨gx, ex, gy, cy, cc, by have := cell_block cc; simpa using this, hl, fun q hq => ?_⟩
  have := hy.cell q (by rw [ints_len]; exact hq)
  rwa [ints_at _ q hq] at this

set_option maxRecDepth 10000 in
set_option maxHeartbeats 1000000 in
theorem orbitPattern_impl (v : Value) (B : Nat) (p : List Int) (o : Int) (w : World) (h : Ints w B v p) :
    Calls Try.prog 15 #[v, .int .i64 o] w fun e w' => ∃ u, e = .returned (.tuple #[u, .int .i64 (opC p o)]) ∧ Ints w' w.heap.size u (opA p o) ∧ Below w.heap.size w w' := by
  have HO := orbitsOf_impl v B p w h
  unfold opA
  cases hok : okPat p with
  | false =>
    rw [opC_bad _ hok, if_neg (by decide)]
    rw [okC_false hok] at HO
    go_enter Try.func15, Try.ntmps15
    go_wp2_with fail
    refine HO.mono ?_
    rintro e w' ⟨x, rfl, hg, hb⟩
    go_wp2
    go_ret2
    exact ⟨_, rfl, Ints.nil _ _, hb⟩
  | true =>
    obtain ⟨l1, l2⟩ := okPat_len hok
    obtain ⟨g0, cap, rfl, _, hg0, _, _⟩ := h.shape2 l1
    have hfl := fsts_len p
    rw [okC_true hok, orbA_true hok] at HO
    cases hin : inB o 0 (((fsts p).length : Int) - 1) with
    | false =>
      rw [opC_far hok hin, if_neg (by decide)]
      have hout : o < 0 ∨ ¬ o < 0 ∧ ((fsts p).length : Int) ≤ o := by
        refine Classical.byContradiction fun hn => ?_
        rw [inB_true (by omega)] at hin
        cases hin
      clear h hok hin
      go_enter Try.func15, Try.ntmps15
      go_wp2_with fail
      refine HO.mono ?_
      rintro e w2 ⟨x, rfl, hg, b2⟩
      obtain ⟨xa, xc, rfl⟩ := sl_of_grid hg
      clear hg HO
      generalize (fsts p).length = n at *
      rcases hout with h0 | ⟨h0, h00⟩
      · go_wp2
        go_ret2
        exact ⟨_, rfl, Ints.nil _ _, b2⟩
      · go_wp2
        go_ret2
        exact ⟨_, rfl, Ints.nil _ _, b2⟩
    | true =>
      rw [opC_ok hok hin, if_pos rfl]
      obtain ⟨hb1, hb2⟩ := inB_iff.1 hin
      obtain ⟨k, rfl⟩ : ∃ k : Nat, o = k := ⟨o.toNat, by omega⟩
      rw [Int.toNat_natCast]
      have hk : k < (fsts p).length := by omega
      obtain ⟨i0, hi0, hz0, hz1, hz2⟩ := info_parts Try.info64
      have HPC := Lib.hid (fun W (hW : Below w.heap.size w W) j (hj : j < p.length) => (h.below hW).cell j hj)
      have HGW := Lib.hid (fun W B2 C a c (hg : Grid 22 W B2 C (.slice a (fsts p).length c) (orbs p)) => grid_way hok hg hk)
      have hwl := way_len hok (fsts_at hk).1
      have HWA := Lib.hid (fun q hq => way_at hok (fsts_at hk).1 (k := q) hq)
      have HAS := Lib.hid (fun q (hq : q < (wayL p ((fsts p).getD k 0)).length) => aloneK_succ (p := p) (i := (fsts p).getD k 0) hq)
      have HAZ := Lib.hid (aloneK_zero p ((fsts p).getD k 0))
      have HAL := Lib.hid (aloneK_len p ((fsts p).getD k 0))
      unfold aloneL
      clear h hok hin
      go_enter Try.func15, Try.ntmps15
      go_wp2_with fail
      refine HO.mono ?_
      rintro e w2 ⟨x, rfl, hg, B2⟩
      have hs2 := B2.size
      obtain ⟨xa, xc, rfl⟩ := sl_of_grid hg
      obtain ⟨gx, rfl, gy, cy, cc, hgx, hgy, hcy⟩ := HGW.out _ _ _ _ _ hg
      have HCY := Lib.hid hcy
      clear hg HO HGW hcy
      generalize hm : (wayL p ((fsts p).getD k 0)).length = m at *
      generalize hL : aloneK p ((fsts p).getD k 0) = L at *
      have HM := Lib.hid hm
      have HL := Lib.hid hL
      clear hm hL
      generalize (fsts p).length = n at *
      go_wp2_with (at_make; refine wpList_make_full _ rfl _ _ 22 rfl w2.heap.size 2 i0 (.int .i64 0) 1 Try.underlying22 hi0 hz0 hz1 _ _ _ _ p.length rfl rfl rfl rfl (by rw [hz2]; omega) (by unfold maxLen; omega) (Nat.le_refl _) ?_; intro w3 hown hgr; refine Hid.out ?_)
      have hI : Ints w3 w2.heap.size (.slice (some ⟨w2.heap.size, 0, none⟩) p.length p.length) (L 0) := by
        rw [HAZ.out]
        unfold Ints
        generalize p.length = n2 at hown ⊢
        rw [List.length_replicate, List.map_replicate]
        have e9 := hown
        rw [Nat.mul_one] at e9
        have e8 : (madeCells (Value.int IntKind.i64 0).cells n2).toList = List.replicate n2 (Value.int IntKind.i64 0) := toList_madeCells_one _ _
        rw [e8] at e9
        exact e9
      have b3 : Below w2.heap.size w2 w3 := (Below.refl _ _).grown hgr (Nat.le_refl _) (by simp)
      have cc3 := (b3.cell (p := ⟨gx, k, none⟩) hgx).trans cc
      clear hown hgr hi0 hz0 hz1 hz2
      refine Lib.hid ?_
      go_wp2
      go_loopw [35] (fun x wr => ∃ q : Nat, q ≤ m ∧ x = .int .i64 q ∧ Ints wr w2.heap.size (.slice (some ⟨w2.heap.size, 0, none⟩) p.length p.length) (L q) ∧ Below w2.heap.size w2 wr) (fun x _ => m - (intOf x).toNat)
      case atStart => exact ⟨0, Nat.zero_le _, rfl, hI, b3⟩
      case round =>
        obtain ⟨q, hq, rfl, hi, hb⟩ := hrel
        clear hI b3
        by_cases hqt : q < m
        · have cq := (hb.cell (p := ⟨gy, q, none⟩) hgy).trans (HCY.out q hqt)
          have ha := HWA.out q hqt
          have cp := HPC.out wr (B2.trans (hb.mono hs2)) _ ha
          have hold := hi.cell _ (show (wayL p ((fsts p).getD k 0)).getD q 0 < (L q).length by rw [HAL.out]; exact ha)
          have hfree := hi.free ((wayL p ((fsts p).getD k 0)).getD q 0)
          have hn := hi.set ((wayL p ((fsts p).getD k 0)).getD q 0) (p.getD ((wayL p ((fsts p).getD k 0)).getD q 0) 0)
          rw [HAS.out q hqt] at hn
          have hbn := hb.setCell (p := ⟨w2.heap.size, (wayL p ((fsts p).getD k 0)).getD q 0, none⟩) (Nat.le_refl _) (.int .i64 (p.getD ((wayL p ((fsts p).getD k 0)).getD q 0) 0))
          clear HPC HWA HAS HAZ HAL HCY hi hb cc cc3
          generalize (wayL p ((fsts p).getD k 0)).getD q 0 = z at *
          generalize p.getD z 0 = t at *
          go_wp2
          go_roundw
          case rel => exact ⟨q + 1, by omega, by go_num, hn, hbn⟩
          case measure => simp [intOf]; omega
        · obtain rfl : q = m := by omega
          clear HPC HWA HAS HAZ HAL HCY
          go_wp2
          go_ret2
          refine ⟨_, rfl, ?_, B2.trans (hb.mono hs2)⟩
          rw [HL.out, HM.out]
          exact hi.mono hs2
end Go.Proofs.Ytlpeigeadjojnab
