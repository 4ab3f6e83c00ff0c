/- Synchronous patterns, the program's, fifth part: MirrorSync, SlideSync. No conditions. -/
import Derived.Test.YtgjmhihomklooaaSynK
namespace Go.Proofs.Ytgjmhihomklooaa
open Go.RowKit
set_option linter.unusedSimpArgs false
set_option linter.unusedVariables false

set_option maxRecDepth 10000 in
set_option maxHeartbeats 1000000 in
theorem mirrored_row (g cap n : Nat) (p : List Syn) (w : World) (hn1 : 1 ≤ n) (hn9 : n ≤ 6) (hn : n = p.length) (hg : g < w.heap.size) (hc : Beats w g n p) :
    Calls Try.prog 81 #[.slice (some ⟨g, 0, none⟩) n cap] w fun e w' => e = .returned (.slice (some ⟨w.heap.size, 0, none⟩) n n) ∧ Syns w' w.heap.size (.slice (some ⟨w.heap.size, 0, none⟩) n n) (mirS p) ∧ Below w.heap.size w w' := by
  have HC := Lib.hid hc
  have HF : Hid ((mirS p).take n = mirS p) := List.take_of_length_le (by rw [mirS_len]; omega)
  have HS := Lib.hid (fun k (hk : k < n) => show ((mirS p).take k ++ List.replicate (n - k) s0).set k ((p.getD k s0).2, (p.getD k s0).1) = (mirS p).take (k + 1) ++ List.replicate (n - (k + 1)) s0 from by
    have := take_set_syn (mirS p) n k hk (by rw [mirS_len]; omega)
    rwa [show (mirS p).getD k s0 = ((p.getD k s0).2, (p.getD k s0).1) by simp [mirS, show k < p.length by omega]] at this)
  have HLL := Lib.hid (fun k (hk : k < n) => show k < ((mirS p).take k ++ List.replicate (n - k) s0).length from by rw [List.length_append, List.length_take, mirS_len, List.length_replicate]; omega)
  clear hn hc
  obtain ⟨i0, hi, hz0, hz1, hz2⟩ := info_parts Try.infoSyn
  go_enter Try.func81, Try.ntmps81
  go_wp2_with (at_make; refine wpList_make_full _ rfl _ _ 106 rfl w.heap.size 115 i0 (.agg #[.int .i64 0, .bool false, .int .i64 0, .bool false]) 4 Try.underlying106 hi hz0 hz1 _ _ _ _ n rfl rfl rfl rfl (by rw [hz2]; omega) (by unfold maxLen; omega) (Nat.le_refl _) ?_; intro w1 hown hg; refine Hid.out ?_)
  have h1 : Syns w1 w.heap.size (.slice (some ⟨w.heap.size, 0, none⟩) n n) ((mirS p).take 0 ++ List.replicate (n - 0) s0) := by
    have e := made_flat synV_len s0 n (by decide)
    unfold Syns OwnK
    rw [List.take_zero, List.nil_append, Nat.sub_zero, List.length_replicate, ← e]
    exact hown
  have hb1 : Below w.heap.size w w1 := (Below.refl _ _).grown hg (Nat.le_refl _) (by simp)
  clear hown hg hi hz0 hz1 hz2
  refine Lib.hid ?_
  go_wp2
  go_loopw [11] (fun i wr => ∃ k : Nat, k ≤ n ∧ i = .int .i64 k ∧ Syns wr w.heap.size (.slice (some ⟨w.heap.size, 0, none⟩) n n) ((mirS p).take k ++ List.replicate (n - k) s0) ∧ Below w.heap.size w wr) (fun i _ => n - (intOf i).toNat)
  case atStart => exact ⟨0, Nat.zero_le _, rfl, h1, hb1⟩
  case round =>
    clear h1 hb1
    obtain ⟨k, hk, rfl, hr, hb⟩ := hrel
    by_cases hlt : k < n
    · obtain ⟨c0, c1, c2, c3⟩ := (HC.out k hlt).below hb hg
      have hkl := HLL.out k hlt
      have HSK := Lib.hid (HS.out k hlt)
      clear HC HS HF HLL
      generalize (mirS p).take k ++ List.replicate (n - k) s0 = zs at *
      generalize p.getD k s0 = y at *
      obtain ⟨⟨y0, y1⟩, y2, y3⟩ := y
      simp only at c0 c1 c2 c3 HSK
      have hr2 := hr.alloc (.cells #[.int .i64 y0, .bool y1, .int .i64 y2, .bool y3] 115)
      obtain ⟨d0, d1, d2, d3⟩ := hr2.four k hkl
      generalize zs.getD k s0 = x at *
      have f0 := hr2.free (k * 4)
      have f1 := hr2.free (k * 4 + 1)
      have f2 := hr2.free (k * 4 + 2)
      have f3 := hr2.free (k * 4 + 3)
      have HN := Lib.hid (hr2.put4 k hkl ((y2, y3), (y0, y1)))
      rw [HSK.out] at HN
      have hbn := below_four (hb.alloc hb.size (.cells #[.int .i64 y0, .bool y1, .int .i64 y2, .bool y3] 115)) (g := w.heap.size) (o := k * 4) (Nat.le_refl _) (.int .i64 y2) (.bool y3) (.int .i64 y0) (.bool y1)
      clear hr hr2 hb HSK
      go_wp2
      go_roundw
      case rel => exact ⟨k + 1, by omega, by go_num, HN.out, hbn⟩
      case measure => simp [intOf]; omega
    · obtain rfl : k = n := by omega
      rw [HF.out] at hr
      clear HC HS HF HLL
      go_wp2
      go_ret
      exact ⟨rfl, by simpa using hr, hb⟩

theorem mirrored_any (v : Value) (B : Nat) (p : List Syn) (w : World) (h : Syns w B v p) (h1 : 1 ≤ p.length) (h6 : p.length ≤ 6) :
    Calls Try.prog 81 #[v] w fun e w' => ∃ u, e = .returned u ∧ Syns w' w.heap.size u (mirS p) ∧ Below w.heap.size w w' := by
  obtain ⟨g, cap, rfl, _, hg, _, _⟩ := h.shape2 h1
  exact (mirrored_row g cap p.length p w h1 h6 rfl hg h.beats).mono fun e w' ⟨h1, h2, h3⟩ => ⟨_, h1, h2, h3⟩

set_option maxRecDepth 10000 in
theorem mirrorSync_impl (v : Value) (B : Nat) (p : List Syn) (w : World) (h : Syns w B v p) :
    Calls Try.prog 30 #[v] w fun e w' => ∃ u, e = .returned (.tuple #[u, .int .i64 (okSC p)]) ∧ Syns w' w.heap.size u (mirR p) ∧ Below w.heap.size w w' := by
  have HO := validSync_impl v B p w h
  cases hok : okS p with
  | false =>
    rw [okSC_false hok, mirR, if_neg (by simp [hok])]
    rw [hok] at HO
    clear h hok
    go_enter Try.func30, Try.ntmps30
    go_wp2_with fail
    refine HO.mono ?_
    rintro e w1 ⟨rfl, b1⟩
    clear HO
    go_wp2
    go_ret2
    exact ⟨_, rfl, OwnK.nil _ _ _ _ _, b1⟩
  | true =>
    rw [okSC_true hok, mirR, if_pos hok]
    rw [hok] at HO
    have hl := okSL_len (okS_list hok)
    have HM := fun W (hW : Below w.heap.size w W) => mirrored_any v B p W (h.below hW) hl.1 hl.2
    clear h hok hl
    go_enter Try.func30, Try.ntmps30
    go_wp2_with fail
    refine HO.mono ?_
    rintro e w1 ⟨rfl, b1⟩
    clear HO
    go_wp2_with fail
    refine (HM _ b1).mono ?_
    rintro e w2 ⟨u, rfl, i2, b2⟩
    have i3 := i2.mono b1.size
    replace b1 := b1.trans (b2.mono b1.size)
    clear HM b2 i2
    go_wp2
    go_ret2
    exact ⟨_, rfl, i3, b1⟩

theorem slideL_at (p : List Syn) (k : Nat) (h : k < 2 * p.length) : (slideL p).getD k 0 = slid ((thrs p).getD k t0) (k % 2) := by simp [slideL, h]

theorem mirR_len (p : List Syn) : (mirR p).length ≤ 6 := by
  unfold mirR
  split
  · rename_i h; rw [mirS_len]; exact (okSL_len (okS_list h)).2
  · simp
theorem slideR_len (p : List Syn) : (slideR p).length ≤ 12 := by
  unfold slideR
  split
  · rename_i h; rw [slideL_len]; have := (okSL_len (okS_list h)).2; omega
  · simp
end Go.Proofs.Ytgjmhihomklooaa
