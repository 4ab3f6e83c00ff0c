/- The orbits of a pattern, the program's: firsts, way. Conditions: links that are all joined. -/
import Derived.Test.YtlpeigeadjojnabOrJ
import Derived.Test.YtlpeigeadjojnabOrS
import Derived.WalkMore
import Derived.ScopeJumps
namespace Go.Proofs.Ytlpeigeadjojnab
open Go.RowKit
set_option linter.unusedSimpArgs false
set_option linter.unusedVariables false

set_option maxRecDepth 10000 in
set_option maxHeartbeats 1000000 in
theorem firsts_any (v : Value) (B g : Nat) (u : Nat → Option Nat) (p : List Int) (w : World) (hv : ∃ a n c, v = .slice a n c) (hL : Links p u p.length) (h : Lks w B g p.length p.length u) (hok : okPat p = true) :
    Calls Try.prog 35 #[.agg #[v, .slice (some ⟨g, 0, none⟩) p.length p.length]] w fun e w' => ∃ x, e = .returned x ∧ Ints w' w.heap.size x (ints (fsts p)) ∧ Below w.heap.size w w' := by
  obtain ⟨va, vn, vc, rfl⟩ := hv
  obtain ⟨l1, l2⟩ := okPat_len hok
  have HC := Lib.hid (fun W (hW : Below w.heap.size w W) j (hj : j < p.length) => Lks.two (h.below hW) j hj)
  have HF := Lib.hid (fun j (hj : j < p.length) => hL.isFirst hok hj)
  have HY := Lib.hid (fun k => fstL_yes (p := p) (k := k))
  have HN := Lib.hid (fun k => fstL_no (p := p) (k := k))
  have HLN := Lib.hid (fun k => fstL_len p k)
  have HI := Lib.hid ints_snoc
  have h0 : ints (fstL p 0) = [] := rfl
  have H0 := Lib.hid h0
  clear h hL hok h0
  unfold fsts
  generalize p.length = n at *
  go_enter Try.func35, Try.ntmps35
  have b0 := (Below.refl w.heap.size w).alloc (Nat.le_refl _) (.cells #[.slice va vn vc, .slice (some ⟨g, 0, none⟩) n n] 52)
  go_wp2
  go_loopw [3, 9] (fun x i wr => ∃ k : Nat, k ≤ n ∧ i = .int .i64 k ∧ Ints wr w.heap.size x (ints (fstL p k)) ∧ Below w.heap.size w wr) (fun _ i _ => n - (intOf i).toNat)
  case atStart => exact ⟨0, Nat.zero_le _, rfl, by rw [H0.out]; exact Ints.nil _ _, b0⟩
  case round =>
    obtain ⟨k, hk, rfl, hi, hb⟩ := hrel
    clear b0
    by_cases hlt : k < n
    · obtain ⟨c0, c1⟩ := HC.out wr hb k hlt
      have hbs := hb.size
      have hln := HLN.out k
      cases hu : u k with
      | none =>
        rw [hu] at c1
        have c1' : wr.cell? ⟨g, k * 2 + 1, none⟩ = some (.pointer none) := c1
        have e1 := HY.out k ((HF.out k hlt).1 hu)
        have E := Lib.hid (show ints (fstL p (k + 1)) = ints (fstL p k) ++ [(k : Int)] by rw [e1, HI.out])
        have hi2 := hi.alloc (.cells #[.int .i64 k, .pointer none] 58)
        have hb2 := hb.alloc hbs (.cells #[.int .i64 k, .pointer none] 58)
        have hlen : (ints (fstL p k)).length ≤ 1000 := by rw [ints_len]; omega
        have hbs2 := hb2.size
        clear c1 e1 HC HF HY HN HLN HI hu hi hb
        go_wp2_with (at_builtin; refine append_int _ rfl _ _ rfl _ _ _ rfl hi2 (k : Int) (by first | rfl | (rw [World.size_alloc]; rfl)) (by omega) hbs2 ?_; intro v' w3 hi3 hg3; refine Hid.out ?_)
        have hb3 := hi2.below_grown hb2 hbs2 hg3
        rw [← E.out] at hi3
        clear hg3 hi2 hb2
        refine Lib.hid ?_
        go_wp2
        go_roundw
        case rel => exact ⟨k + 1, by omega, by go_num, hi3, hb3⟩
        case measure => simp [intOf]; omega
      | some m =>
        rw [hu] at c1
        have c1' : wr.cell? ⟨g, k * 2 + 1, none⟩ = some (.pointer (some ⟨g, m * 2, none⟩)) := c1
        have e1 := HN.out k (fun e => by have := (HF.out k hlt).2 e; rw [hu] at this; cases this)
        have hi2 := hi.alloc (.cells #[.int .i64 k, .pointer (some ⟨g, m * 2, none⟩)] 58)
        have hb2 := hb.alloc hbs (.cells #[.int .i64 k, .pointer (some ⟨g, m * 2, none⟩)] 58)
        rw [← e1] at hi2
        clear c1 e1 HC HF HY HN HLN HI hu hi hb
        go_wp2
        go_roundw
        case rel => exact ⟨k + 1, by omega, by go_num, hi2, hb2⟩
        case measure => simp [intOf]; omega
    · obtain rfl : k = n := by omega
      clear HC HF HY HN HLN HI
      go_wp2
      go_ret
      exact ⟨_, rfl, hi, hb⟩

set_option maxRecDepth 10000 in
set_option maxHeartbeats 1000000 in
theorem way_any (v y : Value) (B : Nat) (p : List Int) (i : Nat) (w : World) (h : Ints w B v p) (hy : ∃ a n c, y = .slice a n c) (hok : okPat p = true) (hi : i < p.length) :
    Calls Try.prog 47 #[.agg #[v, y], .int .i64 i] w fun e w' => ∃ x, e = .returned x ∧ Ints w' w.heap.size x (ints (wayL p i)) ∧ Below w.heap.size w w' := by
  obtain ⟨ya, yn, yc, rfl⟩ := hy
  obtain ⟨l1, l2⟩ := okPat_len hok
  obtain ⟨g0, cap, e, _, hg0, _, _⟩ := h.shape2 l1
  subst e
  have HLA := Lib.hid (fun (m : Nat) W (hW : Below w.heap.size w W) => show Calls Try.prog 46 #[.slice (some ⟨g0, 0, none⟩) p.length cap, .int .i64 (itr p i m : Nat)] W fun e W' => e = .returned (.int .i64 (itr p i (m + 1) : Nat)) ∧ ∃ q, W' = W.drewN q from by
    have := landing_core g0 p.length cap (itr p i m) (p.getD (itr p i m) 0) W l1 l2 (itr_lt hok hi m) (okPat_at hok _ (itr_lt hok hi m)) ((h.below hW).cell _ (itr_lt hok hi m))
    rw [itr_succ, nxt_cast hok]
    exact this)
  obtain ⟨q1, q2, q3, q4⟩ := per_spec hok hi
  have HWS := Lib.hid (fun m => wayK_snoc p i m)
  have HWL := Lib.hid (fun m => wayK_len p i m)
  have HWA := Lib.hid (wayK_all p i)
  have HQ3 := Lib.hid q3
  have HQ4 := Lib.hid q4
  have H0 := Lib.hid (itr_zero p i)
  have hx0 : Ints (w.alloc (.cells #[.slice (some ⟨g0, 0, none⟩) p.length cap, .slice ya yn yc] 52)) (w.heap.size + 1) (.slice none 0 0) (wayK p i 0) := Ints.nil _ _
  have hz0 : w.heap.size + 1 ≤ (w.alloc (.cells #[.slice (some ⟨g0, 0, none⟩) p.length cap, .slice ya yn yc] 52)).heap.size := by simp
  have b0 := (Below.refl w.heap.size w).alloc (Nat.le_refl _) (.cells #[.slice (some ⟨g0, 0, none⟩) p.length cap, .slice ya yn yc] 52)
  have bs0 := b0.size
  have k0 : (w.alloc (.cells #[.slice (some ⟨g0, 0, none⟩) p.length cap, .slice ya yn yc] 52)).cell? ⟨w.heap.size, 0, none⟩ = some (.slice (some ⟨g0, 0, none⟩) p.length cap) := (Blk.made w #[.slice (some ⟨g0, 0, none⟩) p.length cap, .slice ya yn yc] 52).cell 0
  clear h hok q3 q4
  go_enter Try.func47, Try.ntmps47
  go_wp2
  refine wp_scope_jumps 0 (fun a' w' => ∃ (m : Nat) (x u7 u8 u9 u10 u11 u12 u13 u14 u15 u16 u17 u18 : Value), a' = { tmps := #[.agg #[.slice (some ⟨g0, 0, none⟩) p.length cap, .slice ya yn yc], .int .i64 i, .pointer (some ⟨w.heap.size, 0, none⟩), undef, .slice none 0 0, x, .int .i64 (itr p i m : Nat), u7, u8, u9, u10, u11, u12, u13, u14, u15, u16, u17, u18, undef], defers := [] } ∧ 1 ≤ m ∧ m < per p i ∧ Ints w' (w.heap.size + 1) x (wayK p i m) ∧ w'.cell? ⟨w.heap.size, 0, none⟩ = some (.slice (some ⟨g0, 0, none⟩) p.length cap) ∧ Below w.heap.size w w') (fun a' _ => p.length - slLen (a'.tmps.getD 5 undef)) rfl ?_ ?_
  · go_wp2
    go_step3
    go_wp2_with (at_builtin; refine append_int _ rfl _ _ rfl _ _ _ rfl hx0 (i : Int) (by first | rfl | (rw [World.size_alloc]; rfl)) (by rw [HWL.out]; omega) hz0 ?_; intro v' w3 hi3 hg3; refine Hid.out ?_)
    have hb3 := marked_below b0 hx0 (by omega) hg3
    have k3 := hg3.cell k0 (fun e => by have := hx0.own_ge e.symm; simp at this; omega)
    replace hi3 : Ints w3 (w.heap.size + 1) v' (wayK p i (0 + 1)) := by rw [wayK_snoc]; exact hi3
    clear hg3
    refine Lib.hid ?_
    go_wp2_with fail
    refine (HLA.out 0 _ hb3).mono ?_
    rintro e w4 ⟨rfl, q4, rfl⟩
    have hi4 : Ints (w3.drewN q4) (w.heap.size + 1) v' (wayK p i (0 + 1)) := hi3
    have hb4 := below_drewN hb3 q4
    have k4 : (w3.drewN q4).cell? ⟨w.heap.size, 0, none⟩ = some (.slice (some ⟨g0, 0, none⟩) p.length cap) := k3
    clear hi3 hb3 k3
    by_cases hp : per p i = 0 + 1
    · have hback : itr p i (0 + 1) = i := by rw [← hp]; exact HQ3.out
      have hA : Ints (w3.drewN q4) (w.heap.size + 1) v' (ints (wayL p i)) := by rw [← HWA.out, hp]; exact hi4
      clear hi4 k4
      rw [hback]
      go_wp2
      simp only [Exit.jump]
      go_ret
      exact ⟨_, rfl, hA.mono (by omega), hb4⟩
    · have hback := HQ4.out (0 + 1) (by omega) (by omega)
      have hpl : 0 + 1 < per p i := by omega
      have hbk : (((itr p i (0 + 1) : Nat) : Int) != (i : Int)) = true := bne_iff_ne.2 (by omega)
      have HS4 := Lib.hid (show slLen v' = 0 + 1 by rw [hi4.slLen, HWL.out])
      generalize hG : itr p i (0 + 1) = nx at *
      have HG := Lib.hid hG
      clear hG
      go_wp2
      go_step3
      refine ⟨rfl, 0 + 1, _, _, _, _, _, _, _, _, _, _, _, _, _, by rw [HG.out], by omega, hpl, hi4, k4, hb4⟩
  · rintro a' w' ⟨m, x, u7, u8, u9, u10, u11, u12, u13, u14, u15, u16, u17, u18, rfl, hm1, hm2, hi, hc, hb⟩
    go_wp2_with (at_builtin; refine append_int _ rfl _ _ rfl _ _ _ rfl hi (itr p i m : Int) (by first | rfl | (rw [World.size_alloc]; rfl)) (by rw [HWL.out]; omega) (by have := cell_block hc; simp at this; omega) ?_; intro v' w3 hi3 hg3; refine Hid.out ?_)
    have hb3 := marked_below hb hi (by omega) hg3
    have k3 := hg3.cell hc (fun e => by have := hi.own_ge e.symm; simp at this; omega)
    rw [← HWS.out] at hi3
    clear hg3
    refine Lib.hid ?_
    go_wp2_with fail
    refine (HLA.out m _ hb3).mono ?_
    rintro e w4 ⟨rfl, q4, rfl⟩
    have hi4 : Ints (w3.drewN q4) (w.heap.size + 1) v' (wayK p i (m + 1)) := hi3
    have hb4 := below_drewN hb3 q4
    have k4 : (w3.drewN q4).cell? ⟨w.heap.size, 0, none⟩ = some (.slice (some ⟨g0, 0, none⟩) p.length cap) := k3
    clear hi3 hb3 k3
    by_cases hp : per p i = m + 1
    · have hback : itr p i (m + 1) = i := by rw [← hp]; exact HQ3.out
      have hA : Ints (w3.drewN q4) (w.heap.size + 1) v' (ints (wayL p i)) := by rw [← HWA.out, hp]; exact hi4
      clear hi4 k4
      rw [hback]
      go_wp2
      simp only [Exit.jump]
      go_ret
      exact ⟨_, rfl, hA.mono (by omega), hb4⟩
    · have hback := HQ4.out (m + 1) (by omega) (by omega)
      have hpl : m + 1 < per p i := by omega
      have hbk : (((itr p i (m + 1) : Nat) : Int) != (i : Int)) = true := bne_iff_ne.2 (by omega)
      have HS4 := Lib.hid (show slLen v' = m + 1 by rw [hi4.slLen, HWL.out])
      generalize hG : itr p i (m + 1) = nx at *
      have HG := Lib.hid hG
      clear hG
      go_wp2
      go_step3
      refine ⟨rfl, ⟨m + 1, _, _, _, _, _, _, _, _, _, _, _, _, _, by rw [HG.out], by omega, hpl, hi4, k4, hb4⟩, ?_⟩
      have h5 := hi.slLen
      have h6 := HWL.out m
      have h7 := HS4.out
      simp
      omega
end Go.Proofs.Ytlpeigeadjojnab
