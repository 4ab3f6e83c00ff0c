/- The program's chapter 3, fourth part: ReversePattern, IsSymmetric, DualPattern answer as the plain mathematics says. No conditions. -/
import Derived.Test.YtdnihapijlchlaaImplFiv
namespace Go.Proofs.Ytdnihapijlchlaa
open Go.RowKit
set_option linter.unusedSimpArgs false
set_option linter.unusedVariables false

theorem reversed_any (v : Value) (B : Nat) (p : List Int) (w : World) (h : Ints w B v p) (hok : okPat p = true) :
    Calls Try.prog 100 #[v] w fun e w' => ∃ u, e = .returned u ∧ Ints w' w.heap.size u (revL p) ∧ Below w.heap.size w w' := by
  obtain ⟨l1, l2⟩ := okPat_len hok
  obtain ⟨g, cap, rfl, _, hg, hc, hm⟩ := h.shape2 l1
  exact reversed_core g cap p.length B p (fun i => p.getD i 0) (lnd p) (revL p) w h l1 l2 hg (fun i hi => okPat_at hok i hi) (fun i hi => h.cell i hi) (fun i hi => rfl) (fun i hi => lnd_bound p l1 i) (okPat_distinct hok)
    (fun q' hl hq => revL_unique hok hl hq)

theorem reversePattern_impl (v : Value) (B : Nat) (p : List Int) (w : World) (h : Ints w B v p) :
    Calls Try.prog 67 #[v] w fun e w' => ∃ u, e = .returned (.tuple #[u, .int .i64 (okC p)]) ∧ Ints w' w.heap.size u (resA (okC p) (revL p)) ∧ Below w.heap.size w w' := by
  have HC := changed_reversed v B p (revL p) w h fun hok W hW => reversed_any v B p W hW hok
  clear h
  go_enter Try.func67, Try.ntmps67
  go_wp2_with fail
  refine HC.mono ?_
  rintro e w1 ⟨u, rfl, i1, b1⟩
  go_wp2
  go_ret2
  exact ⟨_, rfl, i1, b1⟩

/-- is a list a pattern that is its own reversal, up to rotation? -/
def symB (p : List Int) : Bool := okPat p && sameL (canL p) (canL (revL p))

theorem isSymmetric_impl (v : Value) (B : Nat) (p : List Int) (w : World) (h : Ints w B v p) :
    Calls Try.prog 27 #[v] w fun e w' => e = .returned (.bool (symB p)) ∧ Below w.heap.size w w' := by
  cases hok : okPat p with
  | false =>
    rw [show symB p = false from by simp [symB, hok]]
    have HR := reversePattern_impl v B p w h
    rw [okC_false hok] at HR
    clear hok h
    go_enter Try.func27, Try.ntmps27
    go_wp2_with fail
    refine HR.mono ?_
    rintro e w1 ⟨u, rfl, i1, b1⟩
    go_wp2
    go_ret
    exact ⟨rfl, b1⟩
  | true =>
    have hs : symB p = alikeB p (revL p) := by simp [symB, alikeB, hok, revL_ok hok]
    rw [hs]
    have HR := reversePattern_impl v B p w h
    rw [okC_true hok, resA_ok] at HR
    clear hok hs
    go_enter Try.func27, Try.ntmps27
    go_wp2_with fail
    refine HR.mono ?_
    rintro e w1 ⟨u, rfl, i1, b1⟩
    clear HR
    have hp := h.below b1
    have hz := b1.size
    clear h
    go_wp2_with fail
    refine (alikePatterns_impl _ _ _ _ _ _ _ hp i1).mono ?_
    rintro e w2 ⟨rfl, b2⟩
    go_wp2
    go_ret
    exact ⟨rfl, b1.trans (b2.mono hz)⟩

/-- a list whose first and last k numbers are exchanged -/
def flipL (p : List Int) (k : Nat) : List Int := (List.range p.length).map (fun x => if x < k ∨ p.length ≤ x + k then p.getD (p.length - 1 - x) 0 else p.getD x 0)
theorem flipL_len (p : List Int) (k : Nat) : (flipL p k).length = p.length := by simp [flipL]
theorem flipL_get (p : List Int) (k x : Nat) (hx : x < p.length) : (flipL p k).getD x 0 = if x < k ∨ p.length ≤ x + k then p.getD (p.length - 1 - x) 0 else p.getD x 0 := getD_mk _ _ _ hx
theorem flipL_zero (p : List Int) : flipL p 0 = p := ext_getD (flipL_len _ _) fun i hi => by
  rw [flipL_len] at hi
  rw [flipL_get p 0 i hi, if_neg (by omega)]
theorem flipL_step (p : List Int) (k j : Nat) (h : k + j + 1 = p.length) (hkj : k < j) : ((flipL p k).set k (p.getD j 0)).set j (p.getD k 0) = flipL p (k + 1) := by
  refine ext_getD (by simp [flipL_len]) fun i hi => ?_
  simp [flipL_len] at hi
  rw [getD_upd _ _ _ _ (by simp [flipL_len]; omega), getD_upd _ _ _ _ (by rw [flipL_len]; omega), flipL_get p _ i hi, flipL_get p _ i hi]
  by_cases h1 : i = j
  · rw [if_pos h1, if_pos (by omega)]; congr 1; omega
  · rw [if_neg h1]
    by_cases h2 : i = k
    · rw [if_pos h2, if_pos (by omega)]; congr 1; omega
    · rw [if_neg h2]
      by_cases h3 : i < k ∨ p.length ≤ i + k
      · rw [if_pos h3, if_pos (by omega)]
      · rw [if_neg h3, if_neg (by omega)]
theorem flipL_end (p : List Int) (k j : Nat) (h : k + j + 1 = p.length) (hkj : ¬ k < j) : flipL p k = (List.range p.length).map (fun x => p.getD (p.length - 1 - x) 0) := by
  refine ext_getD (by simp [flipL_len]) fun i hi => ?_
  rw [flipL_len] at hi
  rw [flipL_get p k i hi, getD_mk _ _ _ hi]
  by_cases h3 : i < k ∨ p.length ≤ i + k
  · rw [if_pos h3]
  · rw [if_neg h3]; congr 1; omega

set_option maxHeartbeats 400000 in
theorem slicesReverse_core (g cap n B : Nat) (L : Nat → List Int) (x : Nat → Int) (R : List Int) (w : World) (hn1 : 1 ≤ n) (hn2 : n ≤ 1000) (hB : B ≤ g)
    (h : Ints w B (.slice (some ⟨g, 0, none⟩) n cap) (L 0)) (hl : ∀ k, (L k).length = n) (hx : ∀ k j, k + j + 1 = n → k < j → (L k).getD k 0 = x k ∧ (L k).getD j 0 = x j)
    (hs : ∀ k j, k + j + 1 = n → k < j → ((L k).set k (x j)).set j (x k) = L (k + 1)) (he : ∀ k j, k + j + 1 = n → ¬ k < j → L k = R) :
    Calls Try.prog 79 #[.slice (some ⟨g, 0, none⟩) n cap] w fun e w' => e = .returned (.tuple #[]) ∧ Ints w' B (.slice (some ⟨g, 0, none⟩) n cap) R ∧ Below B w w' := by
  have HL := Lib.hid hl
  have HX := Lib.hid hx
  have HS := Lib.hid hs
  have HE := Lib.hid he
  clear hl hx hs he
  go_enter Try.func79, Try.ntmps79
  go_wp2
  go_loopw [2, 3] (fun i r wr => ∃ k j : Nat, k + j + 1 = n ∧ k ≤ j + 1 ∧ i = .int .i64 k ∧ r = .int .i64 j ∧ Ints wr B (.slice (some ⟨g, 0, none⟩) n cap) (L k) ∧ Below B w wr) (fun i _ _ => n - (intOf i).toNat)
  case atStart => exact ⟨0, n - 1, by omega, by omega, rfl, by congr 1; omega, h, Below.refl _ _⟩
  case round =>
    clear h
    obtain ⟨k, j, hkj, hkj1, rfl, rfl, hr, hb⟩ := hrel
    by_cases hlt : k < j
    · obtain ⟨xk, xj⟩ := HX.out k j hkj hlt
      have hlen := HL.out k
      have ck := hr.cell k (by omega)
      have cj := hr.cell j (by omega)
      rw [xk] at ck
      rw [xj] at cj
      have fk := hr.free k
      have fj := hr.free j
      have hn := (hr.set k (x j)).set j (x k)
      rw [HS.out k j hkj hlt] at hn
      have hbn := below_cellset (below_cellset hb k hB (.int .i64 (x j))) j hB (.int .i64 (x k))
      have hne : ¬ k = j := by omega
      have hkn : k < n := by omega
      have hjn : j < n := by omega
      clear xk xj hlen hr hb
      generalize x k = a at *
      generalize x j = b at *
      have HK := Lib.hid hkj
      clear hkj
      go_wp2
      go_region
      go_wp2
      go_roundw
      case rel => exact ⟨k + 1, j - 1, by have := HK.out; omega, by omega, by go_num, by go_num, hn, below_drew1 hbn⟩
      case measure => simp [intOf]; omega
    · have hR := HE.out k j hkj hlt
      rw [hR] at hr
      have HK := Lib.hid hkj
      clear hkj hR
      go_wp2
      go_end0
      exact ⟨rfl, hr, hb⟩

/-- a list backwards -/
def backL (p : List Int) : List Int := (List.range p.length).map (fun x => p.getD (p.length - 1 - x) 0)
theorem backL_len (p : List Int) : (backL p).length = p.length := by simp [backL]
theorem backL_get (p : List Int) (k : Nat) (hk : k < p.length) : (backL p).getD k 0 = p.getD (p.length - 1 - k) 0 := getD_mk _ _ _ hk
theorem slicesReverse_any (g cap B : Nat) (p : List Int) (w : World) (hn1 : 1 ≤ p.length) (hn2 : p.length ≤ 1000) (hB : B ≤ g) (h : Ints w B (.slice (some ⟨g, 0, none⟩) p.length cap) p) :
    Calls Try.prog 79 #[.slice (some ⟨g, 0, none⟩) p.length cap] w fun e w' => e = .returned (.tuple #[]) ∧ Ints w' B (.slice (some ⟨g, 0, none⟩) p.length cap) (backL p) ∧ Below B w w' :=
  slicesReverse_core g cap p.length B (flipL p) (fun i => p.getD i 0) (backL p) w hn1 hn2 hB (by rw [flipL_zero]; exact h) (flipL_len p)
    (fun k j hkj hlt => ⟨by rw [flipL_get p k k (by omega), if_neg (by omega)], by rw [flipL_get p k j (by omega), if_neg (by omega)]⟩) (fun k j hkj hlt => flipL_step p k j hkj hlt) (fun k j hkj hlt => flipL_end p k j hkj hlt)

set_option maxHeartbeats 1000000 in
theorem dualPattern_impl (v : Value) (B : Nat) (p : List Int) (s : Int) (w : World) (h : Ints w B v p) :
    Calls Try.prog 39 #[v, .int .i64 s] w fun e w' => ∃ u, e = .returned (.tuple #[u, .int .i64 (patC p (inB s (highA p) 15) 0)]) ∧ Ints w' w.heap.size u (resA (patC p (inB s (highA p) 15) 0) (dualL p s)) ∧ Below w.heap.size w w' := by
  cases hok : okPat p with
  | false =>
    rw [patC_bad _ _ hok, resA_bad _ _ (by decide)]
    have HR := highestOf_impl v B p w h
    rw [okC_false hok] at HR
    clear hok h
    go_enter Try.func39, Try.ntmps39
    go_wp2_with fail
    refine HR.mono ?_
    rintro e w' ⟨rfl, hb⟩
    go_wp2
    go_ret2
    exact ⟨_, rfl, Ints.nil _ _, hb⟩
  | true =>
    obtain ⟨l1, l2⟩ := okPat_len hok
    obtain ⟨g, cap, rfl, _, hg, hc, hm⟩ := h.shape2 l1
    have HR := highestOf_impl _ B p w h
    rw [okC_true hok] at HR
    have hhb : 0 ≤ highA p ∧ highA p ≤ 15 := by rw [highA_true hok]; exact hiF_bound _ _ (fun i hi => okPat_at hok i hi)
    cases hin : inB s (highA p) 15 with
    | false =>
      rw [patC_far _ hok, resA_bad _ _ (by decide)]
      have hcs : s < highA p ∨ (¬ s < highA p ∧ 15 < s) := by
        refine Classical.byContradiction fun hn => ?_
        rw [inB_true (by omega)] at hin
        cases hin
      clear hin hok h
      generalize highA p = hi at *
      rcases hcs with hs | ⟨hs1, hs⟩
      · go_enter Try.func39, Try.ntmps39
        go_wp2_with fail
        refine HR.mono ?_
        rintro e w' ⟨rfl, hb⟩
        go_wp2
        go_ret2
        exact ⟨_, rfl, Ints.nil _ _, hb⟩
      · go_enter Try.func39, Try.ntmps39
        go_wp2_with fail
        refine HR.mono ?_
        rintro e w' ⟨rfl, hb⟩
        go_wp2
        go_ret2
        exact ⟨_, rfl, Ints.nil _ _, hb⟩
    | true =>
      rw [patC_ok _ hok, resA_ok]
      obtain ⟨hb1, hb2⟩ := inB_iff.1 hin
      have hx := fun i hi => okPat_at hok i hi
      have HST : Hid (∀ k, k < p.length → (((dualL p s).take k ++ (backL p).drop k).set k (s - (backL p).getD k 0) = (dualL p s).take (k + 1) ++ (backL p).drop (k + 1) ∧ ((dualL p s).take k ++ (backL p).drop k).getD k 0 = (backL p).getD k 0) ∧ (0 ≤ (backL p).getD k 0 ∧ (backL p).getD k 0 ≤ 15)) :=
        fun k hk => ⟨⟨mix_set (by rw [dualL_len, backL_len]) (by rw [backL_len]; exact hk) (by rw [dualL_getD p s k hk, backL_get p k hk]), mix_get (by rw [dualL_len, backL_len]) (by rw [backL_len]; exact hk)⟩, by rw [backL_get p k hk]; exact hx _ (by omega)⟩
      have HLEN : Hid (∀ k, k < p.length → k < ((dualL p s).take k ++ (backL p).drop k).length) := fun k hk => by simp [dualL_len, backL_len]; omega
      have HEND : Hid ((dualL p s).take p.length ++ (backL p).drop p.length = dualL p s) := by have := mix_end (q := dualL p s) (p := backL p) (by rw [dualL_len, backL_len]); rwa [backL_len] at this
      have HREV := fun g2 cap2 w2 hB hi => slicesReverse_any g2 cap2 w.heap.size p w2 l1 (by omega) hB hi
      have hs1 : ¬ s < highA p := by omega
      have hs2 : ¬ 15 < s := by omega
      have hs0 : 0 ≤ s := by omega
      generalize dualL p s = q at *
      generalize backL p = bk at *
      generalize highA p = hi at *
      clear hok hin hx
      go_enter Try.func39, Try.ntmps39
      go_wp2_with fail
      refine HR.mono ?_
      rintro e w1 ⟨rfl, b1⟩
      have hs := b1.size
      clear HR
      go_wp2_with fail
      refine (joined_none _ p _ ((h.below b1).sees l1) l1 (by omega)).mono ?_
      rintro e w2 ⟨u, rfl, i2, b2⟩
      have B2 := b1.trans (b2.mono hs)
      clear h b2 b1
      obtain ⟨g2, cap2, rfl, hg2, hg2', hc2, hm2⟩ := i2.shape2 l1
      have hwg : w.heap.size ≤ g2 := by omega
      have HV := HREV g2 cap2 w2 hwg (i2.mono hs)
      clear i2 HREV
      obtain ⟨n, hn⟩ : ∃ n, n = p.length := ⟨_, rfl⟩
      rw [← hn] at l1 l2 HST HLEN HEND hc hc2 HV ⊢
      clear hn
      go_wp2_with fail
      refine HV.mono ?_
      rintro e w3 ⟨rfl, i3, b3⟩
      have B3 := B2.trans b3
      have i3 : Ints w3 w.heap.size (.slice (some ⟨g2, 0, none⟩) n cap2) (q.take 0 ++ bk.drop 0) := by simpa using i3
      clear HV b3 B2
      go_wp2
      go_loopw [9, 10, 32] (fun _ _ i wr => ∃ k : Nat, k ≤ n ∧ i = .int .i64 k ∧ Ints wr w.heap.size (.slice (some ⟨g2, 0, none⟩) n cap2) (q.take k ++ bk.drop k) ∧ Below w.heap.size w wr) (fun _ _ i _ => n - (intOf i).toNat)
      case atStart => exact ⟨0, Nat.zero_le _, rfl, i3, B3⟩
      case round =>
        clear i3 B3
        obtain ⟨k, hk, rfl, hi, hb⟩ := hrel
        by_cases hlt : k < n
        · obtain ⟨⟨hset, hget⟩, hx1, hx2⟩ := HST.out k hlt
          have c2 := hi.cell k (HLEN.out k hlt)
          rw [hget] at c2
          have f2 := hi.free k
          have i3 := hi.set k (s - bk.getD k 0)
          rw [hset] at i3
          have b3 := below_cellset hb k hwg (.int .i64 (s - bk.getD k 0))
          clear hi hb hset hget
          generalize bk.getD k 0 = x at *
          go_wp2
          go_roundw
          case rel => exact ⟨k + 1, by omega, by go_num, i3, b3⟩
          case measure => simp [intOf]; omega
        · obtain rfl : k = n := by omega
          rw [HEND.out] at hi
          go_wp2
          go_ret2
          exact ⟨_, rfl, hi, hb⟩
end Go.Proofs.Ytdnihapijlchlaa
