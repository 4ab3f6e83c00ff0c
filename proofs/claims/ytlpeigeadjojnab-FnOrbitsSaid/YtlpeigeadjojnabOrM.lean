/- The props of the orbits: OrbitProps, the model's and the program's. No conditions. -/
import Derived.Test.YtlpeigeadjojnabOrL
namespace Go.Proofs.Ytlpeigeadjojnab
open Go.RowKit
set_option linter.unusedSimpArgs false
set_option linter.unusedVariables false

/-- the sum of the first k throws of an orbit -/
def wsK (p : List Int) (i k : Nat) : Int := (((wayL p i).take k).map fun j => p.getD j 0).sum
def wsum (p : List Int) (i : Nat) : Int := ((wayL p i).map fun j => p.getD j 0).sum
theorem wsK_zero (p : List Int) (i : Nat) : wsK p i 0 = 0 := rfl
theorem wsK_all (p : List Int) (i : Nat) : wsK p i (wayL p i).length = wsum p i := by rw [wsK, List.take_length, wsum]
theorem wsK_succ (p : List Int) (i k : Nat) (hk : k < (wayL p i).length) : wsK p i (k + 1) = wsK p i k + p.getD ((wayL p i).getD k 0) 0 := by
  unfold wsK
  rw [List.take_succ_eq_append_getElem hk, List.map_append, List.sum_append]
  simp [hk]
theorem way_at {p : List Int} (hok : okPat p = true) {i k : Nat} (hi : i < p.length) (hk : k < (wayL p i).length) : (wayL p i).getD k 0 < p.length := by
  have : (wayL p i).getD k 0 ∈ wayL p i := by
    rw [List.getD_eq_getElem?_getD, List.getElem?_eq_getElem hk]
    exact List.getElem_mem hk
  exact ((wayL_mem hok hi _).1 this).lt hok hi
theorem wsK_bound {p : List Int} (hok : okPat p = true) {i : Nat} (hi : i < p.length) (k : Nat) (hk : k ≤ (wayL p i).length) : 0 ≤ wsK p i k ∧ wsK p i k ≤ 15 * k := by
  induction k with
  | zero => simp [wsK_zero]
  | succ k ih =>
    have h1 := ih (by omega)
    have h2 := okPat_at hok _ (way_at hok hi (show k < (wayL p i).length by omega))
    rw [wsK_succ p i k (by omega)]
    omega
theorem way_len {p : List Int} (hok : okPat p = true) {i : Nat} (hi : i < p.length) : 1 ≤ (wayL p i).length ∧ (wayL p i).length ≤ 12 := by
  rw [wayL_len]
  have := per_spec hok hi
  have := (okPat_len hok).2
  omega
/-- what OrbitProps answers -/
def opsL (p : List Int) : List Int := (fsts p).map fun i => wsum p i / (p.length : Int)
theorem opsL_len (p : List Int) : (opsL p).length = (fsts p).length := by simp [opsL]
theorem opsL_take (p : List Int) (k : Nat) (hk : k < (fsts p).length) : (opsL p).take (k + 1) = (opsL p).take k ++ [wsum p ((fsts p).getD k 0) / (p.length : Int)] := by
  rw [List.take_succ_eq_append_getElem (by rw [opsL_len]; exact hk)]
  simp [opsL, hk]
def opsA (p : List Int) : List Int := if okPat p then opsL p else []
theorem opsA_true {p : List Int} (h : okPat p = true) : opsA p = opsL p := by rw [opsA, if_pos h]
theorem opsA_false {p : List Int} (h : okPat p = false) : opsA p = [] := by rw [opsA, if_neg (by simp [h])]
theorem opsA_len (p : List Int) : (opsA p).length ≤ 12 := by
  cases hok : okPat p with
  | false => rw [opsA_false hok]; simp
  | true => rw [opsA_true hok, opsL_len]; have := fsts_len p; have := (okPat_len hok).2; omega

theorem Grid.atSl {E : TypeId} {w : World} {B C : Nat} {a : Option Addr} {n c : Nat} {pss : List (List Int)} (h : Grid E w B C (.slice a n c) pss) (k : Nat) (hk : k < pss.length) : ∃ g, a = some ⟨g, 0, none⟩ ∧ ∃ u, w.cell? ⟨g, k, none⟩ = some u ∧ Ints w B u (pss.getD k []) := by
  rcases h.shape with ⟨_, rfl⟩ | ⟨g, c', e, _⟩
  · simp at hk
  · cases e
    obtain ⟨u, h1, h2, _⟩ := h.row k hk
    exact ⟨g, rfl, u, h1, h2⟩

set_option maxRecDepth 10000 in
set_option maxHeartbeats 1000000 in
theorem l13Props_any (v y : Value) (B B2 : Nat) (p : List Int) (i : Nat) (w : World) (h : Ints w B v p) (hy : Ints w B2 y (ints (wayL p i))) (hok : okPat p = true) (hi : i < p.length) :
    Calls Try.prog 20 #[v, y] w fun e w' => e = .returned (.int .i64 (wsum p i / (p.length : Int))) ∧ w = w' := by
  obtain ⟨l1, l2⟩ := okPat_len hok
  obtain ⟨m1, m2⟩ := way_len hok hi
  obtain ⟨g0, cap, rfl, _, _, _, _⟩ := h.shape2 l1
  obtain ⟨gy, cy, rfl, _, _, _, _⟩ := hy.shape2 (by rw [ints_len]; exact m1)
  rw [ints_len]
  rw [ints_len] at hy
  have HP := Lib.hid (fun j (hj : j < p.length) => h.cell j hj)
  have HY := Lib.hid (fun k (hk : k < (wayL p i).length) => show w.cell? ⟨gy, k, none⟩ = some (.int .i64 ((wayL p i).getD k 0 : Nat)) from by
    have := hy.cell k (by rw [ints_len]; exact hk)
    rwa [ints_at _ k hk] at this)
  have HA := Lib.hid (fun k (hk : k < (wayL p i).length) => way_at hok hi hk)
  have HT := Lib.hid (fun j (hj : j < p.length) => okPat_at hok j hj)
  have HS := Lib.hid (fun k (hk : k < (wayL p i).length) => wsK_succ p i k hk)
  have HB := Lib.hid (fun k (hk : k ≤ (wayL p i).length) => wsK_bound hok hi k hk)
  have H0 := Lib.hid (wsK_zero p i)
  rw [← wsK_all p i]
  clear h hy hok
  generalize (wayL p i).length = m at *
  generalize wsK p i = S at *
  generalize p.length = n at *
  go_enter Try.func20, Try.ntmps20
  go_wp2
  go_loop [5, 6] (fun t x => ∃ k : Nat, k ≤ m ∧ x = .int .i64 k ∧ t = .int .i64 (S k)) (fun _ x => m - (intOf x).toNat)
  case atStart => exact ⟨0, Nat.zero_le _, rfl, by rw [H0.out]⟩
  case round =>
    obtain ⟨k, hk, rfl, rfl⟩ := hrel
    by_cases hlt : k < m
    · have c1 := HY.out k hlt
      have ha := HA.out k hlt
      have c2 := HP.out _ ha
      have ht := HT.out _ ha
      have hs := Lib.hid (HS.out k hlt)
      have hb := HB.out k hk
      clear HP HY HA HT HS HB
      generalize (wayL p i).getD k 0 = q at *
      generalize p.getD q 0 = z at *
      go_wp2
      go_round
      case rel => exact ⟨k + 1, by omega, by go_num, by rw [hs.out]⟩
      case measure => simp [intOf]; omega
    · obtain rfl : k = m := by omega
      have hb := HB.out k hk
      clear HP HY HA HT HS HB
      go_wp2
      go_ret
      exact ⟨rfl, rfl⟩

set_option maxRecDepth 10000 in
set_option maxHeartbeats 2000000 in
theorem props_any (v : Value) (B g : Nat) (u : Nat → Option Nat) (p : List Int) (w : World) (hI : Ints w B v p) (hL : Links p u p.length) (h : Lks w B g p.length p.length u) (hok : okPat p = true) :
    Calls Try.prog 31 #[.agg #[v, .slice (some ⟨g, 0, none⟩) p.length p.length]] w fun e w' => ∃ x, e = .returned x ∧ Ints w' w.heap.size x (opsL p) ∧ Below w.heap.size w w' := by
  obtain ⟨l1, l2⟩ := okPat_len hok
  obtain ⟨g0, cap, rfl, _, _, _, _⟩ := hI.shape2 l1
  have hlen := (okPat_len hok).2
  have hfl := fsts_len p
  have HALL := Lib.hid (fun W (hW : Below w.heap.size w W) => all_any (.slice (some ⟨g0, 0, none⟩) p.length cap) B g u p W (hI.below hW) hL (h.below hW) hok)
  have HC := Lib.hid (fun W (hW : Below w.heap.size w W) j (hj : j < p.length) => (hI.below hW).cell j hj)
  have HT := Lib.hid (fun k (hk : k < (fsts p).length) => opsL_take p k hk)
  have HTA : Hid ((opsL p).take (fsts p).length = opsL p) := Lib.hid (by rw [← opsL_len, List.take_length])
  have HTL := Lib.hid (fun k => show ((opsL p).take k).length ≤ 1000 by have := opsL_len p; simp; omega)
  have HOL := Lib.hid (orbs_len p)
  have HOA := Lib.hid (fun k (hk : k < (fsts p).length) => show (orbs p).getD k [] = ints (wayL p ((fsts p).getD k 0)) by simp [orbs, hk])
  have HWL := Lib.hid (fun k (hk : k < (fsts p).length) => way_len hok (fsts_at hk).1)
  have HWA := Lib.hid (fun k (hk : k < (fsts p).length) q (hq : q < (wayL p ((fsts p).getD k 0)).length) => way_at hok (fsts_at hk).1 hq)
  have HS := Lib.hid (fun i k (hk : k < (wayL p i).length) => wsK_succ p i k hk)
  have HB := Lib.hid (fun k (hk : k < (fsts p).length) q (hq : q ≤ (wayL p ((fsts p).getD k 0)).length) => wsK_bound hok (fsts_at hk).1 q hq)
  have HTR := Lib.hid (fun j (hj : j < p.length) => okPat_at hok j hj)
  have HIA := Lib.hid (fun l i (h : i < l.length) => ints_at l i h)
  have HSA := Lib.hid (wsK_all p)
  clear hI hL h hok
  go_enter Try.func31, Try.ntmps31
  have b0 := (Below.refl w.heap.size w).alloc (Nat.le_refl _) (.cells #[.slice (some ⟨g0, 0, none⟩) p.length cap, .slice (some ⟨g, 0, none⟩) p.length p.length] 52)
  have Q0 := Blk.made w #[.slice (some ⟨g0, 0, none⟩) p.length cap, .slice (some ⟨g, 0, none⟩) p.length p.length] 52
  go_wp2_with fail
  refine (HALL.out _ b0).mono ?_
  rintro e w1 ⟨x, rfl, hg, b1⟩
  have Q1 := Q0.below b1 (by simp)
  have hB1 := b0.trans (b1.mono b0.size)
  have hs1 := hB1.size
  obtain ⟨xa, xc, e1⟩ : ∃ a c, x = .slice a (fsts p).length c := by
    rcases hg.shape with ⟨e, e0⟩ | ⟨g', c', e, _⟩
    · exact ⟨none, 0, by rw [e]; have := congrArg List.length e0; rw [HOL.out] at this; rw [this]; rfl⟩
    · rw [HOL.out] at e; exact ⟨_, _, e⟩
  subst e1
  have HG := Lib.hid (fun W (hW : Below w1.heap.size w1 W) => hg.below hW)
  have hQ := Lib.hid (fun W (hW : Below w1.heap.size w1 W) => Q1.below hW Q1.lt)
  clear b0 b1 Q0 Q1 hg HALL
  generalize (fsts p).length = n at *
  go_wp2
  go_loopw [3, 12] (fun x i wr => ∃ k : Nat, k ≤ n ∧ i = .int .i64 k ∧ Ints wr w1.heap.size x ((opsL p).take k) ∧ Below w1.heap.size w1 wr) (fun _ i _ => n - (intOf i).toNat)
  case atStart => exact ⟨0, Nat.zero_le _, rfl, Ints.nil _ _, Below.refl _ _⟩
  case round =>
    obtain ⟨k, hk, rfl, hi, hb⟩ := hrel
    by_cases hlt : k < n
    · obtain ⟨gx, rfl, y, cc, hy⟩ := (HG.out wr hb).atSl k (by rw [HOL.out]; exact hlt)
      rw [HOA.out k hlt] at hy
      have hwl := HWL.out k hlt
      obtain ⟨gy, cy, rfl, _, _, _, _⟩ := hy.shape2 (by rw [ints_len]; exact hwl.1)
      rw [ints_len] at cc hy
      have HWA' := Lib.hid (HWA.out k hlt)
      have HB' := Lib.hid (HB.out k hlt)
      have HY := Lib.hid (fun q (hq : q < (wayL p ((fsts p).getD k 0)).length) => show wr.cell? ⟨gy, q, none⟩ = some (.int .i64 ((wayL p ((fsts p).getD k 0)).getD q 0 : Nat)) from by
        have := hy.cell q (by rw [ints_len]; exact hq)
        rwa [HIA.out _ q hq] at this)
      have q0 : wr.cell? ⟨w.heap.size, 0, none⟩ = some (.slice (some ⟨g0, 0, none⟩) p.length cap) := (hQ.out wr hb).cell 0
      have HC' := Lib.hid (HC.out wr (hB1.trans (hb.mono hs1)))
      have HS' := Lib.hid (HS.out ((fsts p).getD k 0))
      have HSA' := Lib.hid (HSA.out ((fsts p).getD k 0))
      have HTK := HT.out k hlt
      rw [← HSA'.out] at HTK
      have HTK := Lib.hid HTK
      have htl := HTL.out k
      have hbs := hb.size
      have hz0 := wsK_zero p ((fsts p).getD k 0)
      have HZ0 := Lib.hid hz0
      have HI := Lib.hid hi
      clear HG HOA HT HTL HWL HWA HB hy HC HS HSA hz0 hi HTA hQ
      generalize (wayL p ((fsts p).getD k 0)).length = m at *
      generalize wsK p ((fsts p).getD k 0) = S at *
      obtain ⟨hm1, hm2⟩ := hwl
      go_wp2
      go_loop [6, 18] (fun t x => ∃ q : Nat, q ≤ m ∧ x = .int .i64 q ∧ t = .int .i64 (S q)) (fun _ x => m - (intOf x).toNat)
      case atStart => exact ⟨0, Nat.zero_le _, rfl, by rw [HZ0.out]⟩
      case round =>
        obtain ⟨q, hq, rfl, rfl⟩ := hrel
        by_cases hqt : q < m
        · have c1 := HY.out q hqt
          have ha := HWA'.out q hqt
          have c2 := HC'.out _ ha
          have ht := HTR.out _ ha
          have hs := Lib.hid (HS'.out q hqt)
          have hb2 := HB'.out q hq
          clear HY HWA' HC' HTR HS' HB' HTK
          generalize (wayL p ((fsts p).getD k 0)).getD q 0 = z at *
          generalize p.getD z 0 = t at *
          go_wp2
          go_round
          case rel => exact ⟨q + 1, by omega, by go_num, by rw [hs.out]⟩
          case measure => simp [intOf]; omega
        · obtain rfl : q = m := by omega
          have hb2 := HB'.out q hq
          have hi := HI.out
          clear HY HWA' HC' HTR HS' HB' HSA'
          have HN := Lib.hid (period_any (some ⟨g0, 0, none⟩) p.length cap wr)
          go_wp2_with fail
          refine HN.out.mono ?_
          rintro e w3 ⟨rfl, rfl⟩
          go_wp2_with (at_builtin; refine append_int _ rfl _ _ rfl _ _ _ rfl hi (S q / (p.length : Int)) rfl (by omega) hbs ?_; intro v' w3 hi3 hg3; refine Hid.out ?_)
          have hb3 := hi.below_grown hb hbs hg3
          rw [← HTK.out] at hi3
          clear hg3 hi hb
          refine Lib.hid ?_
          go_wp2
          go_roundw
          case rel => exact ⟨k + 1, by omega, by go_num, hi3, hb3⟩
          case measure => simp [intOf]; omega
    · obtain rfl : k = n := by omega
      rw [HTA.out] at hi
      clear HG HOA HT HTL HWL HWA HB HC HS HSA hQ
      go_wp2
      go_ret
      exact ⟨_, rfl, hi.mono hs1, hB1.trans (hb.mono hs1)⟩

theorem orbitProps_impl (v : Value) (B : Nat) (p : List Int) (w : World) (h : Ints w B v p) :
    Calls Try.prog 13 #[v] w fun e w' => ∃ u, e = .returned (.tuple #[u, .int .i64 (okC p)]) ∧ Ints w' w.heap.size u (opsA p) ∧ Below w.heap.size w w' := by
  cases hok : okPat p with
  | false =>
    rw [opsA_false hok, okC_false hok]
    go_enter Try.func13, Try.ntmps13
    go_wp2_with fail
    refine (validPattern_impl v B p _ h).mono ?_
    rintro e w' ⟨rfl, hb⟩
    rw [hok]
    go_wp2
    go_ret2
    exact ⟨_, rfl, Ints.nil _ _, hb⟩
  | true =>
    rw [opsA_true hok, okC_true hok]
    have HA := Lib.hid (fun (B2 g : Nat) u W (hL : Links p u p.length) (hk : Lks W B2 g p.length p.length u) (hi : Ints W B2 v p) => props_any v B2 g u p W hi hL hk hok)
    go_enter Try.func13, Try.ntmps13
    go_wp2_with fail
    refine (validPattern_impl v B p _ h).mono ?_
    rintro e w1 ⟨rfl, b1⟩
    have HO := orbitsOf_any v B p w1 (h.below b1) hok
    have HI := Lib.hid (fun W (hW : Below w.heap.size w W) => h.below hW)
    rw [hok]
    clear h hok
    go_wp2_with fail
    refine HO.mono ?_
    rintro e w2 ⟨g, u, rfl, hL, hk, b2⟩
    have B2 := b1.trans (b2.mono b1.size)
    have HALL := HA.out 0 g u w2 hL (hk.mono (Nat.zero_le _)) ((HI.out w2 B2).mono (Nat.zero_le _))
    clear HO HA HI hL hk
    go_wp2_with fail
    refine HALL.mono ?_
    rintro e w3 ⟨x, rfl, hi, b3⟩
    go_wp2
    go_ret2
    exact ⟨_, rfl, hi.mono B2.size, B2.trans (b3.mono B2.size)⟩
end Go.Proofs.Ytlpeigeadjojnab
