/- The orbits of a pattern, the program's: all; OrbitsOf, the model's and the program's. No conditions. -/
import Derived.Test.YtlpeigeadjojnabOrK
namespace Go.Proofs.Ytlpeigeadjojnab
open Go.RowKit
set_option linter.unusedSimpArgs false
set_option linter.unusedVariables false

theorem orbs_len (p : List Int) : (orbs p).length = (fsts p).length := by simp [orbs]
theorem orbs_take (p : List Int) (k : Nat) (hk : k < (fsts p).length) : (orbs p).take (k + 1) = (orbs p).take k ++ [ints (wayL p ((fsts p).getD k 0))] := by
  rw [List.take_succ_eq_append_getElem (by rw [orbs_len]; exact hk)]
  simp [orbs, hk]
theorem fsts_at {p : List Int} {k : Nat} (hk : k < (fsts p).length) : (fsts p).getD k 0 < p.length ∧ lst p ((fsts p).getD k 0) = (fsts p).getD k 0 := by
  have : (fsts p).getD k 0 ∈ fsts p := by
    rw [List.getD_eq_getElem?_getD, List.getElem?_eq_getElem hk]
    exact List.getElem_mem hk
  exact fsts_mem.1 this
theorem fsts_len (p : List Int) : (fsts p).length ≤ p.length := fstL_len p _

theorem Ints.atSl {w : World} {B : Nat} {a : Option Addr} {n c : Nat} {xs : List Int} (h : Ints w B (.slice a n c) xs) (k : Nat) (hk : k < xs.length) : ∃ g, a = some ⟨g, 0, none⟩ ∧ w.cell? ⟨g, k, none⟩ = some (.int .i64 (xs.getD k 0)) := by
  rcases h.shape with ⟨_, rfl⟩ | ⟨g, c', e, _⟩
  · simp at hk
  · cases e
    exact ⟨g, rfl, h.cell k hk⟩

set_option maxRecDepth 10000 in
set_option maxHeartbeats 1000000 in
theorem all_any (v : Value) (B g : Nat) (u : Nat → Option Nat) (p : List Int) (w : World) (hI : Ints w B v p) (hL : Links p u p.length) (h : Lks w B g p.length p.length u) (hok : okPat p = true) :
    Calls Try.prog 30 #[.agg #[v, .slice (some ⟨g, 0, none⟩) p.length p.length]] w fun e w' => ∃ x, e = .returned x ∧ Grid 22 w' w.heap.size w'.heap.size x (orbs p) ∧ Below w.heap.size w w' := by
  obtain ⟨va, vn, vc, rfl⟩ := hI.sl3
  have hlen := (okPat_len hok).2
  have hfl := fsts_len p
  have HF := Lib.hid (fun W (hW : Below w.heap.size w W) => firsts_any (.slice va vn vc) B g u p W ⟨_, _, _, rfl⟩ hL (h.below hW) hok)
  have HW := Lib.hid (fun W (hW : Below w.heap.size w W) k (hk : k < (fsts p).length) => way_any (.slice va vn vc) (.slice (some ⟨g, 0, none⟩) p.length p.length) B p ((fsts p).getD k 0) W (hI.below hW) ⟨_, _, _, rfl⟩ hok (fsts_at hk).1)
  have HT := Lib.hid (fun k (hk : k < (fsts p).length) => orbs_take p k hk)
  have HTA : Hid ((orbs p).take (fsts p).length = orbs p) := Lib.hid (by rw [← orbs_len, List.take_length])
  have HOL := Lib.hid (fun k => show ((orbs p).take k).length ≤ 1000000 by have := orbs_len p; simp; omega)
  have HAT := Lib.hid (fun k (hk : k < (fsts p).length) => ints_at (fsts p) k hk)
  have HIL := Lib.hid (ints_len (fsts p))
  clear hI hL h hok
  go_enter Try.func30, Try.ntmps30
  have b0 := (Below.refl w.heap.size w).alloc (Nat.le_refl _) (.cells #[.slice va vn vc, .slice (some ⟨g, 0, none⟩) p.length p.length] 52)
  have Q0 := Blk.made w #[.slice va vn vc, .slice (some ⟨g, 0, none⟩) p.length p.length] 52
  go_wp2_with fail
  refine (HF.out _ b0).mono ?_
  rintro e w1 ⟨x1, rfl, i1, b1⟩
  have Q1 := Q0.below b1 (by simp)
  have hB1 := b0.trans (b1.mono b0.size)
  have hs1 := hB1.size
  obtain ⟨xa, xc, e1⟩ : ∃ a c, x1 = .slice a (fsts p).length c := by
    rcases i1.shape with ⟨e, e0⟩ | ⟨g', c', e, _⟩
    · exact ⟨none, 0, by rw [e]; have := congrArg List.length e0; rw [HIL.out] at this; rw [this]; rfl⟩
    · rw [HIL.out] at e; exact ⟨_, _, e⟩
  subst e1
  have HX := Lib.hid (fun W (hW : Below w1.heap.size w1 W) k (hk : k < (fsts p).length) => show ∃ g', xa = some ⟨g', 0, none⟩ ∧ W.cell? ⟨g', k, none⟩ = some (.int .i64 ((fsts p).getD k 0 : Nat)) from by
    have := (i1.below hW).atSl k (by rw [HIL.out]; exact hk)
    rw [HAT.out k hk] at this
    exact this)
  have hQ := Lib.hid (fun W (hW : Below w1.heap.size w1 W) => Q1.below hW Q1.lt)
  clear b0 b1 Q0 Q1 i1 HF HAT HIL
  generalize (fsts p).length = n at *
  go_wp2
  go_loopw [3, 9] (fun x i wr => ∃ k : Nat, k ≤ n ∧ i = .int .i64 k ∧ Grid 22 wr w1.heap.size wr.heap.size x ((orbs p).take k) ∧ Below w1.heap.size w1 wr) (fun _ i _ => n - (intOf i).toNat)
  case atStart => exact ⟨0, Nat.zero_le _, rfl, Grid.nil _ _ _ _, Below.refl _ _⟩
  case round =>
    obtain ⟨k, hk, rfl, hg, hb⟩ := hrel
    by_cases hlt : k < n
    · obtain ⟨gx, rfl, cc⟩ := HX.out wr hb k hlt
      have q0 := (hQ.out wr hb).cell 0
      have q1 := (hQ.out wr hb).cell 1
      have q0' : wr.cell? ⟨w.heap.size, 0, none⟩ = some (.slice va vn vc) := q0
      have q1' : wr.cell? ⟨w.heap.size, 1, none⟩ = some (.slice (some ⟨g, 0, none⟩) p.length p.length) := q1
      have HWW := HW.out wr (hB1.trans (hb.mono hs1)) k hlt
      have HTK := Lib.hid (HT.out k hlt)
      have hol := HOL.out k
      have hbs := hb.size
      clear q0 q1 HX HW HT HOL
      generalize (fsts p).getD k 0 = st at *
      go_wp2_with fail
      refine HWW.mono ?_
      rintro e w2 ⟨y, rfl, i2, b2⟩
      have hg2 := hg.below b2
      have hb2 := hb.trans (b2.mono hbs)
      obtain ⟨ya, yn, yc, rfl⟩ := i2.sl3
      have hz2 := b2.size
      clear HWW hg hb
      go_wp2_with (at_builtin; refine append_grid _ rfl _ _ rfl _ _ _ _ rfl hg2 _ _ rfl i2 hol hbs hz2 ?_; intro v' w3 hg3 hk3; refine Hid.out ?_)
      have hb3 : Below w1.heap.size w1 w3 := hk3.below hb2 (Nat.le_refl _) hb2.size
      rw [← HTK.out] at hg3
      clear hk3 hg2 hb2 i2
      refine Lib.hid ?_
      go_wp2
      go_roundw
      case rel => exact ⟨k + 1, by omega, by go_num, hg3, hb3⟩
      case measure => simp [intOf]; omega
    · obtain rfl : k = n := by omega
      rw [HTA.out] at hg
      clear HX HW HT HOL
      go_wp2
      go_ret
      exact ⟨_, rfl, hg.widen hs1 (Nat.le_refl _), hB1.trans (hb.mono hs1)⟩

/-- what OrbitsOf answers -/
def orbA (p : List Int) : List (List Int) := if okPat p then orbs p else []
theorem orbA_true {p : List Int} (h : okPat p = true) : orbA p = orbs p := by rw [orbA, if_pos h]
theorem orbA_false {p : List Int} (h : okPat p = false) : orbA p = [] := by rw [orbA, if_neg (by simp [h])]

theorem orbitsOf_impl (v : Value) (B : Nat) (p : List Int) (w : World) (h : Ints w B v p) :
    Calls Try.prog 12 #[v] w fun e w' => ∃ u, e = .returned (.tuple #[u, .int .i64 (okC p)]) ∧ Grid 22 w' w.heap.size w'.heap.size u (orbA p) ∧ Below w.heap.size w w' := by
  cases hok : okPat p with
  | false =>
    rw [orbA_false hok, okC_false hok]
    go_enter Try.func12, Try.ntmps12
    go_wp2_with fail
    refine (validPattern_impl v B p _ h).mono ?_
    rintro e w' ⟨rfl, hb⟩
    rw [hok]
    go_wp2
    go_ret2
    exact ⟨_, rfl, Grid.nil _ _ _ _, hb⟩
  | true =>
    rw [orbA_true hok, okC_true hok]
    have HA := Lib.hid (fun (B2 g : Nat) u W (hB : B2 ≤ B) (hL : Links p u p.length) (hk : Lks W B2 g p.length p.length u) (hi : Ints W B2 v p) => all_any v B2 g u p W hi hL hk hok)
    go_enter Try.func12, Try.ntmps12
    go_wp2_with fail
    refine (validPattern_impl v B p _ h).mono ?_
    rintro e w1 ⟨rfl, b1⟩
    have HO := orbitsOf_any v B p w1 (h.below b1) hok
    have HI := Lib.hid (fun W (hW : Below w.heap.size w W) => h.below hW)
    rw [hok]
    clear h hok
    go_wp2_with fail
    refine HO.mono ?_
    rintro e w2 ⟨g, u, rfl, hL, hk, b2⟩
    have B2 := b1.trans (b2.mono b1.size)
    have HALL := HA.out 0 g u w2 (Nat.zero_le _) hL (hk.mono (Nat.zero_le _)) ((HI.out w2 B2).mono (Nat.zero_le _))
    clear HO HA HI hL hk
    go_wp2_with fail
    refine HALL.mono ?_
    rintro e w3 ⟨x, rfl, hg, b3⟩
    go_wp2
    go_ret2
    exact ⟨_, rfl, hg.widen B2.size (Nat.le_refl _), B2.trans (b3.mono B2.size)⟩
end Go.Proofs.Ytlpeigeadjojnab
