/- Drawn multiplex patterns: l04Draw. No conditions but the count of beats. -/
import Derived.Test.YtgjmhihomklooaaDrMw
namespace Go.Proofs.Ytgjmhihomklooaa
open Go.RowKit
set_option linter.unusedSimpArgs false
set_option linter.unusedVariables false

set_option maxRecDepth 10000 in
set_option maxHeartbeats 2000000 in
theorem l04Draw_any (a : Option Addr) (len cap b k : Nat) (n : Nat) (zs : List Int) (w : World) (hs : Src w b k (.slice a len cap)) (hr : IsRow .u8 w a len cap zs) (hab : ∀ x, a = some x → 0 < zs.length → x.block ≠ b) (hlen : len ≤ 1000000000) (hk : k ≤ 900000) (hn1 : 1 ≤ n) (hn2 : n ≤ 13) :
    Calls Try.prog 62 #[.pointer (some ⟨b, 0, none⟩), .int .i64 n] w fun e w' => ∃ x y z p, e = .returned (.agg #[.slice x y z]) ∧ Grid 32 w' w.heap.size w'.heap.size (.slice x y z) p ∧ MulD p n ∧ Src w' b (k + 200) (.slice a len cap) ∧ w.grownBy w' (some b) := by
  have hbw := hs.lt
  have hrow : ∀ wr : World, w.grownBy wr (some b) → IsRow .u8 wr a len cap zs := fun wr hg => hr.grown hg fun x hx h0 => by simpa using hab x hx h0
  have HROW := Lib.hid hrow
  have HAB := Lib.hid hab
  have g0 : w.grownBy (w.alloc (.cells #[.slice none 0 0] 26)) (some b) := World.grownBy_alloc _ _ _
  have s0 := hs.keep (World.grownBy_alloc w (.cells #[.slice none 0 0] 26) none) (by simp)
  obtain ⟨W0, hW0⟩ : ∃ W0, W0 = w.alloc (.cells #[.slice none 0 0] 26) := ⟨_, rfl⟩
  have hz0 : W0.heap.size = w.heap.size + 1 := by rw [hW0]; simp
  have v0 : Var1 W0 w.heap.size (.slice none 0 0) := by
    rw [hW0]
    exact Var1.made _ _ _
  have HSITE := l04Site_any a len cap b k n zs _ s0 (HROW.out _ g0) hab hlen (by omega) hn1 hn2
  rw [← hW0] at g0 s0 HSITE
  clear hs hr hrow hab
  go_enter Try.func62, Try.ntmps62
  go_wp2_with fail
  rw [← hW0]
  clear hW0
  refine HSITE.mono ?_
  rintro e w1 ⟨v, p, rfl, i1, hp, s1, g1⟩
  have HSG := l04Single_any v _ p w1 i1 (by rw [hp.1]; omega) (by rw [hp.1]; omega)
  clear HSITE i1
  go_wp2_with fail
  refine HSG.mono ?_
  rintro e w2 ⟨x, y, z, rfl, q2, b2⟩
  clear HSG
  have hz1 := g1.size
  have hz2 := b2.size
  have v1 := v0.block (g1.block _ v0.lt (by intro e; cases e; omega))
  have v2 := v1.block (b2.block _ v1.lt)
  have s2 := s1.low b2
  have G2 := g0.trans g1
  have G2 := grown_low G2 b2
  obtain ⟨W2, hW2⟩ : ∃ W2, W2 = w2.alloc (.cells #[.slice x y z] 26) := ⟨_, rfl⟩
  have bW2 := low_al w2 (.cells #[.slice x y z] 26)
  have o2 := Var1.made w2 (.slice x y z) 26
  rw [← hW2] at bW2 o2
  have v3 := v2.block (bW2.block _ v2.lt)
  have s3 := s2.low bW2
  have G3 := grown_low G2 bW2
  have q3 := q2.below bW2
  have HP := pick_any a len cap b (k + 20) 4 zs W2 s3 (HROW.out _ G3) hlen (by omega) (by omega)
  have hm3 := MulD.singles hp.1
  generalize singles p = P at *
  have hzW := bW2.size
  clear v0 v1 v2 s1 s2 g1 G2 q2 b2 hp g0 s0
  go_wp2_with fail
  rw [← hW2]
  clear hW2
  refine HP.mono ?_
  rintro e w4 ⟨u, rfl, hu, s4, g4⟩
  clear HP
  have o4 := o2.block (g4.block _ o2.lt (by intro e; cases e; omega))
  have v4 := v3.block (g4.block _ v3.lt (by intro e; cases e; omega))
  have G4 := G3.trans g4
  have q4 := q3.keep fun k hk h1 h2 => g4.block k hk (by intro e; cases e; omega)
  obtain ⟨m, rfl⟩ : ∃ m : Nat, u = m := ⟨u.toNat, by omega⟩
  have hm : m ≤ 3 := by omega
  have hN0 : w.heap.size < w2.heap.size := by omega
  have hB0 : w.heap.size < w1.heap.size := by omega
  have hN4 := o4.lt
  have HD : DrM w b w2.heap.size (k + 20 + 1) w1.heap.size w2.heap.size (.slice a len cap) (.slice x y z) P w4 := ⟨s4, G4, q4, o4, v4, by omega⟩
  clear v3 s3 q3 G3 g4 o2 hu s4 G4 q4 o4 v4 bW2 hzW hz1 hN4
  obtain ⟨N, hN⟩ : ∃ N, N = w2.heap.size := ⟨_, rfl⟩
  have hz2' : w1.heap.size ≤ w2.heap.size := hz2
  rw [← hN] at HD hN0
  go_wp2
  rw [← hN]
  have hCN : w2.heap.size ≤ N ∨ N < w1.heap.size := by omega
  clear hN hz2 hz2'
  generalize w1.heap.size = B0 at *
  generalize w2.heap.size = C0 at *
  go_loopw [6, 7, 8] (fun mv _ _ wr => ∃ (p : List (List Int)) (m : Nat) (x : Option Addr) (y z : Nat) (B C : Nat), mv = .int .i64 m ∧ m ≤ 3 ∧ MulD p n ∧ w.heap.size < B ∧ DrM w b N (k + 81 - 20 * m) B C (.slice a len cap) (.slice x y z) p wr) (fun mv _ _ _ => (intOf mv).toNat)
  case atStart => exact ⟨_, m, _, _, _, _, _, rfl, hm, hm3, hB0, ⟨HD.src.mono (by omega), HD.grown, HD.rows, HD.var, HD.res, HD.top⟩⟩
  case round =>
    clear HD hm hm3 hCN hB0
    obtain ⟨p, m, x, y, z, B, C, rfl, hm, hp, hB, hd⟩ := hrel
    by_cases hlt : 0 < m
    · have HS := Lib.hid (fun W (hW : Below wr.heap.size wr W) => (l04Site_any a len cap b (k + 81 - 20 * m) n zs W (hd.low hW).src (HROW.out _ (hd.low hW).grown) HAB.out hlen (by omega) hn1 hn2).mono (fun e w' h => show ∃ v q, e = .returned v ∧ Ints w' W.heap.size v q ∧ Site q n ∧ DrM w b N (k + 81 - 20 * m + 20) B C (.slice a len cap) (.slice x y z) p w' ∧ W.grownBy w' (some b) ∧ w'.cell? ⟨N, 0, none⟩ = some (.slice x y z) from by
        obtain ⟨v, q, h1, h2, h3, h4, h5⟩ := h
        have hd' := (hd.low hW).more h5 h4 hbw hN0 hB
        exact ⟨v, q, h1, h2, h3, hd', h5, hd'.var.1⟩))
      have HG := Lib.hid (fun (W1 : World) (vq : Value) (q : List Int) (lo : Nat) (i : Ints W1 lo vq q) (hq : Site q n) (hdd : DrM w b N (k + 81 - 20 * m + 20) B C (.slice a len cap) (.slice x y z) p W1) W (hb : Below W1.heap.size W1 W) => (l04Single_any vq lo q W (i.below hb) (by rw [hq.1]; omega) (by rw [hq.1]; omega)).mono (fun e w' h => show ∃ x' y' z', e = .returned (.agg #[.slice x' y' z']) ∧ Grid 32 w' W.heap.size w'.heap.size (.slice x' y' z') (singles q) ∧ Below W.heap.size W w' ∧ DrM w b N (k + 81 - 20 * m + 20) B C (.slice a len cap) (.slice x y z) p w' ∧ w'.cell? ⟨N, 0, none⟩ = some (.slice x y z) from by
        obtain ⟨x', y', z', h1, h2, h3⟩ := h
        have hd' := (hdd.low hb).low h3
        exact ⟨x', y', z', h1, h2, h3, hd', hd'.var.1⟩))
      have HA := Lib.hid (fun (W1 : World) (q : List Int) (x' : Option Addr) (y' z' lo hi : Nat) (g : Grid 32 W1 lo hi (.slice x' y' z') (singles q)) (hdd : DrM w b N (k + 81 - 20 * m + 20) B C (.slice a len cap) (.slice x y z) p W1) W (hb : Below W1.heap.size W1 W) => (addMulti_spec (.slice x y z) _ _ _ p (.slice x' y' z') _ _ _ (singles q) W (hdd.rows.below hb) (g.below hb)).mono (fun e w' h => show ∃ x7 y7 z7, e = .returned (.tuple #[.agg #[.slice x7 y7 z7], .int .i64 (addMC p (singles q))]) ∧ Grid 32 w' W.heap.size w'.heap.size (.slice x7 y7 z7) (addMR p (singles q)) ∧ Below W.heap.size W w' ∧ DrM w b N (k + 81 - 20 * m + 20) B C (.slice a len cap) (.slice x y z) p w' ∧ w'.cell? ⟨N, 0, none⟩ = some (.slice x y z) from by
        obtain ⟨x', y', z', h1, h2, h3⟩ := h
        have hd' := (hdd.low hb).low h3
        exact ⟨x', y', z', h1, h2, h3, hd', hd'.var.1⟩))
      have hcN := hd.var.1
      have hNr := hd.var.lt
      have hCr := hd.top
      have HP := Lib.hid hp
      clear hd hp
      go_wp2
      go_region_held3 (fun W => W.cell? ⟨N, 0, none⟩ = some (.slice x y z)) (first | assumption | exact cell_al (by assumption) _ | exact cell_st (by assumption) (by first | omega | exact Nat.ne_of_lt (cell_block ce1) | exact Nat.ne_of_lt (cell_block ce2) | exact Nat.ne_of_lt (cell_block ce3) | (simp; omega)) _) (first | (go_at_call 114; (with_reducible refine (HS.out _ ?_).mono ?_); (repeat (first | assumption | exact Below.refl _ _ | refine Below.drew ?_ | refine below_drewN ?_ _ | refine below_alM ?_ _)); rintro e u1 ⟨v1, q, rfl, i1, hq, hd1, g1, ce1⟩; (first | have hv := Var1.grown (show Var1 _ wr.heap.size (.slice none 0 0) from Var1.made wr (.slice none 0 0) 26) g1 (by omega) | have hv := Var1.grown (show Var1 (World.drew (World.alloc wr (.cells #[.slice none 0 0] 26))) wr.heap.size (.slice none 0 0) from ⟨(Var1.made wr (.slice none 0 0) 26).1, (Var1.made wr (.slice none 0 0) 26).2⟩) g1 (by omega) | skip)) | (go_at_call 113; (with_reducible refine (HG.out _ _ _ _ i1 hq hd1 _ ?_).mono ?_); (repeat (first | assumption | exact Below.refl _ _ | refine Below.drew ?_ | refine below_drewN ?_ _ | refine below_alM ?_ _)); rintro e u2 ⟨x1, y1, z1, rfl, g2, b2, hd2, ce2⟩; (try replace hv := Var1.below (show Var1 _ _ _ from hv) b2); (first | have hv := Var1.below (show Var1 _ u1.heap.size (.slice none 0 0) from Var1.made u1 (.slice none 0 0) 26) b2 | have hv := Var1.below (show Var1 (World.drew (World.alloc u1 (.cells #[.slice none 0 0] 26))) u1.heap.size (.slice none 0 0) from ⟨(Var1.made u1 (.slice none 0 0) 26).1, (Var1.made u1 (.slice none 0 0) 26).2⟩) b2 | skip)) | (go_at_call 13; (with_reducible refine (HA.out _ _ _ _ _ _ _ g2 hd2 _ ?_).mono ?_); (repeat (first | assumption | exact Below.refl _ _ | refine Below.drew ?_ | refine below_drewN ?_ _ | refine below_alM ?_ _)); rintro e u3 ⟨x7, y7, z7, rfl, g3, b3, hd3, ce3⟩; (try replace hv := Var1.below (show Var1 _ _ _ from hv) b3); (first | have hv := Var1.below (show Var1 _ u2.heap.size (.slice none 0 0) from Var1.made u2 (.slice none 0 0) 26) b3 | have hv := Var1.below (show Var1 (World.drew (World.alloc u2 (.cells #[.slice none 0 0] 26))) u2.heap.size (.slice none 0 0) from ⟨(Var1.made u2 (.slice none 0 0) 26).1, (Var1.made u2 (.slice none 0 0) 26).2⟩) b3 | skip); (try obtain ⟨hvc, hvf⟩ := id hv)))
      clear HS HG HA
      all_goals
        have hz1 := g1.size
        have hz2 := b2.size
        have hz3 := b3.size
        (try simp at hz1)
        (try simp at hz2)
        (try simp at hz3)
        first | (have hO := outD_set (bq := u2.heap.size) hd3 g3 hv hbw hN0 (by omega) (by omega) (by first | omega | (simp; done) | (simp; omega)) (Nat.le_refl _); generalize (u3.setCell ⟨u2.heap.size, 0, none⟩ (.slice x7 y7 z7)) = U at hO ⊢; generalize u2.heap.size = bq at hO ⊢) | (have hO := outD_set (bq := u1.heap.size) hd3 g3 hv hbw hN0 (by omega) (by omega) (by first | omega | (simp; done) | (simp; omega)) (Nat.le_refl _); generalize (u3.setCell ⟨u1.heap.size, 0, none⟩ (.slice x7 y7 z7)) = U at hO ⊢; generalize u1.heap.size = bq at hO ⊢) | (have hO := outD_set (bq := wr.heap.size) hd3 g3 hv hbw hN0 (by omega) (by omega) (by first | omega | (simp; done) | (simp; omega)) (Nat.le_refl _); generalize (u3.setCell ⟨wr.heap.size, 0, none⟩ (.slice x7 y7 z7)) = U at hO ⊢; generalize wr.heap.size = bq at hO ⊢) | (have hO := outD_alloc (T := 26) hd3 g3 hN0 (by first | omega | (simp; omega)) (Nat.le_refl _); generalize (u3.alloc (.cells #[.slice x7 y7 z7] 26)) = U at hO ⊢; generalize u3.heap.size = bq at hO ⊢)
        clear hz1 hz2 hz3 g1 b2 g3 b3 hd1 hd2 hd3 ce1 ce2 ce3 i1 g2 hcN hNr hCr
        (try clear hvc hvf)
        (try clear hv)
        obtain ⟨c9, f9⟩ := id hO.2.1
        obtain ⟨c8, f8⟩ := id hO.1.var
        have HO := Lib.hid hO
        clear hO
        by_cases hcode : addMC p (singles q) = 0
        · have HM := Lib.hid (HP.out.add hcode)
          go_wp2
          go_roundw
          case rel =>
            obtain ⟨lo, hi, e1, e2, e3⟩ := HO.out.take hbw hN0
            exact ⟨_, m - 1, _, _, _, lo, hi, by go_num, by omega, HM.out, e1, e3.mono (by omega)⟩
          case measure => simp [intOf]; omega
        · go_wp2
          go_roundw
          case rel => exact ⟨_, m - 1, _, _, _, _, _, by go_num, by omega, HP.out, hB, HO.out.1.mono (by omega)⟩
          case measure => simp [intOf]; omega
    · obtain rfl : m = 0 := by omega
      obtain ⟨c0, f0⟩ := id hd.res
      obtain ⟨c1, f1⟩ := id hd.var
      have hres : ∀ y : Value, (wr.setCell ⟨w.heap.size, 0, none⟩ y).cell? ⟨w.heap.size, 0, none⟩ = some y := fun y => World.cell?_setCell_same _ _ _ (u := .slice none 0 0) c0
      have HD := Lib.hid hd
      clear hd
      go_wp2
      refine bodyPost_ret (v := .agg #[.slice x y z]) (by simp [results, Try.results62, go_sem, hres]) rfl ?_
      refine ⟨x, y, z, p, rfl, ?_, hp, (HD.out.src.set 0 (by omega) _).mono (by omega), grown_new HD.out.grown 0 (Nat.le_refl _) _⟩
      exact (grid_out HD.out.rows hB _).widen (by omega) (by simpa using HD.out.top)
end Go.Proofs.Ytgjmhihomklooaa
