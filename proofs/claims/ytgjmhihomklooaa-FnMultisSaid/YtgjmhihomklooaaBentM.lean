/- Drawn multiplex patterns that are seldom not valid: l04Bent. No conditions. -/
import Derived.Test.YtgjmhihomklooaaBentW
import Derived.Test.YtgjmhihomklooaaDrawM
import Derived.Test.YtgjmhihomklooaaDrawC
namespace Go.Proofs.Ytgjmhihomklooaa
open Go.RowKit
set_option linter.unusedSimpArgs false
set_option linter.unusedVariables false

/-- at most 13 beats of at most five throws -/
def MulB (p : List (List Int)) : Prop := p.length ≤ 13 ∧ ∀ i, i < p.length → (p.getD i []).length ≤ 5
theorem MulD.bent {p : List (List Int)} {n : Nat} (h : MulD p n) (hn : n ≤ 13) : MulB p := ⟨by rw [h.1]; exact hn, fun i hi => by have := h.2 i (by rw [← h.1]; exact hi); omega⟩
theorem MulB.set {p : List (List Int)} (h : MulB p) (i : Nat) {r : List Int} (hr : r.length ≤ 5) : MulB (p.set i r) := by
  refine ⟨by simpa using h.1, fun j hj => ?_⟩
  have hj' : j < p.length := by simpa using hj
  by_cases e : i = j
  · subst e
    rw [show (p.set i r).getD i [] = r by simp [hj']]
    exact hr
  · rw [show (p.set i r).getD j [] = p.getD j [] by simp [List.getElem?_set_ne e]]
    exact h.2 j hj'
theorem MulB.take {p : List (List Int)} (h : MulB p) (m : Nat) : MulB (p.take m) := by
  refine ⟨by rw [List.length_take]; have := h.1; omega, fun j hj => ?_⟩
  rw [List.length_take] at hj
  rw [show (p.take m).getD j [] = p.getD j [] by simp [List.getD_eq_getElem?_getD, List.getElem?_take, show j < m by omega]]
  exact h.2 j (by omega)

set_option maxRecDepth 10000 in
set_option maxHeartbeats 4000000 in
theorem l04Bent_any (a : Option Addr) (len cap b k : Nat) (zs : List Int) (w : World) (hs : Src w b k (.slice a len cap)) (hr : IsRow .u8 w a len cap zs) (hab : ∀ x, a = some x → 0 < zs.length → x.block ≠ b) (hlen : len ≤ 1000000000) (hk : k ≤ 800000) :
    Calls Try.prog 59 #[.pointer (some ⟨b, 0, none⟩)] w fun e w' => ∃ x y z p, e = .returned (.agg #[.slice x y z]) ∧ Grid 32 w' w.heap.size w'.heap.size (.slice x y z) p ∧ MulB p ∧ Src w' b (k + 300) (.slice a len cap) ∧ w.grownBy w' (some b) := by
  have hbw := hs.lt
  have hrow : ∀ wr : World, w.grownBy wr (some b) → IsRow .u8 wr a len cap zs := fun wr hg => hr.grown hg fun x hx h0 => by simpa using hab x hx h0
  have HROW := Lib.hid hrow
  have HAB := Lib.hid hab
  obtain ⟨W0, hW0⟩ : ∃ W0, W0 = w.alloc (.cells #[.slice none 0 0] 26) := ⟨_, rfl⟩
  have g0 : w.grownBy W0 (some b) := by rw [hW0]; exact World.grownBy_alloc _ _ _
  have s0 : Src W0 b k (.slice a len cap) := by rw [hW0]; exact hs.low (low_al _ _)
  have hz0 : W0.heap.size = w.heap.size + 1 := by rw [hW0]; simp
  have v0 : Var1 W0 w.heap.size (.slice none 0 0) := by rw [hW0]; exact Var1.made _ _ _
  have HP := pick_any a len cap b k 6 zs W0 s0 (HROW.out _ g0) hlen (by omega) (by omega)
  clear hs hr hrow hab s0
  go_enter Try.func59, Try.ntmps59
  go_wp2_with fail
  rw [← hW0]
  clear hW0
  refine HP.mono ?_
  rintro e w1 ⟨u, rfl, hu, s1, g1⟩
  have G1 := g0.trans g1
  have hz1 := g1.size
  have v1 := v0.block (g1.block _ v0.lt (by intro e; cases e; omega))
  clear HP g0 g1 v0
  have HP := one_any a len cap b (k + 1) 16 zs w1 s1 (HROW.out _ G1) hlen (by omega) (by omega)
  obtain ⟨n, hn⟩ : ∃ n : Nat, 1 + u = (n : Int) := ⟨(1 + u).toNat, by omega⟩
  have hn1 : 1 ≤ n := by omega
  have hn2 : n ≤ 6 := by omega
  clear s1 hu
  go_wp2_with fail
  refine HP.mono ?_
  rintro e w2 ⟨x, rfl, s2, g2⟩
  have G2 := G1.trans g2
  have hz2 := g2.size
  have v2 := v1.block (g2.block _ v1.lt (by intro e; cases e; omega))
  clear HP g2 v1
  (try rw [hn])
  clear hn
  cases x with
  | true =>
    have i2 : Ints (w2.alloc (.cells #[.int .i64 12, .int .i64 13] 2)) w2.heap.size (.slice (some ⟨w2.heap.size, 0, none⟩) 2 2) [12, 13] := World.ownsRow_lit w2 #[.int .i64 12, .int .i64 13] 2 (Nat.le_refl _) (by simp [maxLen]) rfl
    have b3 := low_al w2 (.cells #[.int .i64 12, .int .i64 13] 2)
    have s3 := s2.low b3
    have G3 := grown_low G2 b3
    have v3 := v2.below b3
    have hz3 := b3.size
    have HP := among_mem a len cap b (k + 1 + 1) w2.heap.size _ _ zs _ s3 (HROW.out _ G3) hlen (by omega) i2 (by omega) (by simp) (by simp)
    clear s2 G2 v2 i2 b3 s3
    go_wp2_with fail
    refine HP.mono ?_
    rintro e w4 ⟨y, rfl, hy, s4, g4⟩
    have G4 := G3.trans g4
    have hz4 := g4.size
    have v4 := v3.block (g4.block _ v3.lt (by intro e; cases e; omega))
    clear HP g4 v3 G3 hn1 hn2
    obtain ⟨n, rfl, hn1, hn2⟩ : ∃ n : Nat, y = n ∧ 1 ≤ n ∧ n ≤ 13 := ⟨y.toNat, by simp at hy; omega, by simp at hy; omega, by simp at hy; omega⟩
    clear hy
    have HDR := l04Draw_any a len cap b (k + 1 + 1 + 1) n zs w4 s4 (HROW.out _ G4) HAB.out hlen (by omega) hn1 hn2
    clear s4
    go_wp2_with fail
    refine HDR.mono ?_
    rintro e w5 ⟨x, y, z, p, rfl, q5, hp, s5, g5⟩
    have hz5 := g5.size
    have v5 := v4.block (g5.block _ (Var1.lt v4) (by intro e; cases e; omega))
    have G5 := G4.trans g5
    have hp1 := hp.1
    obtain ⟨g, cpp, e5, hBg, hgs, hc, hm⟩ := q5.shape.resolve_left fun e => by rw [e.2] at hp1; simp at hp1; omega
    simp at e5
    obtain ⟨rfl, rfl, rfl⟩ := e5
    rw [hp1] at q5
    obtain ⟨W5, hW5⟩ : ∃ W5, W5 = w5.alloc (.cells #[.slice (some ⟨g, 0, none⟩) n z] 26) := ⟨_, rfl⟩
    have bW := low_al w5 (.cells #[.slice (some ⟨g, 0, none⟩) n z] 26)
    have o5 := Var1.made w5 (.slice (some ⟨g, 0, none⟩) n z) 26
    rw [← hW5] at bW o5
    have HD : DrM w b w5.heap.size (k + 203) w4.heap.size w5.heap.size (.slice a len cap) (.slice (some ⟨g, 0, none⟩) n z) p W5 := ⟨(s5.low bW).mono (by omega), grown_low G5 bW, q5.below bW, o5, v5.below bW, bW.size⟩
    have hN0 : w.heap.size < w5.heap.size := by omega
    have hB0 : w.heap.size < w4.heap.size := by omega
    have hgN : g < w5.heap.size := hgs
    have HP := pick_any a len cap b (k + 203) n zs W5 HD.src (HROW.out _ HD.grown) hlen (by omega) (by omega)
    have c5 := HD.var.1
    have f5 := HD.var.2
    clear s5 g5 v5 G5 q5 bW o5 HDR v4 G4 hz5 hgs
    generalize hNe : w5.heap.size = N at *
    go_wp2_with fail
    rw [← hW5]
    clear hW5 hNe
    refine HP.mono ?_
    rintro e w6 ⟨u, rfl, hu, s6, g6⟩
    obtain ⟨i, rfl⟩ : ∃ i : Nat, u = i := ⟨u.toNat, by omega⟩
    have hi : i < n := by omega
    have HD := HD.more g6 s6 hbw hN0 hB0
    clear HP hu s6 g6 c5 f5
    have HP := pick_any a len cap b (k + 203 + 1) 20 zs w6 HD.src (HROW.out _ HD.grown) hlen (by omega) (by omega)
    go_wp2_with fail
    refine HP.mono ?_
    rintro e w7 ⟨y, rfl, hy, s7, g7⟩
    have HD := HD.more g7 s7 hbw hN0 hB0
    clear HP s7 g7
    have hpl : p.length = n := hp1
    have hn13 : n ≤ 13 := by omega
    have HB : Hid (MulB p) := hp.bent hn13
    have h1i : 1 ≤ (p.getD i []).length := (hp.2 i hi).1
    have h4i : (p.getD i []).length ≤ 4 := (hp.2 i hi).2
    by_cases y0 : y = 0
    · subst y0
      obtain ⟨gr, cr, cg, cr0, fr0, hgg, hgN2, _⟩ := HD.first i (by omega) h1i hB0 hbw (Nat.le_refl _) HD.top
      have hz7 := HD.var.lt
      have cN := HD.var.1
      have HS := Lib.hid (fun (W : World) (hb : Below w7.heap.size w7 W) (B' : Nat) (v' : Value) (hi' : Ints W B' v' [-1, 0, 15, 16]) (hB' : b < B') => (among_mem a len cap b (k + 203 + 1 + 1) B' v' [-1, 0, 15, 16] zs W (HD.low hb).src (HROW.out _ (HD.low hb).grown) hlen (by omega) hi' hB' (by simp) (by simp)).mono (fun e w' h => show ∃ X, e = .returned (.int .i64 X) ∧ DrM w b N (k + 203 + 1 + 1 + 1) w4.heap.size N (.slice a len cap) (.slice (some ⟨g, 0, none⟩) n z) (p.set i ((p.getD i []).set 0 X)) (w'.setCell ⟨gr, 0, none⟩ (.int .i64 X)) ∧ w'.cell? ⟨N, 0, none⟩ = some (.slice (some ⟨g, 0, none⟩) n z) ∧ w'.cell? ⟨g, i, none⟩ = some (.slice (some ⟨gr, 0, none⟩) (p.getD i []).length cr) ∧ (∃ t, w'.cell? ⟨gr, 0, none⟩ = some (.int .i64 t)) ∧ w'.frozen? ⟨gr, 0, none⟩ = false from by
        obtain ⟨X, h1, h2, h3, h4⟩ := h
        have hd' := (HD.low hb).more h4 h3 hbw hN0 hB0
        have hsame : w'.heap[g]? = w7.heap[g]? := (h4.block g (Nat.lt_of_lt_of_le (by omega) hb.size) (by intro e; cases e; omega)).trans (hb.block g (by omega))
        have hcg : w'.cell? ⟨g, i, none⟩ = w7.cell? ⟨g, i, none⟩ := by simp [World.cell?, hsame]
        obtain ⟨gr', c', e1, e2, e3, _, _, e4⟩ := hd'.first i (by omega) h1i hB0 hbw (Nat.le_refl _) hd'.top
        rw [hcg, cg] at e1
        simp at e1
        obtain ⟨rfl, rfl⟩ := e1
        exact ⟨X, h1, e4 X, hd'.var.1, hcg.trans cg, ⟨_, e2⟩, e3⟩))
      have HM := Lib.hid (fun X => HB.out.set i (r := (p.getD i []).set 0 X) (by rw [List.length_set]; omega))
      clear HD HB hp
      generalize p.getD i [] = row at *
      generalize row.length = L at *
      generalize row.getD 0 0 = t0 at *
      have hL0 : (0 : Int) < (L : Int) := by omega
      have hL4 : (L : Int) ≤ 4 := by omega
      have hL5 : 0 < L := by omega
      clear hpl
      go_wp2
      go_region_held3 (fun W => W.cell? ⟨N, 0, none⟩ = some (.slice (some ⟨g, 0, none⟩) n z) ∧ W.cell? ⟨g, i, none⟩ = some (.slice (some ⟨gr, 0, none⟩) L cr)) (first | exact ⟨by assumption, by assumption⟩ | exact ⟨cell_al (by assumption) _, cell_al (by assumption) _⟩ | exact ⟨cell_st (by assumption) (by omega) _, (World.cell?_setCell_other _ ⟨_, _, _⟩ ⟨_, _, _⟩ _ (by first | (simp; done) | (simp; omega) | (simp; exact fun e => hgg e.symm) | (simp; exact hgg))).trans (by assumption)⟩) (first | (go_at_call 112; (with_reducible refine (HS.out _ ?_ w7.heap.size _ ?_ (by omega)).mono ?_); (repeat (first | assumption | exact Below.refl _ _ | refine Below.drew ?_ | refine below_alM ?_ _)); (exact World.ownsRow_lit w7 #[.int .i64 (-1), .int .i64 0, .int .i64 15, .int .i64 16] 4 (Nat.le_refl _) (by simp [maxLen]) rfl); rintro e w9 ⟨X, rfl, hd9, cn9, cg9, ⟨t9, cr9⟩, fr9⟩))
      have f9 := hd9.res.2
      simp at f9
      have d0 := hd9.res.1
      have d1 := hd9.var.1
      have hres : ∀ y : Value, ((w9.setCell ⟨gr, 0, none⟩ (.int .i64 X)).setCell ⟨w.heap.size, 0, none⟩ y).cell? ⟨w.heap.size, 0, none⟩ = some y := fun y => World.cell?_setCell_same _ _ _ (u := .slice none 0 0) d0
      have HR := Lib.hid hd9
      clear hd9 HS
      go_wp2
      refine bodyPost_ret (v := .agg #[.slice (some ⟨g, 0, none⟩) n z]) (by simp [results, Try.results59, go_sem, hres]) rfl ?_
      refine ⟨_, _, _, _, rfl, ?_, HM.out X, (HR.out.src.set 0 (by omega) _).mono (by omega), grown_new HR.out.grown 0 (Nat.le_refl _) _⟩
      exact (grid_out HR.out.rows hB0 _).widen (by omega) (by first | (simp; done) | (simpa using HR.out.top))
    · by_cases y1 : y = 1
      · subst y1
        obtain ⟨gr, cr, cg, cr0, fr0, hgg, hgN2, _⟩ := HD.first i (by omega) h1i hB0 hbw (Nat.le_refl _) HD.top
        have hz7 := HD.var.lt
        have cN := HD.var.1
        have HS := Lib.hid (fun (W : World) (hb : Below w7.heap.size w7 W) => (pick_any a len cap b (k + 203 + 1 + 1) 4 zs W (HD.low hb).src (HROW.out _ (HD.low hb).grown) hlen (by omega) (by omega)).mono (fun e w' h => show ∃ X, e = .returned (.int .i64 X) ∧ DrM w b N (k + 203 + 1 + 1 + 1) w4.heap.size N (.slice a len cap) (.slice (some ⟨g, 0, none⟩) n z) p w' ∧ w'.cell? ⟨N, 0, none⟩ = some (.slice (some ⟨g, 0, none⟩) n z) ∧ w'.cell? ⟨g, i, none⟩ = some (.slice (some ⟨gr, 0, none⟩) (p.getD i []).length cr) ∧ (∀ o, (w'.alloc o).cell? ⟨N, 0, none⟩ = some (.slice (some ⟨g, 0, none⟩) n z)) ∧ (∀ o, (w'.alloc o).cell? ⟨g, i, none⟩ = some (.slice (some ⟨gr, 0, none⟩) (p.getD i []).length cr)) ∧ Ints w' w4.heap.size (.slice (some ⟨gr, 0, none⟩) (p.getD i []).length cr) (p.getD i []) ∧ w4.heap.size ≤ w'.heap.size from by
          obtain ⟨X, h1, h2, h3, h4⟩ := h
          have hd' := (HD.low hb).more h4 h3 hbw hN0 hB0
          have hsame : w'.heap[g]? = w7.heap[g]? := (h4.block g (Nat.lt_of_lt_of_le (by omega) hb.size) (by intro e; cases e; omega)).trans (hb.block g (by omega))
          have hcg : w'.cell? ⟨g, i, none⟩ = w7.cell? ⟨g, i, none⟩ := by simp [World.cell?, hsame]
          obtain ⟨u', e1, e2, e3⟩ := hd'.rows.row i (by omega)
          have hcg' := hcg.trans cg
          rw [hcg'] at e1
          obtain rfl := Option.some.inj e1
          exact ⟨X, h1, hd', hd'.var.1, hcg', fun o => cell_al hd'.var.1 o, fun o => cell_al hcg' o, e2, by have := hd'.var.lt; omega⟩))
        have HM := Lib.hid (fun X => HB.out.set i (r := p.getD i [] ++ [X]) (by simp only [List.length_append, List.length_singleton]; omega))
        clear HD HB hp
        generalize hrow : p.getD i [] = row at *
        clear hrow
        obtain ⟨L, hL⟩ : ∃ L, L = row.length := ⟨_, rfl⟩
        rw [← hL] at HS cg h1i h4i
        have hLL := Lib.hid hL
        clear hL
        generalize row.getD 0 0 = t0 at *
        have hL0 : (0 : Int) < (L : Int) := by omega
        have hL5 : 0 < L := by omega
        have hpl' := Lib.hid hpl
        clear hpl
        go_wp2
        go_region_law (first | (refine step_append_one _ rfl _ _ rfl w4.heap.size (.slice (some ⟨gr, 0, none⟩) L cr) row rfl (i9.below (by (repeat (first | exact Below.refl _ _ | refine Below.drew ?_ | refine below_drewN ?_ _ | refine below_alM ?_ _)))) w9.heap.size _ X rfl (Var1.made w9 (.int .i64 X) 2).1 (by have := hLL.out; omega) (Nat.le_trans hB9 (by simp)) ?_; intro g4 c4 l4 w4 i4 gr4 ho4; obtain ⟨hd4, cg4, fg4, cN4⟩ := DrM.swap (hd9.low (by (repeat (first | exact Below.refl _ _ | refine Below.drew ?_ | refine below_drewN ?_ _ | refine below_alM ?_ _)))) i (by have := hpl'.out; omega) (cga9 _) i4 gr4 (ho4.imp (fun e => by simpa [Value.ownBlock] using e) (fun e => e)) hbw hN0 hB0 (Nat.le_refl _)) | (go_simp; go_at_call 111; (with_reducible refine (HS.out _ ?_).mono ?_); (repeat (first | exact Below.refl _ _ | refine Below.drew ?_ | refine below_drewN ?_ _ | refine below_alM ?_ _)); rintro e w9 ⟨X, rfl, hd9, cn9, cg9, cna9, cga9, i9, hB9⟩))
        clear HS cN
        all_goals
          have f9 := hd4.res.2
          simp at f9
          have d0 := hd4.res.1
          have d1 := hd4.var.1
          have hres : ∀ y : Value, ((w4.setCell ⟨g, i, none⟩ (.slice (some ⟨g4, 0, none⟩) l4 c4)).setCell ⟨w.heap.size, 0, none⟩ y).cell? ⟨w.heap.size, 0, none⟩ = some y := fun y => World.cell?_setCell_same _ _ _ (u := .slice none 0 0) d0
          have HR := Lib.hid hd4
          clear hd4 hd9 i9 i4 cna9 cga9 cn9 cg9 cg4 fg4 cN4 gr4 ho4
          go_wp2
          refine bodyPost_ret (v := .agg #[.slice (some ⟨g, 0, none⟩) n z]) (by simp [results, Try.results59, go_sem, hres]) rfl ?_
          refine ⟨_, _, _, _, rfl, ?_, HM.out X, (HR.out.src.set 0 (by omega) _).mono (by omega), grown_new HR.out.grown 0 (Nat.le_refl _) _⟩
          exact (grid_out HR.out.rows hB0 _).widen (by omega) (by first | (simp; done) | (simpa using HR.out.top))
      · by_cases y2 : y = 2
        · subst y2
          obtain ⟨c0, f0⟩ := id HD.res
          obtain ⟨c1, f1⟩ := id HD.var
          obtain ⟨ur, cg, _, _⟩ := HD.rows.row i (by omega)
          have fg := HD.rows.free i
          have hz7 := HD.var.lt
          have hg2 := HD.rows.swap (w' := w7) (C' := w7.heap.size) (by decide) i (by omega) cg (u' := .slice none 0 0) (p := []) (Ints.nil _ _) (World.grownBy.refl _ _) (.inr fun g' hg' => by simp [Value.ownBlock] at hg') (by omega) (Nat.le_refl _)
          have HR := HD.poke hg2 (by omega) (by omega) hbw (Nat.le_refl _)
          have d0 := HR.res.1
          have d1 := HR.var.1
          have hres : ∀ y : Value, ((w7.setCell ⟨g, i, none⟩ (.slice none 0 0)).setCell ⟨w.heap.size, 0, none⟩ y).cell? ⟨w.heap.size, 0, none⟩ = some y := fun y => World.cell?_setCell_same _ _ _ (u := .slice none 0 0) d0
          have HM := Lib.hid (HB.out.set i (r := []) (by simp))
          have HR := Lib.hid HR
          clear HD hp hpl h1i h4i hg2
          go_wp2
          refine bodyPost_ret (v := .agg #[.slice (some ⟨g, 0, none⟩) n z]) (by simp [results, Try.results59, go_sem, hres]) rfl ?_
          refine ⟨_, _, _, _, rfl, ?_, HM.out, (HR.out.src.set 0 (by omega) _).mono (by omega), grown_new HR.out.grown 0 (Nat.le_refl _) _⟩
          exact (grid_out HR.out.rows hB0 _).widen (by omega) (by first | (simp; done) | (simpa using HR.out.top))
        · by_cases y3 : y = 3
          · subst y3
            obtain ⟨c0, f0⟩ := id HD.res
            obtain ⟨c1, f1⟩ := id HD.var
            have HR := HD.recut i (by omega) hN0 hbw (Nat.le_refl _)
            have d0 := HR.res.1
            have d1 := HR.var.1
            have hz := HR.top
            have hres : ∀ y : Value, ((w7.setCell ⟨N, 0, none⟩ (.slice (some ⟨g, 0, none⟩) i z)).setCell ⟨w.heap.size, 0, none⟩ y).cell? ⟨w.heap.size, 0, none⟩ = some y := fun y => World.cell?_setCell_same _ _ _ (u := .slice none 0 0) d0
            have HR := Lib.hid HR
            have hle : (i : Int) ≤ n := by omega
            clear HD hp hpl h1i h4i
            go_wp2
            refine bodyPost_ret (v := .agg #[.slice (some ⟨g, 0, none⟩) i z]) (by simp [results, Try.results59, go_sem, hres]) rfl ?_
            refine ⟨_, _, _, _, rfl, ?_, HB.out.take i, (HR.out.src.set 0 (by omega) _).mono (by omega), grown_new HR.out.grown 0 (Nat.le_refl _) _⟩
            exact (grid_out HR.out.rows hB0 _).widen (by omega) (by first | (simp; done) | (simpa using HR.out.top))
          · by_cases y4 : y = 4
            · subst y4
              obtain ⟨c0, f0⟩ := id HD.res
              obtain ⟨c1, f1⟩ := id HD.var
              obtain ⟨gr, cr, cg, cr0, fr0, hgg, hgN2, HX⟩ := HD.first i (by omega) h1i hB0 hbw (Nat.le_refl _) HD.top
              have hb5 := HB.out
              clear HB HD hp
              generalize p.getD i [] = row at *
              generalize row.getD 0 0 = t at *
              obtain ⟨X, hX⟩ : ∃ X, wrap64 (t + 1) = X := ⟨_, rfl⟩
              have hX' : IntKind.i64.wrap (t + 1) = X := (IntWalk.i64_left (t + 1)).trans hX
              have HR := HX X
              have d0 := HR.res.1
              have d1 := HR.var.1
              have hres : ∀ y : Value, ((w7.setCell ⟨gr, 0, none⟩ (.int .i64 X)).setCell ⟨w.heap.size, 0, none⟩ y).cell? ⟨w.heap.size, 0, none⟩ = some y := fun y => World.cell?_setCell_same _ _ _ (u := .slice none 0 0) d0
              have HR := Lib.hid HR
              have HM := Lib.hid (hb5.set i (r := row.set 0 X) (by rw [List.length_set]; omega))
              clear hb5
              generalize row.length = L at *
              clear hpl HX
              go_wp2
              refine bodyPost_ret (v := .agg #[.slice (some ⟨g, 0, none⟩) n z]) (by simp [results, Try.results59, go_sem, hres]) rfl ?_
              refine ⟨_, _, _, _, rfl, ?_, HM.out, (HR.out.src.set 0 (by omega) _).mono (by omega), grown_new HR.out.grown 0 (Nat.le_refl _) _⟩
              exact (grid_out HR.out.rows hB0 _).widen (by omega) (by first | (simp; done) | (simpa using HR.out.top))
            · obtain ⟨c0, f0⟩ := id HD.res
              obtain ⟨c1, f1⟩ := id HD.var
              have hres : ∀ y : Value, (w7.setCell ⟨w.heap.size, 0, none⟩ y).cell? ⟨w.heap.size, 0, none⟩ = some y := fun y => World.cell?_setCell_same _ _ _ (u := .slice none 0 0) c0
              have HR := Lib.hid HD
              have e0 : (y == 0) = false := by simpa using y0
              have e1 : (y == 1) = false := by simpa using y1
              have e2 : (y == 2) = false := by simpa using y2
              have e3 : (y == 3) = false := by simpa using y3
              have e4 : (y == 4) = false := by simpa using y4
              clear HD hp hpl h1i h4i y0 y1 y2 y3 y4
              go_wp2
              refine bodyPost_ret (v := .agg #[.slice (some ⟨g, 0, none⟩) n z]) (by simp [results, Try.results59, go_sem, hres]) rfl ?_
              refine ⟨_, _, _, _, rfl, ?_, HB.out, (HR.out.src.set 0 (by omega) _).mono (by omega), grown_new HR.out.grown 0 (Nat.le_refl _) _⟩
              exact (grid_out HR.out.rows hB0 _).widen (by omega) (by first | (simp; done) | (simpa using HR.out.top))
  | false =>
    have HDR := l04Draw_any a len cap b (k + 1 + 1) n zs w2 s2 (HROW.out _ G2) HAB.out hlen (by omega) hn1 (by omega)
    clear s2
    go_wp2_with fail
    refine HDR.mono ?_
    rintro e w5 ⟨x, y, z, p, rfl, q5, hp, s5, g5⟩
    have hz5 := g5.size
    have v5 := v2.block (g5.block _ (Var1.lt v2) (by intro e; cases e; omega))
    have G5 := G2.trans g5
    have hp1 := hp.1
    obtain ⟨g, cpp, e5, hBg, hgs, hc, hm⟩ := q5.shape.resolve_left fun e => by rw [e.2] at hp1; simp at hp1; omega
    simp at e5
    obtain ⟨rfl, rfl, rfl⟩ := e5
    rw [hp1] at q5
    obtain ⟨W5, hW5⟩ : ∃ W5, W5 = w5.alloc (.cells #[.slice (some ⟨g, 0, none⟩) n z] 26) := ⟨_, rfl⟩
    have bW := low_al w5 (.cells #[.slice (some ⟨g, 0, none⟩) n z] 26)
    have o5 := Var1.made w5 (.slice (some ⟨g, 0, none⟩) n z) 26
    rw [← hW5] at bW o5
    have HD : DrM w b w5.heap.size (k + 203) w2.heap.size w5.heap.size (.slice a len cap) (.slice (some ⟨g, 0, none⟩) n z) p W5 := ⟨(s5.low bW).mono (by omega), grown_low G5 bW, q5.below bW, o5, v5.below bW, bW.size⟩
    have hN0 : w.heap.size < w5.heap.size := by omega
    have hB0 : w.heap.size < w2.heap.size := by omega
    have hgN : g < w5.heap.size := hgs
    have HP := pick_any a len cap b (k + 203) n zs W5 HD.src (HROW.out _ HD.grown) hlen (by omega) (by omega)
    have c5 := HD.var.1
    have f5 := HD.var.2
    clear s5 g5 v5 G5 q5 bW o5 HDR v2 G2 hz5 hgs
    generalize hNe : w5.heap.size = N at *
    go_wp2_with fail
    rw [← hW5]
    clear hW5 hNe
    refine HP.mono ?_
    rintro e w6 ⟨u, rfl, hu, s6, g6⟩
    obtain ⟨i, rfl⟩ : ∃ i : Nat, u = i := ⟨u.toNat, by omega⟩
    have hi : i < n := by omega
    have HD := HD.more g6 s6 hbw hN0 hB0
    clear HP hu s6 g6 c5 f5
    have HP := pick_any a len cap b (k + 203 + 1) 20 zs w6 HD.src (HROW.out _ HD.grown) hlen (by omega) (by omega)
    go_wp2_with fail
    refine HP.mono ?_
    rintro e w7 ⟨y, rfl, hy, s7, g7⟩
    have HD := HD.more g7 s7 hbw hN0 hB0
    clear HP s7 g7
    have hpl : p.length = n := hp1
    have hn13 : n ≤ 13 := by omega
    have HB : Hid (MulB p) := hp.bent hn13
    have h1i : 1 ≤ (p.getD i []).length := (hp.2 i hi).1
    have h4i : (p.getD i []).length ≤ 4 := (hp.2 i hi).2
    by_cases y0 : y = 0
    · subst y0
      obtain ⟨gr, cr, cg, cr0, fr0, hgg, hgN2, _⟩ := HD.first i (by omega) h1i hB0 hbw (Nat.le_refl _) HD.top
      have hz7 := HD.var.lt
      have cN := HD.var.1
      have HS := Lib.hid (fun (W : World) (hb : Below w7.heap.size w7 W) (B' : Nat) (v' : Value) (hi' : Ints W B' v' [-1, 0, 15, 16]) (hB' : b < B') => (among_mem a len cap b (k + 203 + 1 + 1) B' v' [-1, 0, 15, 16] zs W (HD.low hb).src (HROW.out _ (HD.low hb).grown) hlen (by omega) hi' hB' (by simp) (by simp)).mono (fun e w' h => show ∃ X, e = .returned (.int .i64 X) ∧ DrM w b N (k + 203 + 1 + 1 + 1) w2.heap.size N (.slice a len cap) (.slice (some ⟨g, 0, none⟩) n z) (p.set i ((p.getD i []).set 0 X)) (w'.setCell ⟨gr, 0, none⟩ (.int .i64 X)) ∧ w'.cell? ⟨N, 0, none⟩ = some (.slice (some ⟨g, 0, none⟩) n z) ∧ w'.cell? ⟨g, i, none⟩ = some (.slice (some ⟨gr, 0, none⟩) (p.getD i []).length cr) ∧ (∃ t, w'.cell? ⟨gr, 0, none⟩ = some (.int .i64 t)) ∧ w'.frozen? ⟨gr, 0, none⟩ = false from by
        obtain ⟨X, h1, h2, h3, h4⟩ := h
        have hd' := (HD.low hb).more h4 h3 hbw hN0 hB0
        have hsame : w'.heap[g]? = w7.heap[g]? := (h4.block g (Nat.lt_of_lt_of_le (by omega) hb.size) (by intro e; cases e; omega)).trans (hb.block g (by omega))
        have hcg : w'.cell? ⟨g, i, none⟩ = w7.cell? ⟨g, i, none⟩ := by simp [World.cell?, hsame]
        obtain ⟨gr', c', e1, e2, e3, _, _, e4⟩ := hd'.first i (by omega) h1i hB0 hbw (Nat.le_refl _) hd'.top
        rw [hcg, cg] at e1
        simp at e1
        obtain ⟨rfl, rfl⟩ := e1
        exact ⟨X, h1, e4 X, hd'.var.1, hcg.trans cg, ⟨_, e2⟩, e3⟩))
      have HM := Lib.hid (fun X => HB.out.set i (r := (p.getD i []).set 0 X) (by rw [List.length_set]; omega))
      clear HD HB hp
      generalize p.getD i [] = row at *
      generalize row.length = L at *
      generalize row.getD 0 0 = t0 at *
      have hL0 : (0 : Int) < (L : Int) := by omega
      have hL4 : (L : Int) ≤ 4 := by omega
      have hL5 : 0 < L := by omega
      clear hpl
      go_wp2
      go_region_held3 (fun W => W.cell? ⟨N, 0, none⟩ = some (.slice (some ⟨g, 0, none⟩) n z) ∧ W.cell? ⟨g, i, none⟩ = some (.slice (some ⟨gr, 0, none⟩) L cr)) (first | exact ⟨by assumption, by assumption⟩ | exact ⟨cell_al (by assumption) _, cell_al (by assumption) _⟩ | exact ⟨cell_st (by assumption) (by omega) _, (World.cell?_setCell_other _ ⟨_, _, _⟩ ⟨_, _, _⟩ _ (by first | (simp; done) | (simp; omega) | (simp; exact fun e => hgg e.symm) | (simp; exact hgg))).trans (by assumption)⟩) (first | (go_at_call 112; (with_reducible refine (HS.out _ ?_ w7.heap.size _ ?_ (by omega)).mono ?_); (repeat (first | assumption | exact Below.refl _ _ | refine Below.drew ?_ | refine below_alM ?_ _)); (exact World.ownsRow_lit w7 #[.int .i64 (-1), .int .i64 0, .int .i64 15, .int .i64 16] 4 (Nat.le_refl _) (by simp [maxLen]) rfl); rintro e w9 ⟨X, rfl, hd9, cn9, cg9, ⟨t9, cr9⟩, fr9⟩))
      have f9 := hd9.res.2
      simp at f9
      have d0 := hd9.res.1
      have d1 := hd9.var.1
      have hres : ∀ y : Value, ((w9.setCell ⟨gr, 0, none⟩ (.int .i64 X)).setCell ⟨w.heap.size, 0, none⟩ y).cell? ⟨w.heap.size, 0, none⟩ = some y := fun y => World.cell?_setCell_same _ _ _ (u := .slice none 0 0) d0
      have HR := Lib.hid hd9
      clear hd9 HS
      go_wp2
      refine bodyPost_ret (v := .agg #[.slice (some ⟨g, 0, none⟩) n z]) (by simp [results, Try.results59, go_sem, hres]) rfl ?_
      refine ⟨_, _, _, _, rfl, ?_, HM.out X, (HR.out.src.set 0 (by omega) _).mono (by omega), grown_new HR.out.grown 0 (Nat.le_refl _) _⟩
      exact (grid_out HR.out.rows hB0 _).widen (by omega) (by first | (simp; done) | (simpa using HR.out.top))
    · by_cases y1 : y = 1
      · subst y1
        obtain ⟨gr, cr, cg, cr0, fr0, hgg, hgN2, _⟩ := HD.first i (by omega) h1i hB0 hbw (Nat.le_refl _) HD.top
        have hz7 := HD.var.lt
        have cN := HD.var.1
        have HS := Lib.hid (fun (W : World) (hb : Below w7.heap.size w7 W) => (pick_any a len cap b (k + 203 + 1 + 1) 4 zs W (HD.low hb).src (HROW.out _ (HD.low hb).grown) hlen (by omega) (by omega)).mono (fun e w' h => show ∃ X, e = .returned (.int .i64 X) ∧ DrM w b N (k + 203 + 1 + 1 + 1) w2.heap.size N (.slice a len cap) (.slice (some ⟨g, 0, none⟩) n z) p w' ∧ w'.cell? ⟨N, 0, none⟩ = some (.slice (some ⟨g, 0, none⟩) n z) ∧ w'.cell? ⟨g, i, none⟩ = some (.slice (some ⟨gr, 0, none⟩) (p.getD i []).length cr) ∧ (∀ o, (w'.alloc o).cell? ⟨N, 0, none⟩ = some (.slice (some ⟨g, 0, none⟩) n z)) ∧ (∀ o, (w'.alloc o).cell? ⟨g, i, none⟩ = some (.slice (some ⟨gr, 0, none⟩) (p.getD i []).length cr)) ∧ Ints w' w2.heap.size (.slice (some ⟨gr, 0, none⟩) (p.getD i []).length cr) (p.getD i []) ∧ w2.heap.size ≤ w'.heap.size from by
          obtain ⟨X, h1, h2, h3, h4⟩ := h
          have hd' := (HD.low hb).more h4 h3 hbw hN0 hB0
          have hsame : w'.heap[g]? = w7.heap[g]? := (h4.block g (Nat.lt_of_lt_of_le (by omega) hb.size) (by intro e; cases e; omega)).trans (hb.block g (by omega))
          have hcg : w'.cell? ⟨g, i, none⟩ = w7.cell? ⟨g, i, none⟩ := by simp [World.cell?, hsame]
          obtain ⟨u', e1, e2, e3⟩ := hd'.rows.row i (by omega)
          have hcg' := hcg.trans cg
          rw [hcg'] at e1
          obtain rfl := Option.some.inj e1
          exact ⟨X, h1, hd', hd'.var.1, hcg', fun o => cell_al hd'.var.1 o, fun o => cell_al hcg' o, e2, by have := hd'.var.lt; omega⟩))
        have HM := Lib.hid (fun X => HB.out.set i (r := p.getD i [] ++ [X]) (by simp only [List.length_append, List.length_singleton]; omega))
        clear HD HB hp
        generalize hrow : p.getD i [] = row at *
        clear hrow
        obtain ⟨L, hL⟩ : ∃ L, L = row.length := ⟨_, rfl⟩
        rw [← hL] at HS cg h1i h4i
        have hLL := Lib.hid hL
        clear hL
        generalize row.getD 0 0 = t0 at *
        have hL0 : (0 : Int) < (L : Int) := by omega
        have hL5 : 0 < L := by omega
        have hpl' := Lib.hid hpl
        clear hpl
        go_wp2
        go_region_law (first | (refine step_append_one _ rfl _ _ rfl w2.heap.size (.slice (some ⟨gr, 0, none⟩) L cr) row rfl (i9.below (by (repeat (first | exact Below.refl _ _ | refine Below.drew ?_ | refine below_drewN ?_ _ | refine below_alM ?_ _)))) w9.heap.size _ X rfl (Var1.made w9 (.int .i64 X) 2).1 (by have := hLL.out; omega) (Nat.le_trans hB9 (by simp)) ?_; intro g4 c4 l4 w4 i4 gr4 ho4; obtain ⟨hd4, cg4, fg4, cN4⟩ := DrM.swap (hd9.low (by (repeat (first | exact Below.refl _ _ | refine Below.drew ?_ | refine below_drewN ?_ _ | refine below_alM ?_ _)))) i (by have := hpl'.out; omega) (cga9 _) i4 gr4 (ho4.imp (fun e => by simpa [Value.ownBlock] using e) (fun e => e)) hbw hN0 hB0 (Nat.le_refl _)) | (go_simp; go_at_call 111; (with_reducible refine (HS.out _ ?_).mono ?_); (repeat (first | exact Below.refl _ _ | refine Below.drew ?_ | refine below_drewN ?_ _ | refine below_alM ?_ _)); rintro e w9 ⟨X, rfl, hd9, cn9, cg9, cna9, cga9, i9, hB9⟩))
        clear HS cN
        all_goals
          have f9 := hd4.res.2
          simp at f9
          have d0 := hd4.res.1
          have d1 := hd4.var.1
          have hres : ∀ y : Value, ((w4.setCell ⟨g, i, none⟩ (.slice (some ⟨g4, 0, none⟩) l4 c4)).setCell ⟨w.heap.size, 0, none⟩ y).cell? ⟨w.heap.size, 0, none⟩ = some y := fun y => World.cell?_setCell_same _ _ _ (u := .slice none 0 0) d0
          have HR := Lib.hid hd4
          clear hd4 hd9 i9 i4 cna9 cga9 cn9 cg9 cg4 fg4 cN4 gr4 ho4
          go_wp2
          refine bodyPost_ret (v := .agg #[.slice (some ⟨g, 0, none⟩) n z]) (by simp [results, Try.results59, go_sem, hres]) rfl ?_
          refine ⟨_, _, _, _, rfl, ?_, HM.out X, (HR.out.src.set 0 (by omega) _).mono (by omega), grown_new HR.out.grown 0 (Nat.le_refl _) _⟩
          exact (grid_out HR.out.rows hB0 _).widen (by omega) (by first | (simp; done) | (simpa using HR.out.top))
      · by_cases y2 : y = 2
        · subst y2
          obtain ⟨c0, f0⟩ := id HD.res
          obtain ⟨c1, f1⟩ := id HD.var
          obtain ⟨ur, cg, _, _⟩ := HD.rows.row i (by omega)
          have fg := HD.rows.free i
          have hz7 := HD.var.lt
          have hg2 := HD.rows.swap (w' := w7) (C' := w7.heap.size) (by decide) i (by omega) cg (u' := .slice none 0 0) (p := []) (Ints.nil _ _) (World.grownBy.refl _ _) (.inr fun g' hg' => by simp [Value.ownBlock] at hg') (by omega) (Nat.le_refl _)
          have HR := HD.poke hg2 (by omega) (by omega) hbw (Nat.le_refl _)
          have d0 := HR.res.1
          have d1 := HR.var.1
          have hres : ∀ y : Value, ((w7.setCell ⟨g, i, none⟩ (.slice none 0 0)).setCell ⟨w.heap.size, 0, none⟩ y).cell? ⟨w.heap.size, 0, none⟩ = some y := fun y => World.cell?_setCell_same _ _ _ (u := .slice none 0 0) d0
          have HM := Lib.hid (HB.out.set i (r := []) (by simp))
          have HR := Lib.hid HR
          clear HD hp hpl h1i h4i hg2
          go_wp2
          refine bodyPost_ret (v := .agg #[.slice (some ⟨g, 0, none⟩) n z]) (by simp [results, Try.results59, go_sem, hres]) rfl ?_
          refine ⟨_, _, _, _, rfl, ?_, HM.out, (HR.out.src.set 0 (by omega) _).mono (by omega), grown_new HR.out.grown 0 (Nat.le_refl _) _⟩
          exact (grid_out HR.out.rows hB0 _).widen (by omega) (by first | (simp; done) | (simpa using HR.out.top))
        · by_cases y3 : y = 3
          · subst y3
            obtain ⟨c0, f0⟩ := id HD.res
            obtain ⟨c1, f1⟩ := id HD.var
            have HR := HD.recut i (by omega) hN0 hbw (Nat.le_refl _)
            have d0 := HR.res.1
            have d1 := HR.var.1
            have hz := HR.top
            have hres : ∀ y : Value, ((w7.setCell ⟨N, 0, none⟩ (.slice (some ⟨g, 0, none⟩) i z)).setCell ⟨w.heap.size, 0, none⟩ y).cell? ⟨w.heap.size, 0, none⟩ = some y := fun y => World.cell?_setCell_same _ _ _ (u := .slice none 0 0) d0
            have HR := Lib.hid HR
            have hle : (i : Int) ≤ n := by omega
            clear HD hp hpl h1i h4i
            go_wp2
            refine bodyPost_ret (v := .agg #[.slice (some ⟨g, 0, none⟩) i z]) (by simp [results, Try.results59, go_sem, hres]) rfl ?_
            refine ⟨_, _, _, _, rfl, ?_, HB.out.take i, (HR.out.src.set 0 (by omega) _).mono (by omega), grown_new HR.out.grown 0 (Nat.le_refl _) _⟩
            exact (grid_out HR.out.rows hB0 _).widen (by omega) (by first | (simp; done) | (simpa using HR.out.top))
          · by_cases y4 : y = 4
            · subst y4
              obtain ⟨c0, f0⟩ := id HD.res
              obtain ⟨c1, f1⟩ := id HD.var
              obtain ⟨gr, cr, cg, cr0, fr0, hgg, hgN2, HX⟩ := HD.first i (by omega) h1i hB0 hbw (Nat.le_refl _) HD.top
              have hb5 := HB.out
              clear HB HD hp
              generalize p.getD i [] = row at *
              generalize row.getD 0 0 = t at *
              obtain ⟨X, hX⟩ : ∃ X, wrap64 (t + 1) = X := ⟨_, rfl⟩
              have hX' : IntKind.i64.wrap (t + 1) = X := (IntWalk.i64_left (t + 1)).trans hX
              have HR := HX X
              have d0 := HR.res.1
              have d1 := HR.var.1
              have hres : ∀ y : Value, ((w7.setCell ⟨gr, 0, none⟩ (.int .i64 X)).setCell ⟨w.heap.size, 0, none⟩ y).cell? ⟨w.heap.size, 0, none⟩ = some y := fun y => World.cell?_setCell_same _ _ _ (u := .slice none 0 0) d0
              have HR := Lib.hid HR
              have HM := Lib.hid (hb5.set i (r := row.set 0 X) (by rw [List.length_set]; omega))
              clear hb5
              generalize row.length = L at *
              clear hpl HX
              go_wp2
              refine bodyPost_ret (v := .agg #[.slice (some ⟨g, 0, none⟩) n z]) (by simp [results, Try.results59, go_sem, hres]) rfl ?_
              refine ⟨_, _, _, _, rfl, ?_, HM.out, (HR.out.src.set 0 (by omega) _).mono (by omega), grown_new HR.out.grown 0 (Nat.le_refl _) _⟩
              exact (grid_out HR.out.rows hB0 _).widen (by omega) (by first | (simp; done) | (simpa using HR.out.top))
            · obtain ⟨c0, f0⟩ := id HD.res
              obtain ⟨c1, f1⟩ := id HD.var
              have hres : ∀ y : Value, (w7.setCell ⟨w.heap.size, 0, none⟩ y).cell? ⟨w.heap.size, 0, none⟩ = some y := fun y => World.cell?_setCell_same _ _ _ (u := .slice none 0 0) c0
              have HR := Lib.hid HD
              have e0 : (y == 0) = false := by simpa using y0
              have e1 : (y == 1) = false := by simpa using y1
              have e2 : (y == 2) = false := by simpa using y2
              have e3 : (y == 3) = false := by simpa using y3
              have e4 : (y == 4) = false := by simpa using y4
              clear HD hp hpl h1i h4i y0 y1 y2 y3 y4
              go_wp2
              refine bodyPost_ret (v := .agg #[.slice (some ⟨g, 0, none⟩) n z]) (by simp [results, Try.results59, go_sem, hres]) rfl ?_
              refine ⟨_, _, _, _, rfl, ?_, HB.out, (HR.out.src.set 0 (by omega) _).mono (by omega), grown_new HR.out.grown 0 (Nat.le_refl _) _⟩
              exact (grid_out HR.out.rows hB0 _).widen (by omega) (by first | (simp; done) | (simpa using HR.out.top))
end Go.Proofs.Ytgjmhihomklooaa
