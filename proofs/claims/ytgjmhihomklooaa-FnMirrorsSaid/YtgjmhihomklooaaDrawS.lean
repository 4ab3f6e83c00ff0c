/- Drawn synchronous patterns: l05Draw. No conditions. -/
import Derived.Test.YtgjmhihomklooaaDrawB
import Derived.Test.YtgjmhihomklooaaDrawC
import Derived.Test.YtgjmhihomklooaaSynV
import Derived.Deep.RegionHeld3
import Derived.Outline
namespace Go.Proofs.Ytgjmhihomklooaa
open Go.RowKit
set_option linter.unusedSimpArgs false
set_option linter.unusedVariables false

theorem OwnK.keepb {α : Type} {e : TypeId} {kk : Nat} {c : α → List Value} {w w' : World} {C b : Nat} {v : Value} {p : List α} (h : OwnK e kk c w C v p) (g : w.grownBy w' (some b)) (hb : b < C) : OwnK e kk c w' C v p :=
  h.block fun g' hg hlt => g.block g' hlt (by have := h.own_ge hg; intro e; cases e; omega)

/-- what a drawing of beats keeps: the beats, what they land in, the source -/
def DrS (w : World) (C n g m cap' : Nat) (L : List Int) (b K : Nat) (cv : Value) (W : World) (p : List Syn) : Prop :=
  Syns W C (.slice (some ⟨C, 0, none⟩) n n) p ∧ Ints W w.heap.size (.slice (some ⟨g, 0, none⟩) m cap') L ∧ Src W b K cv ∧ w.grownBy W (some b) ∧ C + 1 ≤ W.heap.size
section
variable {w W W' : World} {C n g m cap' b K K' tb : Nat} {L : List Int} {cv : Value} {p : List Syn}
theorem DrS.tset (h : DrS w C n g m cap' L b K cv W p) (h1 : tb ≠ C) (h2 : tb ≠ g) (h3 : tb ≠ b) (h4 : w.heap.size ≤ tb) (j : Nat) (v : Value) : DrS w C n g m cap' L b K cv (W.setCell ⟨tb, j, none⟩ v) p :=
  ⟨h.1.block fun g' hg _ => Below.heap_setCell _ _ _ _ (by simp [Value.ownBlock] at hg; subst hg; exact fun e => h1 e.symm),
   h.2.1.block fun g' hg _ => Below.heap_setCell _ _ _ _ (by simp [Value.ownBlock] at hg; subst hg; exact fun e => h2 e.symm),
   h.2.2.1.set j (fun e => h3 e.symm) v, grown_new h.2.2.2.1 j h4 v, by simpa using h.2.2.2.2⟩
theorem DrS.put (h : DrS w C n g m cap' L b K cv W p) (h1 : C ≠ g) (h2 : C ≠ b) (h4 : w.heap.size ≤ C) (i t : Nat) (u : Value) (y : Syn) (hi : i < p.length) (ht : t < 4) (hy : synV y = (synV (p.getD i s0)).set t u) : DrS w C n g m cap' L b K cv (W.setCell ⟨C, i * 4 + t, none⟩ u) (p.set i y) :=
  ⟨h.1.put synV_len s0 i t u y hi ht hy,
   h.2.1.block fun g' hg _ => Below.heap_setCell _ _ _ _ (by simp [Value.ownBlock] at hg; subst hg; exact fun e => h1 e.symm),
   h.2.2.1.set _ (fun e => h2 e.symm) u, grown_new h.2.2.2.1 _ h4 u, by simpa using h.2.2.2.2⟩
theorem DrS.left (h : DrS w C n g m cap' L b K cv W p) (h1 : C ≠ g) (h2 : C ≠ b) (h4 : w.heap.size ≤ C) (i : Nat) (v : Int) (c : Bool) (hi : i < p.length) :
    DrS w C n g m cap' L b K cv ((W.setCell ⟨C, i * 4, none⟩ (.int .i64 v)).setCell ⟨C, i * 4 + 1, none⟩ (.bool c)) (p.set i ((v, c), (p.getD i s0).2)) := by
  have a1 := h.put h1 h2 h4 i 0 (.int .i64 v) ((v, (p.getD i s0).1.2), (p.getD i s0).2) hi (by decide) rfl
  have a2 := a1.put h1 h2 h4 i 1 (.bool c) ((v, c), (p.getD i s0).2) (by simpa using hi) (by decide) (by simp [hi, synV])
  simpa [List.set_set] using a2
theorem DrS.right (h : DrS w C n g m cap' L b K cv W p) (h1 : C ≠ g) (h2 : C ≠ b) (h4 : w.heap.size ≤ C) (i : Nat) (v : Int) (c : Bool) (hi : i < p.length) :
    DrS w C n g m cap' L b K cv ((W.setCell ⟨C, i * 4 + 2, none⟩ (.int .i64 v)).setCell ⟨C, i * 4 + 3, none⟩ (.bool c)) (p.set i ((p.getD i s0).1, (v, c))) := by
  have a1 := h.put h1 h2 h4 i 2 (.int .i64 v) ((p.getD i s0).1, (v, (p.getD i s0).2.2)) hi (by decide) rfl
  have a2 := a1.put h1 h2 h4 i 3 (.bool c) ((p.getD i s0).1, (v, c)) (by simpa using hi) (by decide) (by simp [hi, synV])
  simpa [List.set_set] using a2
theorem DrS.more (h : DrS w C n g m cap' L b K cv W p) (g5 : W.grownBy W' (some b)) (s5 : Src W' b K' cv) (h1 : b < C) (h2 : b < w.heap.size) : DrS w C n g m cap' L b K' cv W' p :=
  ⟨h.1.keepb g5 h1, h.2.1.keepb g5 h2, s5, h.2.2.2.1.trans g5, Nat.le_trans h.2.2.2.2 g5.size⟩
theorem DrS.below (h : DrS w C n g m cap' L b K cv W p) (hb : Below W.heap.size W W') : DrS w C n g m cap' L b K cv W' p := by
  have gX : W.grownBy W' none := ⟨hb.os, hb.tape, hb.output, hb.size, fun k hk _ => hb.block k hk⟩
  exact ⟨h.1.below hb, h.2.1.below hb, h.2.2.1.keep gX (by simp), h.2.2.2.1.andThen gX (fun q hq => by cases hq), Nat.le_trans h.2.2.2.2 hb.size⟩
end
theorem bel_al {N : Nat} {w a : World} (h : Below N w a) (hN : N ≤ w.heap.size) (o : Obj) : Below N w (a.alloc o) := h.alloc (Nat.le_trans hN h.size) o

set_option maxRecDepth 10000 in
set_option maxHeartbeats 4000000 in
theorem l05Draw_any (a : Option Addr) (len cap b k : Nat) (m : Int) (zs : List Int) (w : World) (hs : Src w b k (.slice a len cap)) (hr : IsRow .u8 w a len cap zs) (hab : ∀ x, a = some x → 0 < zs.length → x.block ≠ b) (hlen : len ≤ 1000000000) (hk : k ≤ 1000000) (hm1 : 1 ≤ m) (hm : m ≤ 3) :
    Calls Try.prog 130 #[.pointer (some ⟨b, 0, none⟩), .int .i64 m] w fun e w' => ∃ v p, e = .returned v ∧ Syns w' w.heap.size v p ∧ 1 ≤ p.length ∧ p.length ≤ 3 ∧ Src w' b (k + 100) (.slice a len cap) ∧ w.grownBy w' (some b) := by
  obtain ⟨i0, hi0, hz0, hz1', hz2⟩ := info_parts Try.infoSyn
  have HP := pick_any a len cap b k m zs w hs hr hlen (by omega) (by omega)
  go_enter Try.func130, Try.ntmps130
  go_wp2_with fail
  refine HP.mono ?_
  rintro e w1 ⟨x, rfl, hx, s1, g1⟩
  clear HP
  have hbw := hs.lt
  have z1 := g1.size
  have hrow : ∀ wr : World, w.grownBy wr (some b) → IsRow .u8 wr a len cap zs := fun wr hg => hr.grown hg fun x hx h0 => by simpa using hab x hx h0
  have HROW := Lib.hid hrow
  have i1 : Ints (w1.alloc (.cells #[] 2)) w.heap.size (.slice (some ⟨w1.heap.size, 0, none⟩) 0 0) [] := World.ownsRow_lit w1 #[] 0 z1 (by simp [maxLen]) rfl
  have G1 : w.grownBy (w1.alloc (.cells #[] 2)) (some b) := g1.trans (World.grownBy_alloc _ _ _)
  have S1 := s1.keep (World.grownBy_alloc w1 (.cells #[] 2) none) (by simp)
  obtain ⟨n, hn⟩ : ∃ n : Nat, 1 + x = (n : Int) := ⟨(1 + x).toNat, by omega⟩
  have hn1 : 1 ≤ n := by omega
  have hn7 : n ≤ 3 := by omega
  clear s1 g1 hs hr hrow hx hab
  go_wp2
  clear hn
  go_loopw [6, 7, 8] (fun v i _ wr => ∃ (L : List Int) (j : Nat), i = .int .i64 j ∧ j ≤ 2 * n ∧ IsPerm L j ∧ Ints wr w.heap.size v L ∧ Src wr b (k + 1 + j) (.slice a len cap) ∧ w.grownBy wr (some b)) (fun _ i _ _ => 2 * n - (intOf i).toNat)
  case atStart => exact ⟨[], 0, rfl, Nat.zero_le _, IsPerm.nil, i1, S1, G1⟩
  case round =>
    obtain ⟨L, j, rfl, hj, hL, hi, hs, hg⟩ := hrel
    have hLl := hL.1
    have hzr := hg.size
    by_cases hlt : j < 2 * n
    · have hlt' : (j : Int) < 2 * (n : Int) := by omega
      have HC := pick_any a len cap b (k + 1 + j) (j + 1) zs _ hs (HROW.out _ hg) hlen (by omega) (by omega)
      have hl9 : L.length ≤ 1000000000 := by omega
      go_wp2_with fail
      refine HC.mono ?_
      rintro e w3 ⟨y, rfl, hy, s3, g3⟩
      have i3 := hi.block (w' := w3) (fun g hg hlt => g3.block g hlt (by have := hi.own_ge hg; intro e; cases e; omega))
      have G3 := hg.trans g3
      have Z3 := G3.size
      go_wp2_with (at_builtin; refine append_int _ rfl _ _ rfl _ _ _ rfl i3 _ rfl hl9 (by omega) ?_; intro v' w4 i4 g4; refine Hid.out ?_)
      have G4 : w.grownBy w4 (some b) := G3.andThen g4 (fun q hq => .inl (by have := i3.own_ge hq; exact this))
      have S4 := s3.keep g4 (by intro e; have := i3.own_ge e.symm; omega)
      obtain ⟨q, rfl⟩ : ∃ q : Nat, y = q := ⟨y.toNat, by omega⟩
      have hqj : q ≤ j := by omega
      have HM := hL.more hqj
      have hll : (L ++ [(j : Int)]).length = j + 1 := by simp [hLl]
      clear HC hi hs hg i3 s3 g3 g4 G3 Z3
      rcases i4.shape with ⟨rfl, hnil⟩ | ⟨g, cap', rfl, hBg, hgs, _⟩
      · simp at hnil
      have cq := i4.cell q (by omega)
      have cj := i4.cell j (by omega)
      have fq := i4.free q
      have fj := i4.free j
      rw [hll] at *
      generalize hX : L ++ [(j : Int)] = X at *
      have hbg : b ≠ g := by omega
      have GA := grown_new (grown_new G4 j hBg (.int .i64 (X.getD q 0))) q hBg (.int .i64 j)
      have SA := (S4.set j hbg (.int .i64 (X.getD q 0))).set q hbg (.int .i64 j)
      have IA := (i4.set j (X.getD q 0)).set q (j : Int)
      have hqj' : q < j + 1 := by omega
      have hX := Lib.hid hX
      generalize X.getD q 0 = y at *
      refine Lib.hid ?_
      by_cases hqe : q = j
      · subst hqe
        go_wp2
        go_roundw
        case rel => exact ⟨_, q + 1, by go_num, by omega, HM, IA, SA.mono (by omega), GA⟩
        case measure => simp [intOf]; omega
      · go_wp2
        go_roundw
        case rel => exact ⟨_, j + 1, by go_num, by omega, HM, IA, SA.mono (by omega), GA⟩
        case measure => simp [intOf]; omega
    · obtain rfl : j = 2 * n := by omega
      rcases hi.shape with ⟨rfl, rfl⟩ | ⟨g, cap', rfl, hBg, hgs, _⟩
      · simp at hLl; omega
      have HLB := Lib.hid hL
      have hlt' : ¬ ((2 * n : Nat) : Int) < 2 * (n : Int) := by omega
      rw [hLl] at *
      obtain ⟨C, hC⟩ : ∃ C, C = wr.heap.size := ⟨_, rfl⟩
      have hCw : w.heap.size ≤ C := by omega
      have hgC : g < C := by omega
      have hbC : b < C := by omega
      clear hL i1 G1 S1 z1
      go_wp2_with (at_make; refine wpList_make_full _ rfl _ _ 44 rfl C 115 i0 (.agg #[.int .i64 0, .bool false, .int .i64 0, .bool false]) 4 Try.underlying44 hi0 hz0 hz1' _ _ _ _ n rfl rfl rfl rfl (by rw [hz2]; omega) (by unfold maxLen; omega) (by omega) ?_; intro w3 hown hg3; refine Hid.out ?_)
      have ip0 : Syns w3 C (.slice (some ⟨wr.heap.size, 0, none⟩) n n) (List.replicate n s0) := by
        have e := made_flat synV_len s0 n (by decide)
        unfold Syns OwnK
        rw [List.length_replicate, ← e]
        exact hown
      have il0 : Ints w3 w.heap.size (.slice (some ⟨g, 0, none⟩) (2 * n) cap') L := hi.block fun g' hg' hlt' => hg3.block g' hlt' (by simp)
      have is0 := hs.keep hg3 (by simp)
      have G3 : w.grownBy w3 (some b) := hg.andThen hg3 (fun q hq => by cases hq)
      have zC3 : C + 1 ≤ w3.heap.size := by
        obtain ⟨g9, c9, e9, _, h9, _⟩ := ip0.shape2 (by simp; omega)
        simp only [Value.slice.injEq, Option.some.injEq, Addr.mk.injEq] at e9
        have := e9.1.1
        omega
      rw [← hC] at ip0
      clear hown hg3 hi hs hg hi0 hz0 hz1' hz2 hgs hzr
      refine Lib.hid ?_
      go_wp2
      rw [← hC]
      clear hC
      go_loopw [10] (fun i wr => ∃ (p : List Syn) (q : Nat), i = .int .i64 q ∧ q ≤ 2 * n ∧ p.length = n ∧ DrS w C n g (2 * n) cap' L b (k + 1 + 2 * n + q) (.slice a len cap) wr p) (fun i _ => 2 * n - (intOf i).toNat)
      case atStart => exact ⟨_, 0, rfl, Nat.zero_le _, by simp, ip0, il0, is0, G3, zC3⟩
      case round =>
        clear ip0 il0 is0 G3 zC3
        rename_i wx
        obtain ⟨p, q, rfl, hq, hpl, hD⟩ := hrel
        have hzr := hD.2.2.2.1.size
        have hzC := hD.2.2.2.2
        have il := hD.2.1
        by_cases hlt : q < 2 * n
        · have hlq : (q : Int) < 2 * (n : Int) := by omega
          have hLl := HLB.out.1
          obtain ⟨qi, hqi⟩ : ∃ x : Int, x = (q : Int) := ⟨_, rfl⟩
          have cq : wr.cell? ⟨g, qi.toNat, none⟩ = some (.int .i64 (L.getD q 0)) := by rw [hqi, Int.toNat_natCast]; exact il.cell q (by omega)
          obtain ⟨bq1, bq2⟩ := HLB.out.2.1 q hlt
          generalize L.getD q 0 = y at *
          rw [← hqi] at hlq
          have hqi0 : 0 ≤ qi := by omega
          have hqi1 : qi < ((2 * n : Nat) : Int) := by omega
          obtain ⟨yd, hyd⟩ : ∃ x, y.tdiv 2 = x := ⟨_, rfl⟩
          obtain ⟨ym, hym⟩ : ∃ x, y.tmod 2 = x := ⟨_, rfl⟩
          obtain ⟨qd, hqd⟩ : ∃ x, qi.tdiv 2 = x := ⟨_, rfl⟩
          obtain ⟨qm, hqm⟩ : ∃ x, qi.tmod 2 = x := ⟨_, rfl⟩
          have eyd : yd = y / 2 := by rw [← hyd, Int.tdiv_eq_ediv_of_nonneg bq1]
          have eqd : qd = qi / 2 := by rw [← hqd, Int.tdiv_eq_ediv_of_nonneg (by omega)]
          have HMM := Lib.hid (fun W => l02Mod_any (yd - qd) n W (by omega) (by omega) (by omega) (by omega))
          have ht0 := Int.emod_nonneg (yd - qd) (show (n : Int) ≠ 0 by omega)
          have ht1 := Int.emod_lt_of_pos (yd - qd) (show (0 : Int) < n by omega)
          have bd : 0 ≤ yd ∧ yd ≤ 6 ∧ 0 ≤ qd ∧ qd ≤ 6 := by omega
          obtain ⟨bd1, bd2, bd3, bd4⟩ := bd
          have HQI := Lib.hid hqi
          have eym : ym = y % 2 := by rw [← hym, Int.tmod_eq_emod_of_nonneg bq1]
          have eqm : qm = qi % 2 := by rw [← hqm, Int.tmod_eq_emod_of_nonneg (by omega)]
          have hw1 : IntKind.i64.wrap yd = yd := IntWalk.i64_in _ (by omega)
          have hw2 : IntKind.i64.wrap qd = qd := IntWalk.i64_in _ (by omega)
          have hw3 : IntKind.i64.wrap (yd - qd) = yd - qd := IntWalk.i64_in _ (by omega)
          have hw4 : IntKind.i64.wrap ym = ym := IntWalk.i64_in _ (by omega)
          have hw5 : IntKind.i64.wrap qm = qm := IntWalk.i64_in _ (by omega)
          have HEQ := Lib.hid (show qd = ((q / 2 : Nat) : Int) ∧ qm = ((q % 2 : Nat) : Int) from by omega)
          clear eyd eqd hLl eym eqm
          generalize (yd - qd) % (n : Int) = r at *
          have hw6 : IntKind.i64.wrap (2 * r) = 2 * r := IntWalk.i64_in _ (by omega)
          generalize hcb : (ym != qm) = cb at *
          rw [← hqi]
          clear hqi
          have HCELL := Lib.hid (fun W (hW : Below wr.heap.size wr W) => (hW.cell (p := ⟨g, qi.toNat, none⟩) (cell_block cq)).trans cq)
          go_wp2
          go_region_held3 (fun W => Below wr.heap.size wr W ∧ W.cell? ⟨g, qi.toNat, none⟩ = some (.int .i64 y)) (refine ⟨?_, HCELL.out _ ?_⟩ <;> (repeat (first | assumption | exact Below.refl _ _ | refine Below.drew ?_ | refine below_drewN ?_ _ | refine bel_al ?_ (Nat.le_refl _) _ | refine Below.setCell ?_ (by simp) _))) (first | (go_at_call 157; (with_reducible refine (HMM.out _).mono ?_); rintro e w' ⟨rfl, rfl⟩))
          all_goals
            have hbX : Below wr.heap.size wr (wr.alloc (.cells #[.int .i64 (2 * r), .bool cb] 113)).drew := Below.drew (bel_al (Below.refl _ _) (Nat.le_refl _) _)
            have x0 : (wr.alloc (.cells #[.int .i64 (2 * r), .bool cb] 113)).drew.cell? ⟨wr.heap.size, 0, none⟩ = some (.int .i64 (2 * r)) := by simp
            have x1 : (wr.alloc (.cells #[.int .i64 (2 * r), .bool cb] 113)).drew.cell? ⟨wr.heap.size, 1, none⟩ = some (.bool cb) := by simp
            have xf : (wr.alloc (.cells #[.int .i64 (2 * r), .bool cb] 113)).drew.frozen? ⟨wr.heap.size, 0, none⟩ = false := by simp
            generalize (wr.alloc (.cells #[.int .i64 (2 * r), .bool cb] 113)).drew = X at *
            have hX := hD.below hbX
            have zX : wr.heap.size + 1 ≤ X.heap.size := by have := cell_block x0; simp at this; omega
            have bv : 0 ≤ 2 * r ∧ 2 * r ≤ 4 := by omega
            obtain ⟨bv0, bv1⟩ := bv
            have hqp : qm = 0 ∨ qm = 1 := by have := HEQ.out.2; omega
            have hqdl : qd.toNat < p.length := by have := HEQ.out.1; omega
            have hqdn : qd < (n : Int) := by have := HEQ.out.1; omega
            have hc1 : wr.heap.size ≠ C := by omega
            have hc2 : wr.heap.size ≠ g := by omega
            have hc3 : wr.heap.size ≠ b := by omega
            have hc4 : w.heap.size ≤ wr.heap.size := by omega
            have hc5 : C ≠ wr.heap.size := by omega
            have hcg : C ≠ g := by omega
            have hcb' : C ≠ b := by omega
            have HO := one_any a len cap b (k + 1 + 2 * n + q) 2 zs X hX.2.2.1 (HROW.out _ hX.2.2.2.1) hlen (by omega) (by omega)
            clear hbX hD HCELL HMM cq hcb hw6 ht0 ht1 il HEQ
            generalize 2 * r = val at *
            by_cases h0 : val = 0
            · subst h0
              cases cb with
              | true =>
                clear HO
                rcases hqp with rfl | rfl
                · skip
                  obtain ⟨d0, d1, d2, d3⟩ := hX.1.four qd.toNat hqdl
                  have e0 := hX.1.free (qd.toNat * 4)
                  have e1 := hX.1.free (qd.toNat * 4 + 1)
                  have HF := Lib.hid (fun (v0 : Value) (v : Int) (c : Bool) => (hX.tset (tb := wr.heap.size) hc1 hc2 hc3 hc4 0 v0).left hcg hcb' hCw qd.toNat v c hqdl)
                  clear hX
                  generalize p.getD qd.toNat s0 = z at *
                  go_wp2
                  go_roundw
                  case rel => exact ⟨_, q + 1, by have := HQI.out; go_num, by omega, by simp [hpl], (HF.out _ _ _).1, (HF.out _ _ _).2.1, ((HF.out _ _ _).2.2.1).mono (by omega), (HF.out _ _ _).2.2.2.1, (HF.out _ _ _).2.2.2.2⟩
                  case measure => have := HQI.out; simp [intOf]; omega
                · skip
                  obtain ⟨d0, d1, d2, d3⟩ := hX.1.four qd.toNat hqdl
                  have e0 := hX.1.free (qd.toNat * 4 + 2)
                  have e1 := hX.1.free (qd.toNat * 4 + 3)
                  have HF := Lib.hid (fun (v0 : Value) (v : Int) (c : Bool) => (hX.tset (tb := wr.heap.size) hc1 hc2 hc3 hc4 0 v0).right hcg hcb' hCw qd.toNat v c hqdl)
                  clear hX
                  generalize p.getD qd.toNat s0 = z at *
                  go_wp2
                  go_roundw
                  case rel => exact ⟨_, q + 1, by have := HQI.out; go_num, by omega, by simp [hpl], (HF.out _ _ _).1, (HF.out _ _ _).2.1, ((HF.out _ _ _).2.2.1).mono (by omega), (HF.out _ _ _).2.2.2.1, (HF.out _ _ _).2.2.2.2⟩
                  case measure => have := HQI.out; simp [intOf]; omega
              | false =>
                go_wp2_with fail
                refine HO.mono ?_
                rintro e w5 ⟨x5, rfl, s5, g5⟩
                have hD5 := hX.more g5 s5 hbC hbw
                have y0 := (g5.cell x0 (by simpa using fun e : wr.heap.size = b => hc3 e)).trans rfl
                have y1 := (g5.cell x1 (by simpa using fun e : wr.heap.size = b => hc3 e)).trans rfl
                have yf : w5.frozen? ⟨wr.heap.size, 0, none⟩ = false := (World.frozen?_of_block (g5.block wr.heap.size (by omega) (by simpa using fun e : wr.heap.size = b => hc3 e))).trans xf
                clear HO hX g5 s5 x0 x1 xf
                cases x5 with
                | true =>
                  rcases hqp with rfl | rfl
                  · skip
                    obtain ⟨d0, d1, d2, d3⟩ := hD5.1.four qd.toNat hqdl
                    have e0 := hD5.1.free (qd.toNat * 4)
                    have e1 := hD5.1.free (qd.toNat * 4 + 1)
                    have HF := Lib.hid (fun (v0 : Value) (v : Int) (c : Bool) => (hD5.tset (tb := wr.heap.size) hc1 hc2 hc3 hc4 0 v0).left hcg hcb' hCw qd.toNat v c hqdl)
                    clear hD5
                    generalize p.getD qd.toNat s0 = z at *
                    go_wp2
                    go_roundw
                    case rel => exact ⟨_, q + 1, by have := HQI.out; go_num, by omega, by simp [hpl], (HF.out _ _ _).1, (HF.out _ _ _).2.1, ((HF.out _ _ _).2.2.1).mono (by omega), (HF.out _ _ _).2.2.2.1, (HF.out _ _ _).2.2.2.2⟩
                    case measure => have := HQI.out; simp [intOf]; omega
                  · skip
                    obtain ⟨d0, d1, d2, d3⟩ := hD5.1.four qd.toNat hqdl
                    have e0 := hD5.1.free (qd.toNat * 4 + 2)
                    have e1 := hD5.1.free (qd.toNat * 4 + 3)
                    have HF := Lib.hid (fun (v0 : Value) (v : Int) (c : Bool) => (hD5.tset (tb := wr.heap.size) hc1 hc2 hc3 hc4 0 v0).right hcg hcb' hCw qd.toNat v c hqdl)
                    clear hD5
                    generalize p.getD qd.toNat s0 = z at *
                    go_wp2
                    go_roundw
                    case rel => exact ⟨_, q + 1, by have := HQI.out; go_num, by omega, by simp [hpl], (HF.out _ _ _).1, (HF.out _ _ _).2.1, ((HF.out _ _ _).2.2.1).mono (by omega), (HF.out _ _ _).2.2.2.1, (HF.out _ _ _).2.2.2.2⟩
                    case measure => have := HQI.out; simp [intOf]; omega
                | false =>
                  rcases hqp with rfl | rfl
                  · skip
                    obtain ⟨d0, d1, d2, d3⟩ := hD5.1.four qd.toNat hqdl
                    have e0 := hD5.1.free (qd.toNat * 4)
                    have e1 := hD5.1.free (qd.toNat * 4 + 1)
                    have HF := Lib.hid (fun (v : Int) (c : Bool) => hD5.left hcg hcb' hCw qd.toNat v c hqdl)
                    clear hD5
                    generalize p.getD qd.toNat s0 = z at *
                    go_wp2
                    go_roundw
                    case rel => exact ⟨_, q + 1, by have := HQI.out; go_num, by omega, by simp [hpl], (HF.out _ _).1, (HF.out _ _).2.1, ((HF.out _ _).2.2.1).mono (by omega), (HF.out _ _).2.2.2.1, (HF.out _ _).2.2.2.2⟩
                    case measure => have := HQI.out; simp [intOf]; omega
                  · skip
                    obtain ⟨d0, d1, d2, d3⟩ := hD5.1.four qd.toNat hqdl
                    have e0 := hD5.1.free (qd.toNat * 4 + 2)
                    have e1 := hD5.1.free (qd.toNat * 4 + 3)
                    have HF := Lib.hid (fun (v : Int) (c : Bool) => hD5.right hcg hcb' hCw qd.toNat v c hqdl)
                    clear hD5
                    generalize p.getD qd.toNat s0 = z at *
                    go_wp2
                    go_roundw
                    case rel => exact ⟨_, q + 1, by have := HQI.out; go_num, by omega, by simp [hpl], (HF.out _ _).1, (HF.out _ _).2.1, ((HF.out _ _).2.2.1).mono (by omega), (HF.out _ _).2.2.2.1, (HF.out _ _).2.2.2.2⟩
                    case measure => have := HQI.out; simp [intOf]; omega
            · have h0' : (val == 0) = false := by simpa using h0
              clear h0
              go_wp2_with fail
              refine HO.mono ?_
              rintro e w5 ⟨x5, rfl, s5, g5⟩
              have hD5 := hX.more g5 s5 hbC hbw
              have y0 := (g5.cell x0 (by simpa using fun e : wr.heap.size = b => hc3 e)).trans rfl
              have y1 := (g5.cell x1 (by simpa using fun e : wr.heap.size = b => hc3 e)).trans rfl
              have yf : w5.frozen? ⟨wr.heap.size, 0, none⟩ = false := (World.frozen?_of_block (g5.block wr.heap.size (by omega) (by simpa using fun e : wr.heap.size = b => hc3 e))).trans xf
              clear HO hX g5 s5 x0 x1 xf
              cases x5 with
              | true =>
                rcases hqp with rfl | rfl
                · skip
                  obtain ⟨d0, d1, d2, d3⟩ := hD5.1.four qd.toNat hqdl
                  have e0 := hD5.1.free (qd.toNat * 4)
                  have e1 := hD5.1.free (qd.toNat * 4 + 1)
                  have HF := Lib.hid (fun (v0 : Value) (v : Int) (c : Bool) => (hD5.tset (tb := wr.heap.size) hc1 hc2 hc3 hc4 0 v0).left hcg hcb' hCw qd.toNat v c hqdl)
                  clear hD5
                  generalize p.getD qd.toNat s0 = z at *
                  go_wp2
                  go_roundw
                  case rel => exact ⟨_, q + 1, by have := HQI.out; go_num, by omega, by simp [hpl], (HF.out _ _ _).1, (HF.out _ _ _).2.1, ((HF.out _ _ _).2.2.1).mono (by omega), (HF.out _ _ _).2.2.2.1, (HF.out _ _ _).2.2.2.2⟩
                  case measure => have := HQI.out; simp [intOf]; omega
                · skip
                  obtain ⟨d0, d1, d2, d3⟩ := hD5.1.four qd.toNat hqdl
                  have e0 := hD5.1.free (qd.toNat * 4 + 2)
                  have e1 := hD5.1.free (qd.toNat * 4 + 3)
                  have HF := Lib.hid (fun (v0 : Value) (v : Int) (c : Bool) => (hD5.tset (tb := wr.heap.size) hc1 hc2 hc3 hc4 0 v0).right hcg hcb' hCw qd.toNat v c hqdl)
                  clear hD5
                  generalize p.getD qd.toNat s0 = z at *
                  go_wp2
                  go_roundw
                  case rel => exact ⟨_, q + 1, by have := HQI.out; go_num, by omega, by simp [hpl], (HF.out _ _ _).1, (HF.out _ _ _).2.1, ((HF.out _ _ _).2.2.1).mono (by omega), (HF.out _ _ _).2.2.2.1, (HF.out _ _ _).2.2.2.2⟩
                  case measure => have := HQI.out; simp [intOf]; omega
              | false =>
                rcases hqp with rfl | rfl
                · skip
                  obtain ⟨d0, d1, d2, d3⟩ := hD5.1.four qd.toNat hqdl
                  have e0 := hD5.1.free (qd.toNat * 4)
                  have e1 := hD5.1.free (qd.toNat * 4 + 1)
                  have HF := Lib.hid (fun (v : Int) (c : Bool) => hD5.left hcg hcb' hCw qd.toNat v c hqdl)
                  clear hD5
                  generalize p.getD qd.toNat s0 = z at *
                  go_wp2
                  go_roundw
                  case rel => exact ⟨_, q + 1, by have := HQI.out; go_num, by omega, by simp [hpl], (HF.out _ _).1, (HF.out _ _).2.1, ((HF.out _ _).2.2.1).mono (by omega), (HF.out _ _).2.2.2.1, (HF.out _ _).2.2.2.2⟩
                  case measure => have := HQI.out; simp [intOf]; omega
                · skip
                  obtain ⟨d0, d1, d2, d3⟩ := hD5.1.four qd.toNat hqdl
                  have e0 := hD5.1.free (qd.toNat * 4 + 2)
                  have e1 := hD5.1.free (qd.toNat * 4 + 3)
                  have HF := Lib.hid (fun (v : Int) (c : Bool) => hD5.right hcg hcb' hCw qd.toNat v c hqdl)
                  clear hD5
                  generalize p.getD qd.toNat s0 = z at *
                  go_wp2
                  go_roundw
                  case rel => exact ⟨_, q + 1, by have := HQI.out; go_num, by omega, by simp [hpl], (HF.out _ _).1, (HF.out _ _).2.1, ((HF.out _ _).2.2.1).mono (by omega), (HF.out _ _).2.2.2.1, (HF.out _ _).2.2.2.2⟩
                  case measure => have := HQI.out; simp [intOf]; omega
        · obtain rfl : q = 2 * n := by omega
          have hlq : ¬ ((2 * n : Nat) : Int) < 2 * (n : Int) := by omega
          go_wp2
          go_ret
          exact ⟨_, rfl, _, hD.1.mono hCw, by omega, by omega, hD.2.2.1.mono (by omega), hD.2.2.2.1⟩
end Go.Proofs.Ytgjmhihomklooaa
