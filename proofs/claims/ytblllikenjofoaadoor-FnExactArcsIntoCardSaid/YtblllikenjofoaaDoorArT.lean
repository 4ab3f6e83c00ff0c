/- ArcsInto, the model's and the program's. Conditions: the library's table as its text lays it. -/
import Derived.Test.YtblllikenjofoaaDoorArK
import Derived.Test.YtblllikenjofoaaDoorGpJ
import Derived.Deep.RegionHeld3
namespace Go.Proofs.YtblllikenjofoaaDoor
open Go.RowKit
set_option linter.unusedSimpArgs false
set_option linter.unusedVariables false

/-- the arcs into a state -/
def filtA (xs : List ArcT) (t : Int) : List ArcT := xs.filter (fun x => decide (x.2.2 = t))
theorem filtA_hit {xs : List ArcT} {t : Int} {k : Nat} (hk : k < xs.length) (h : (xs.getD k a0).2.2 = t) : filtA (xs.take (k + 1)) t = filtA (xs.take k) t ++ [xs.getD k a0] := by
  have e : xs.getD k a0 = xs[k] := by simp [hk]
  rw [e] at h ⊢
  rw [List.take_succ_eq_append_getElem hk, filtA, List.filter_append, filtA]
  simp [h]
theorem filtA_miss {xs : List ArcT} {t : Int} {k : Nat} (hk : k < xs.length) (h : (xs.getD k a0).2.2 ≠ t) : filtA (xs.take (k + 1)) t = filtA (xs.take k) t := by
  have e : xs.getD k a0 = xs[k] := by simp [hk]
  rw [e] at h
  rw [List.take_succ_eq_append_getElem hk, filtA, List.filter_append, filtA]
  simp [h]
theorem filtA_len (xs : List ArcT) (t : Int) : (filtA xs t).length ≤ xs.length := List.length_filter_le _ _

theorem append_arc2 (w0 : World) {ops : Array Oper} {rest : List Oper} {o : Oper} {a : Act} {Q : Exit → Act → World → Prop} (hgd : o.guard = none) (s x : Operand)
    (ho : o.op = .call { callee := .builtin .append, args := #[s, x], argTypes := #[35, 35] }) (B : Nat) (v : Value) (xs : List ArcT) (hs : a.eval s = v) (h : Arcs w0 B v xs) (y : ArcT) (G : Nat)
    (hx : a.eval x = .slice (some ⟨G, 0, none⟩) 1 1) (hG : G = w0.heap.size) (hlen : xs.length ≤ 1000000) (hB : B ≤ w0.heap.size)
    (hK : ∀ v' w', Arcs w' B v' (xs ++ [y]) → w0.grownBy w' v.ownBlock → wpList Tryd.prog ops Q rest (a.put o.dst v') w') :
    wpList Tryd.prog ops Q (o :: rest) a (w0.alloc (.cells #[.int .i64 y.1, .int .i64 y.2.1, .int .i64 y.2.2] 40)) := by
  subst hG
  exact append_arc w0 hgd s x ho B v xs hs h y hx hlen hB fun v' w' h1 h2 _ => hK v' w' h1 h2

set_option maxRecDepth 10000 in
set_option maxHeartbeats 2000000 in
theorem arcsInto_any (v : Value) (B p h : Nat) (t : Int) (w : World) (hG : GraphIs w B v (gphG h p)) (hp : p ≤ h) (hh : h ≤ 10) :
    Calls Tryd.prog 60 #[v, .int .i64 t] w fun e w' => ∃ u, e = .returned u ∧ Arcs w' w.heap.size u (filtA (arcG h p) t) ∧ Below w.heap.size w w' := by
  have HA := arcs_any v B p h w hG hp hh
  have hll := arcG_len h p hh
  generalize arcG h p = L at *
  clear hG
  go_enter Tryd.func60, Tryd.ntmps60
  go_wp2_with fail
  refine HA.mono ?_
  rintro e w1 ⟨u, rfl, i1, b1⟩
  clear HA
  have HC := Lib.hid (fun k (hk : k < L.length) W (hW : Below w1.heap.size w1 W) => show ∃ g cap, u = .slice (some ⟨g, 0, none⟩) L.length cap ∧ ThreeA W g (k * 3) (L.getD k a0) from by
    obtain ⟨g, cap, e, _, hg, _⟩ := i1.shape2 (by omega)
    have hc := i1
    rw [e] at hc
    exact ⟨g, cap, e, (hc.threeA k hk).below hW hg⟩)
  have H1 := Lib.hid (fun k (hk : k < L.length) => filtA_hit (t := t) hk)
  have H2 := Lib.hid (fun k (hk : k < L.length) => filtA_miss (t := t) hk)
  have H3 := Lib.hid (fun k => filtA_len (L.take k) t)
  have H4 := Lib.hid (show filtA (L.take L.length) t = filtA L t from by rw [List.take_length])
  obtain ⟨ua, uc, rfl⟩ := i1.sl
  clear i1
  have I0 : Arcs w1 w1.heap.size (.slice none 0 0) (filtA (L.take 0) t) := OwnK.nil _ _ _ _ _
  have B0 := Below.refl w1.heap.size w1
  generalize hn : L.length = n at *
  go_wp2
  go_loopw [5, 11] (fun o i wr => ∃ k : Nat, k ≤ n ∧ i = .int .i64 k ∧ Arcs wr w1.heap.size o (filtA (L.take k) t) ∧ Below w1.heap.size w1 wr) (fun _ i _ => n - (intOf i).toNat)
  case atStart => exact ⟨0, Nat.zero_le _, rfl, I0, B0⟩
  case round =>
    clear I0 B0
    obtain ⟨k, hk, rfl, hO, hb⟩ := hrel
    by_cases hlt : k < n
    · have hlt' : decide (k < n) = true := decide_eq_true hlt
      obtain ⟨g, cap, hv, d0, d1, d2⟩ := HC.out k hlt wr hb
      cases hv
      have h1 := H1.out k hlt
      have h2 := H2.out k hlt
      have h3 := H3.out k
      have hbs := hb.size
      have hl3 : (filtA (L.take k) t).length ≤ 1000000 := by rw [List.length_take] at h3; omega
      clear H1 H2 H3 HC H4
      generalize hy : L.getD k a0 = y at *
      clear hy
      obtain ⟨y0, y1, y2⟩ := y
      simp only at d0 d1 d2 h1 h2
      have bx := hb.alloc hbs (.cells #[.int .i64 y0, .int .i64 y1, .int .i64 y2] 40)
      have hO1 := hO.alloc (.cells #[.int .i64 y0, .int .i64 y1, .int .i64 y2] 40)
      clear hO hb
      by_cases he : y2 = t
      · have he' : (y2 == t) = true := by simp [he]
        have HE := Lib.hid (h1 he)
        clear h1 h2 he
        go_wp2_with (at_builtin; refine append_arc2 _ rfl _ _ rfl _ _ _ rfl hO1 ((y0, y1, y2) : ArcT) _ rfl (by simp) hl3 bx.size ?_; intro v' w3 hO3 hg3; refine Hid.out ?_)
        have hb3 := hO1.below_grown bx bx.size hg3
        rw [← HE.out] at hO3
        clear hg3 hO1 bx
        refine Lib.hid ?_
        go_wp2
        go_roundw
        case rel => exact ⟨k + 1, by omega, by go_num, hO3, hb3⟩
        case measure => simp [intOf]; omega
      · have he' : (y2 == t) = false := by simp [he]
        have HE := Lib.hid (h2 he)
        clear h1 h2 he
        go_wp2
        go_roundw
        case rel => exact ⟨k + 1, by omega, by go_num, by rw [HE.out]; exact hO1, bx⟩
        case measure => simp [intOf]; omega
    · obtain rfl : k = n := by omega
      rw [H4.out] at hO
      clear H1 H2 H3 HC H4
      go_wp2
      go_ret
      exact ⟨_, rfl, OwnK.mono hO b1.size, b1.trans (hb.mono b1.size)⟩

/-- what ArcsInto answers -/
def intoA (h m : Int) : List ArcT := if okSt h m then filtA (arcG h.toNat (popN m.toNat)) (idxN m.toNat : Nat) else []
theorem intoA_len (h m : Int) : (intoA h m).length ≤ 12000 := by
  unfold intoA
  split
  · rename_i k
    obtain ⟨a, b, rfl, rfl, h1, h2, h3⟩ := okSt_nat k
    have := arcG_len a (popN b) h2
    have := filtA_len (arcG a (popN b)) (idxN b : Nat)
    rw [Int.toNat_natCast, Int.toNat_natCast]
    omega
  · simp
/-- a state has no more props than its height -/
theorem popN_height : ∀ h, h < 11 → ∀ m, m < 2 ^ h → popN m ≤ h := by decide +kernel

set_option maxRecDepth 10000 in
set_option maxHeartbeats 4000000 in
theorem arcsInto_impl (h m : Int) (w : World) (b1 : -9223372036854775808 ≤ m) (b2 : m ≤ 9223372036854775807) (hT : CtzTab w) :
    Calls Tryd.prog 29 #[.agg #[.int .i64 h, .int .i64 m]] w fun e w' => ∃ u, e = .returned (.tuple #[u, .int .i64 (stC h m)]) ∧ Arcs w' w.heap.size u (intoA h m) ∧ Below w.heap.size w w' := by
  have HV := fun W => isValid_any h m W b1 b2
  unfold intoA
  cases hok : okSt h m with
  | false =>
    rw [stC_false hok, if_neg (by simp)]
    rw [hok] at HV
    go_enter Tryd.func29, Tryd.ntmps29
    go_wp2_with fail
    refine (HV _).mono ?_
    rintro e w1 ⟨rfl, b3⟩
    go_wp2
    go_ret2
    exact ⟨_, rfl, OwnK.nil _ _ _ _ _, by first | exact b3 | exact (two_kept b3).2.2⟩
  | true =>
    rw [stC_true hok, if_pos rfl]
    rw [hok] at HV
    obtain ⟨a, b, rfl, rfl, h1, h2, h3⟩ := okSt_nat hok
    rw [Int.toNat_natCast, Int.toNat_natCast]
    have hp10 := pow_lt_1024 h2
    have hph := popN_height a (by omega) b h3
    obtain ⟨R, hR⟩ : ∃ R, filtA (arcG a (popN b)) (idxN b : Nat) = R := ⟨_, rfl⟩
    rw [hR]
    have HRR := Lib.hid hR
    clear hok hR
    go_enter Tryd.func29, Tryd.ntmps29
    go_wp2_with fail
    refine (HV _).mono ?_
    rintro e w1 ⟨rfl, b3⟩
    obtain ⟨c0, c1, b3⟩ := two_kept b3
    clear HV
    have hT1 := hT.below b3
    have HCE := Lib.hid (fun W (hW : Below w1.heap.size w1 W) => show W.cell? ⟨w.heap.size, 0, none⟩ = some (.int .i64 a) ∧ W.cell? ⟨w.heap.size, 1, none⟩ = some (.int .i64 b) from
      ⟨(hW.cell (p := ⟨_, _, none⟩) (cell_block c0)).trans c0, (hW.cell (p := ⟨_, _, none⟩) (cell_block c1)).trans c1⟩)
    have HK := Lib.hid (fun W (hW : Below w1.heap.size w1 W) => (kind_any (a : Int) b W (by omega)).mono (R' := fun e w' => e = .returned (.agg #[.int .i64 (popN b), .int .i64 a]) ∧ Below w1.heap.size w1 w') fun e w' q => ⟨q.1, hW.trans (q.2.mono hW.size)⟩)
    have HG := Lib.hid (fun W (hW : Below w1.heap.size w1 W) => (graph_any (popN b) a W hph h1 h2 (hT1.below hW)).mono (R' := fun e w' => ∃ u, e = .returned u ∧ (∃ B, GraphIs w' B u (gphG a (popN b))) ∧ Below w1.heap.size w1 w') fun e w' ⟨u, q1, q2, q3⟩ => ⟨u, q1, ⟨_, q2⟩, hW.trans (q3.mono hW.size)⟩)
    have HX := Lib.hid (fun W (hW : Below w1.heap.size w1 W) => (index_any a b W h1 h2 h3).mono (R' := fun e w' => e = .returned (.int .i64 (idxN b)) ∧ Below w1.heap.size w1 w' ∧ Below W.heap.size W w') fun e w' q => ⟨q.1, hW.trans (q.2.mono hW.size), q.2⟩)
    have HI := Lib.hid (fun v W (hG : ∃ B, GraphIs W B v (gphG a (popN b))) (hW : Below w1.heap.size w1 W) => show Calls Tryd.prog 60 #[v, .int .i64 (idxN b : Nat)] W fun e w' => ∃ u, e = .returned u ∧ Arcs w' w1.heap.size u R ∧ Below w1.heap.size w1 w' from by
      obtain ⟨B, hG⟩ := hG
      rw [← HRR.out]
      exact (arcsInto_any v B (popN b) a (idxN b : Nat) W hG hph h2).mono fun e w' ⟨u, q1, q2, q3⟩ => ⟨u, q1, OwnK.mono q2 hW.size, hW.trans (q3.mono hW.size)⟩)
    have BW := Below.refl w1.heap.size w1
    clear c0 c1 hT hT1 hph hp10 h3 HRR
    generalize gphG a (popN b) = G at *
    generalize popN b = p at *
    generalize idxN b = x at *
    go_wp2
    go_region_held3 (fun W => Below w1.heap.size w1 W ∧ W.cell? ⟨w.heap.size, 0, none⟩ = some (.int .i64 a) ∧ W.cell? ⟨w.heap.size, 1, none⟩ = some (.int .i64 b)) (refine ⟨?_, HCE.out _ ?_⟩ <;> (repeat (first | assumption | exact Below.refl _ _ | refine Below.drew ?_ | refine below_drewN ?_ _))) (first | (go_at_call 47; (with_reducible refine (HK.out _ ?_).mono ?_); (repeat (first | assumption | exact Below.refl _ _ | refine Below.drew ?_)); rintro e w2 ⟨rfl, b4⟩) | (go_at_call 48; (with_reducible refine (HG.out _ ?_).mono ?_); (repeat (first | assumption | exact Below.refl _ _ | refine Below.drew ?_)); rintro e w3 ⟨u, rfl, iG, b6⟩) | (go_at_call 50; (with_reducible refine (HX.out _ ?_).mono ?_); (repeat (first | assumption | exact Below.refl _ _ | refine Below.drew ?_)); rintro e w4 ⟨rfl, b8, b9⟩; (try replace iG := iG.imp fun B q => GraphIs.below q b9)) | (go_at_call 60; (first | (have hE := HI.out _ _ iG b8) | (have hE := HI.out _ _ iG b6)); (with_reducible refine hE.mono ?_); rintro e w5 ⟨v, rfl, iR, b7⟩))
    all_goals go_wp2
    all_goals go_ret2
    all_goals exact ⟨_, rfl, OwnK.mono iR b3.size, b3.trans (b7.mono b3.size)⟩

set_option maxRecDepth 10000 in
set_option maxHeartbeats 4000000 in
theorem arcsInto_spec (h m : Int) (w : World) :
    Calls Tryd.prog 27 #[.agg #[.int .i64 h, .int .i64 m]] w fun e w' => ∃ u, e = .returned (.tuple #[u, .int .i64 (stC h m)]) ∧ Arcs w' w.heap.size u (intoA h m) ∧ Below w.heap.size w w' := by
  have HV := fun W => l08Ok_any h m W
  unfold intoA
  cases hok : okSt h m with
  | false =>
    rw [stC_false hok, if_neg (by simp)]
    rw [hok] at HV
    go_enter Tryd.func27, Tryd.ntmps27
    go_wp2_with fail
    refine (HV _).mono ?_
    rintro e w1 ⟨rfl, b3⟩
    go_wp2
    go_ret2
    exact ⟨_, rfl, OwnK.nil _ _ _ _ _, by first | exact b3 | exact (two_kept b3).2.2⟩
  | true =>
    rw [stC_true hok, if_pos rfl]
    rw [hok] at HV
    obtain ⟨a, b, rfl, rfl, h1, h2, h3⟩ := okSt_nat hok
    rw [Int.toNat_natCast, Int.toNat_natCast]
    have hp10 := pow_lt_1024 h2
    have HC := Lib.hid (fun W => l08Count_any b W (by omega))
    have HM := Lib.hid (fun W => l09Masks_any (popN b) a W (popN_le b) h2)
    have HF := Lib.hid (fun v B W hI => l09Find_any v B (popN b) (2 ^ a) b W hI h3 rfl hp10)
    have HA := Lib.hid (fun v B W hI => l09Arcs_any v B (popN b) a W hI h1 h2)
    have hll := arcG_len a (popN b) h2
    clear hok h3 hp10
    generalize hL : arcG a (popN b) = L at *
    clear hL
    generalize mskI (popN b) (2 ^ a) = M at *
    generalize popN b = p at *
    generalize idxN b = x at *
    go_enter Tryd.func27, Tryd.ntmps27
    go_wp2_with fail
    refine (HV _).mono ?_
    rintro e w1 ⟨rfl, b3⟩
    obtain ⟨c0, c1, b3⟩ := two_kept b3
    clear HV
    have HCE := Lib.hid (fun W (hW : Below w1.heap.size w1 W) => show W.cell? ⟨w.heap.size, 0, none⟩ = some (.int .i64 a) ∧ W.cell? ⟨w.heap.size, 1, none⟩ = some (.int .i64 b) from
      ⟨(hW.cell (p := ⟨_, _, none⟩) (cell_block c0)).trans c0, (hW.cell (p := ⟨_, _, none⟩) (cell_block c1)).trans c1⟩)
    have BW := Below.refl w1.heap.size w1
    have HC1 := Lib.hid (fun W (hW : Below w1.heap.size w1 W) => (HC.out W).mono (R' := fun e w' => e = .returned (.int .i64 p) ∧ Below w1.heap.size w1 w') fun e w' h => ⟨h.1, hW.trans (h.2.mono hW.size)⟩)
    have HM1 := Lib.hid (fun W (hW : Below w1.heap.size w1 W) => (HM.out W).mono (R' := fun e w' => ∃ u, e = .returned u ∧ Ints w' w1.heap.size u M ∧ Below w1.heap.size w1 w') fun e w' ⟨u, q1, q2, q3⟩ => ⟨u, q1, q2.mono hW.size, hW.trans (q3.mono hW.size)⟩)
    clear HC HM c0 c1
    go_wp2
    go_region_held3 (fun W => Below w1.heap.size w1 W ∧ W.cell? ⟨w.heap.size, 0, none⟩ = some (.int .i64 a) ∧ W.cell? ⟨w.heap.size, 1, none⟩ = some (.int .i64 b)) (refine ⟨?_, HCE.out _ ?_⟩ <;> (repeat (first | assumption | exact Below.refl _ _ | refine Below.drew ?_ | refine below_drewN ?_ _))) (first | (go_at_call 44; (with_reducible refine (HC1.out _ ?_).mono ?_); (repeat (first | assumption | exact Below.refl _ _ | refine Below.drew ?_)); rintro e w2 ⟨rfl, b4⟩) | (go_at_call 43; (with_reducible refine (HM1.out _ ?_).mono ?_); (repeat (first | assumption | exact Below.refl _ _ | refine Below.drew ?_)); rintro e w3 ⟨u, rfl, i2, b6⟩))
    obtain ⟨e0, e1⟩ := HCE.out _ b6
    go_wp2_with fail
    refine (HF.out _ _ _ i2).mono ?_
    rintro e w4 ⟨rfl, rfl⟩
    go_wp2_with fail
    refine (HA.out _ _ _ i2).mono ?_
    rintro e w5 ⟨u, rfl, i5, b7⟩
    have B5 := b6.trans (b7.mono b6.size)
    have HC5 := Lib.hid (fun k (hk : k < L.length) W (hW : Below w5.heap.size w5 W) => show ∃ g cap, u = .slice (some ⟨g, 0, none⟩) L.length cap ∧ ThreeA W g (k * 3) (L.getD k a0) from by
      obtain ⟨g, cap, e, _, hg, _⟩ := i5.shape2 (by omega)
      have hc := i5
      rw [e] at hc
      exact ⟨g, cap, e, (hc.threeA k hk).below hW hg⟩)
    have H1 := Lib.hid (fun k (hk : k < L.length) => filtA_hit (t := (x : Int)) hk)
    have H2 := Lib.hid (fun k (hk : k < L.length) => filtA_miss (t := (x : Int)) hk)
    have H3 := Lib.hid (fun k => filtA_len (L.take k) (x : Int))
    have H4 := Lib.hid (show filtA (L.take L.length) (x : Int) = filtA L (x : Int) from by rw [List.take_length])
    obtain ⟨ua, uc, rfl⟩ := i5.sl
    have hs5 := B5.size
    have hs1 := b3.size
    clear i5 b7 i2 b6 b4 HA HF HC1 HM1 HCE e0 e1
    have I0 : Arcs (w5.alloc (.cells #[] 40)) w5.heap.size (.slice (some ⟨w5.heap.size, 0, none⟩) 0 0) (filtA (L.take 0) (x : Int)) := OwnK.empty _ _ _ _ (Nat.le_refl _)
    have B0 := (Below.refl w5.heap.size w5).alloc (Nat.le_refl _) (.cells #[] 40)
    generalize hn : L.length = n at *
    go_wp2
    go_loopw [7, 8] (fun o i wr => ∃ k : Nat, k ≤ n ∧ i = .int .i64 k ∧ Arcs wr w5.heap.size o (filtA (L.take k) (x : Int)) ∧ Below w5.heap.size w5 wr) (fun _ i _ => n - (intOf i).toNat)
    case atStart => exact ⟨0, Nat.zero_le _, rfl, I0, B0⟩
    case round =>
      clear I0 B0
      obtain ⟨k, hk, rfl, hO, hb⟩ := hrel
      by_cases hlt : k < n
      · have hlt' : decide (k < n) = true := decide_eq_true hlt
        obtain ⟨g, cap, hv, d0, d1, d2⟩ := HC5.out k hlt wr hb
        cases hv
        have h1 := H1.out k hlt
        have h2 := H2.out k hlt
        have h3 := H3.out k
        have hbs := hb.size
        have hl3 : (filtA (L.take k) (x : Int)).length ≤ 1000000 := by rw [List.length_take] at h3; omega
        clear H1 H2 H3 HC5 H4
        generalize hy : L.getD k a0 = y at *
        clear hy
        obtain ⟨y0, y1, y2⟩ := y
        simp only at d0 d1 d2 h1 h2
        by_cases he : y2 = (x : Int)
        · have he' : (y2 == (x : Int)) = true := by simp [he]
          have HE := Lib.hid (h1 he)
          clear h1 h2 he
          go_wp2_with (at_builtin; refine append_arc2 _ rfl _ _ rfl _ _ _ rfl hO ((y0, y1, y2) : ArcT) _ rfl (by simp) hl3 hbs ?_; intro v' w6 hO3 hg3; refine Hid.out ?_)
          have hb3 := hO.below_grown hb hbs hg3
          rw [← HE.out] at hO3
          clear hg3 hO hb
          refine Lib.hid ?_
          go_wp2
          go_roundw
          case rel => exact ⟨k + 1, by omega, by go_num, hO3, hb3⟩
          case measure => simp [intOf]; omega
        · have he' : (y2 == (x : Int)) = false := by simp [he]
          have HE := Lib.hid (h2 he)
          clear h1 h2 he
          go_wp2
          go_roundw
          case rel => exact ⟨k + 1, by omega, by go_num, by rw [HE.out]; exact hO, hb⟩
          case measure => simp [intOf]; omega
      · obtain rfl : k = n := by omega
        rw [H4.out] at hO
        clear H1 H2 H3 HC5 H4
        go_wp2
        go_ret2
        exact ⟨_, rfl, OwnK.mono hO (by omega), b3.trans ((B5.trans (hb.mono hs5)).mono hs1)⟩
end Go.Proofs.YtblllikenjofoaaDoor
