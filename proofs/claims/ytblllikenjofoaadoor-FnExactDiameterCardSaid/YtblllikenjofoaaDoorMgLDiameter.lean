/- The law FnExactDiameter returns true at every input, and leaves its arguments as they were. Conditions: none beyond the card's own tie of the library's table to its text. -/
import Derived.Test.YtblllikenjofoaaDoorGpI
import Derived.Test.YtblllikenjofoaaDoorArK
import Derived.Deep.RegionHeld3
import Derived.Test.YtblllikenjofoaaDoorArE
import Derived.Test.YtblllikenjofoaaDoorHigh
import Derived.Test.YtblllikenjofoaaDoorStO
import Derived.Test.YtblllikenjofoaaDoorCards
import Derived.Test.YtblllikenjofoaaDoorTie
import Derived.Lib.LaidTab
import Derived.LaidMore
import Derived.LaidLaws
import Derived.Stop.Joined
import Derived.SevenTiedAt
import Derived.ChangeArms
import Derived.ChangeVars

/- The states of one kind, the program's: index, StateIndex, StateAt. No conditions. -/
namespace Go.Proofs.YtblllikenjofoaaDoor
open Go.RowKit
set_option linter.unusedSimpArgs false
set_option linter.unusedVariables false

set_option maxRecDepth 10000 in
set_option maxHeartbeats 2000000 in
theorem sliceIndex_any (v : Value) (B h m K : Nat) (w : World) (hI : Sts w B v (mskS h (popN m) K)) (hm : m < K) (hK : K ≤ 1024) :
    Calls Tryd.prog 82 #[v, .agg #[.int .i64 h, .int .i64 m]] w fun e w' => e = .returned (.int .i64 (idxN m)) ∧ Below w.heap.size w w' := by
  obtain ⟨e1, e2⟩ := mskN_idx hm
  have hln := mskN_len (popN m) K
  have hsl := mskS_len h (popN m) K
  obtain ⟨g, cap, rfl, q1, q2, q3, q4⟩ := OwnK.shape2 hI (by omega)
  rw [hsl]
  have HC := Lib.hid (fun i (hi : i < (mskN (popN m) K).length) => show w.cell? ⟨g, i * 2, none⟩ = some (.int .i64 h) ∧ w.cell? ⟨g, i * 2 + 1, none⟩ = some (.int .i64 ((mskN (popN m) K).getD i 0 : Nat)) from by
    have := hI.twoS i (by omega)
    rw [show (mskS h (popN m) K).getD i s0 = ((h : Int), (((mskN (popN m) K).getD i 0 : Nat) : Int)) from mskS_at hi] at this
    exact this)
  have HN := Lib.hid (fun i (hi : i < idxN m) => mskN_idx_ne hm hi)
  have HE := Lib.hid e2
  clear e2 hI hsl q1 q3 q4
  generalize hn : (mskN (popN m) K).length = n at *
  clear hn
  generalize idxN m = x at *
  have X0 : Blk (w.alloc (.cells #[.int .i64 h, .int .i64 m] 25)) w.heap.size [.int .i64 h, .int .i64 m] 25 := Blk.made w #[.int .i64 h, .int .i64 m] _
  have B0 : Below w.heap.size w (w.alloc (.cells #[.int .i64 h, .int .i64 m] 25)) := (Below.refl _ w).alloc (Nat.le_refl _) _
  go_enter Tryd.func82, Tryd.ntmps82
  go_wp2
  go_loopw [8] (fun i wr => ∃ k : Nat, k ≤ x ∧ i = .int .i64 k ∧ Blk wr w.heap.size [.int .i64 h, .int .i64 m] 25 ∧ Below w.heap.size w wr) (fun i _ => x - (intOf i).toNat)
  case atStart => exact ⟨0, Nat.zero_le _, rfl, X0, B0⟩
  case round =>
    clear X0 B0
    obtain ⟨k, hk, rfl, X, hb⟩ := hrel
    have c0 := X.cell 0
    have c1 := X.cell 1
    simp only [List.getElem?_cons_zero, List.getElem?_cons_succ] at c0 c1
    obtain ⟨a0, a1⟩ := HC.out k (by omega)
    have d0 := (hb.cell (p := ⟨g, k * 2, none⟩) q2).trans a0
    have d1 := (hb.cell (p := ⟨g, k * 2 + 1, none⟩) q2).trans a1
    have hkn : k < n := by omega
    clear a0 a1
    by_cases hlt : k < x
    · have hne := HN.out k hlt
      generalize (mskN (popN m) K).getD k 0 = y at *
      have hq1 : ¬ ((m : Int) = (y : Int)) := by omega
      have hq2 : ¬ (m = y) := by omega
      have hq3 : ((m : Int) == (y : Int)) = false := beq_eq_false_iff_ne.2 hq1
      have HX := Lib.hid X
      clear HC HN HE X hne
      go_wp2
      go_region_held3 (fun W => W.cell? ⟨w.heap.size, 0, none⟩ = some (.int .i64 h) ∧ W.cell? ⟨w.heap.size, 1, none⟩ = some (.int .i64 m) ∧ W.cell? ⟨g, k * 2, none⟩ = some (.int .i64 h) ∧ W.cell? ⟨g, k * 2 + 1, none⟩ = some (.int .i64 y)) (exact ⟨c0, c1, d0, d1⟩) (fail)
      go_wp2
      go_roundw
      case rel => exact ⟨k + 1, by omega, by go_num, HX.out.below (Below.drew (Below.refl _ _)) HX.out.lt, Below.drew hb⟩
      case measure => simp [intOf]; omega
    · obtain rfl : k = x := by omega
      rw [HE.out] at d1
      clear HC HN HE X
      go_wp2
      go_region_held3 (fun W => W.cell? ⟨w.heap.size, 0, none⟩ = some (.int .i64 h) ∧ W.cell? ⟨w.heap.size, 1, none⟩ = some (.int .i64 m) ∧ W.cell? ⟨g, k * 2, none⟩ = some (.int .i64 h) ∧ W.cell? ⟨g, k * 2 + 1, none⟩ = some (.int .i64 m)) (exact ⟨c0, c1, d0, d1⟩) (fail)
      go_wp2
      go_ret
      exact ⟨rfl, Below.drew hb⟩

set_option maxRecDepth 10000 in
set_option maxHeartbeats 1000000 in
theorem index_any (h m : Nat) (w : World) (h1 : 1 ≤ h) (hh : h ≤ 10) (hm : m < 2 ^ h) :
    Calls Tryd.prog 50 #[.agg #[.int .i64 h, .int .i64 m]] w fun e w' => e = .returned (.int .i64 (idxN m)) ∧ Below w.heap.size w w' := by
  have hp10 := pow_lt_1024 hh
  obtain ⟨W0, hW0⟩ : ∃ W0, (w.alloc (.cells #[.int .i64 h, .int .i64 m] 25)) = W0 := ⟨_, rfl⟩
  have B0 : Below w.heap.size w W0 := by rw [← hW0]; exact (Below.refl _ w).alloc (Nat.le_refl _) _
  have P0 : Blk W0 w.heap.size [.int .i64 h, .int .i64 m] 25 := by rw [← hW0]; exact Blk.made w #[.int .i64 h, .int .i64 m] _
  have HCE := Lib.hid (fun W (hW : Below W0.heap.size W0 W) => show W.cell? ⟨w.heap.size, 0, none⟩ = some (.int .i64 h) ∧ W.cell? ⟨w.heap.size, 1, none⟩ = some (.int .i64 m) from
    ⟨(P0.below hW P0.lt).cell 0, (P0.below hW P0.lt).cell 1⟩)
  have HK := Lib.hid (fun W (hW : Below W0.heap.size W0 W) => (kind_any (h : Int) m W (by omega)).mono (R' := fun e w' => e = .returned (.agg #[.int .i64 (popN m), .int .i64 h]) ∧ Below W0.heap.size W0 w') fun e w' q => ⟨q.1, hW.trans (q.2.mono hW.size)⟩)
  have HS := Lib.hid (fun W (hW : Below W0.heap.size W0 W) => (states_any (popN m) h W (popN_le m) h1 hh).mono (R' := fun e w' => ∃ u, e = .returned u ∧ Sts w' W0.heap.size u (mskS h (popN m) (2 ^ h)) ∧ Below W0.heap.size W0 w') fun e w' ⟨u, q1, q2, q3⟩ => ⟨u, q1, q2.mono hW.size, hW.trans (q3.mono hW.size)⟩)
  have HX := Lib.hid (fun v B W hI (hW : Below W0.heap.size W0 W) => (sliceIndex_any v B h m (2 ^ h) W hI hm hp10).mono (R' := fun e w' => e = .returned (.int .i64 (idxN m)) ∧ Below W0.heap.size W0 w') fun e w' q => ⟨q.1, hW.trans (q.2.mono hW.size)⟩)
  clear P0 hp10 hm
  generalize mskS h (popN m) (2 ^ h) = L at *
  generalize popN m = p at *
  generalize idxN m = x at *
  have BW := Below.refl W0.heap.size W0
  go_enter Tryd.func50, Tryd.ntmps50
  go_wp2
  try rw [hW0]
  clear hW0
  go_region_held3 (fun W => Below W0.heap.size W0 W ∧ W.cell? ⟨w.heap.size, 0, none⟩ = some (.int .i64 h) ∧ W.cell? ⟨w.heap.size, 1, none⟩ = some (.int .i64 m)) (refine ⟨?_, HCE.out _ ?_⟩ <;> (repeat (first | assumption | exact Below.refl _ _ | refine Below.drew ?_ | refine below_drewN ?_ _))) (first | (go_at_call 47; (with_reducible refine (HK.out _ ?_).mono ?_); (repeat (first | assumption | exact Below.refl _ _ | refine Below.drew ?_)); rintro e w2 ⟨rfl, b4⟩) | (go_at_call 70; (with_reducible refine (HS.out _ ?_).mono ?_); (repeat (first | assumption | exact Below.refl _ _ | refine Below.drew ?_)); rintro e w3 ⟨u, rfl, i2, b6⟩) | (go_at_call 82; (have hE := HX.out _ _ _ i2 b6); (with_reducible refine hE.mono ?_); rintro e w4 ⟨rfl, b8⟩))
  all_goals go_wp2
  all_goals go_ret
  all_goals exact ⟨rfl, B0.trans (b8.mono B0.size)⟩

end Go.Proofs.YtblllikenjofoaaDoor

/- ArcsInto, the model's and the program's. Conditions: the library's table as its text lays it. -/
namespace Go.Proofs.YtblllikenjofoaaDoor
open Go.RowKit
set_option linter.unusedSimpArgs false
set_option linter.unusedVariables false

/-- the arcs into a state -/
def filtA (xs : List ArcT) (t : Int) : List ArcT := xs.filter (fun x => decide (x.2.2 = t))
theorem filtA_hit {xs : List ArcT} {t : Int} {k : Nat} (hk : k < xs.length) (h : (xs.getD k a0).2.2 = t) : filtA (xs.take (k + 1)) t = filtA (xs.take k) t ++ [xs.getD k a0] := by
  have e : xs.getD k a0 = xs[k] := by simp [hk]
  rw [e] at h ⊢
  rw [List.take_succ_eq_append_getElem hk, filtA, List.filter_append, filtA]
  simp [h]
theorem filtA_miss {xs : List ArcT} {t : Int} {k : Nat} (hk : k < xs.length) (h : (xs.getD k a0).2.2 ≠ t) : filtA (xs.take (k + 1)) t = filtA (xs.take k) t := by
  have e : xs.getD k a0 = xs[k] := by simp [hk]
  rw [e] at h
  rw [List.take_succ_eq_append_getElem hk, filtA, List.filter_append, filtA]
  simp [h]
theorem filtA_len (xs : List ArcT) (t : Int) : (filtA xs t).length ≤ xs.length := List.length_filter_le _ _

theorem append_arc2 (w0 : World) {ops : Array Oper} {rest : List Oper} {o : Oper} {a : Act} {Q : Exit → Act → World → Prop} (hgd : o.guard = none) (s x : Operand)
    (ho : o.op = .call { callee := .builtin .append, args := #[s, x], argTypes := #[35, 35] }) (B : Nat) (v : Value) (xs : List ArcT) (hs : a.eval s = v) (h : Arcs w0 B v xs) (y : ArcT) (G : Nat)
    (hx : a.eval x = .slice (some ⟨G, 0, none⟩) 1 1) (hG : G = w0.heap.size) (hlen : xs.length ≤ 1000000) (hB : B ≤ w0.heap.size)
    (hK : ∀ v' w', Arcs w' B v' (xs ++ [y]) → w0.grownBy w' v.ownBlock → wpList Tryd.prog ops Q rest (a.put o.dst v') w') :
    wpList Tryd.prog ops Q (o :: rest) a (w0.alloc (.cells #[.int .i64 y.1, .int .i64 y.2.1, .int .i64 y.2.2] 40)) := by
  subst hG
  exact append_arc w0 hgd s x ho B v xs hs h y hx hlen hB fun v' w' h1 h2 _ => hK v' w' h1 h2

set_option maxRecDepth 10000 in
set_option maxHeartbeats 2000000 in
theorem arcsInto_any (v : Value) (B p h : Nat) (t : Int) (w : World) (hG : GraphIs w B v (gphG h p)) (hp : p ≤ h) (hh : h ≤ 10) :
    Calls Tryd.prog 60 #[v, .int .i64 t] w fun e w' => ∃ u, e = .returned u ∧ Arcs w' w.heap.size u (filtA (arcG h p) t) ∧ Below w.heap.size w w' := by
  have HA := arcs_any v B p h w hG hp hh
  have hll := arcG_len h p hh
  generalize arcG h p = L at *
  clear hG
  go_enter Tryd.func60, Tryd.ntmps60
  go_wp2_with fail
  refine HA.mono ?_
  rintro e w1 ⟨u, rfl, i1, b1⟩
  clear HA
  have HC := Lib.hid (fun k (hk : k < L.length) W (hW : Below w1.heap.size w1 W) => show ∃ g cap, u = .slice (some ⟨g, 0, none⟩) L.length cap ∧ ThreeA W g (k * 3) (L.getD k a0) from by
    obtain ⟨g, cap, e, _, hg, _⟩ := i1.shape2 (by omega)
    have hc := i1
    rw [e] at hc
    exact ⟨g, cap, e, (hc.threeA k hk).below hW hg⟩)
  have H1 := Lib.hid (fun k (hk : k < L.length) => filtA_hit (t := t) hk)
  have H2 := Lib.hid (fun k (hk : k < L.length) => filtA_miss (t := t) hk)
  have H3 := Lib.hid (fun k => filtA_len (L.take k) t)
  have H4 := Lib.hid (show filtA (L.take L.length) t = filtA L t from by rw [List.take_length])
  obtain ⟨ua, uc, rfl⟩ := i1.sl
  clear i1
  have I0 : Arcs w1 w1.heap.size (.slice none 0 0) (filtA (L.take 0) t) := OwnK.nil _ _ _ _ _
  have B0 := Below.refl w1.heap.size w1
  generalize hn : L.length = n at *
  go_wp2
  go_loopw [5, 11] (fun o i wr => ∃ k : Nat, k ≤ n ∧ i = .int .i64 k ∧ Arcs wr w1.heap.size o (filtA (L.take k) t) ∧ Below w1.heap.size w1 wr) (fun _ i _ => n - (intOf i).toNat)
  case atStart => exact ⟨0, Nat.zero_le _, rfl, I0, B0⟩
  case round =>
    clear I0 B0
    obtain ⟨k, hk, rfl, hO, hb⟩ := hrel
    by_cases hlt : k < n
    · have hlt' : decide (k < n) = true := decide_eq_true hlt
      obtain ⟨g, cap, hv, d0, d1, d2⟩ := HC.out k hlt wr hb
      cases hv
      have h1 := H1.out k hlt
      have h2 := H2.out k hlt
      have h3 := H3.out k
      have hbs := hb.size
      have hl3 : (filtA (L.take k) t).length ≤ 1000000 := by rw [List.length_take] at h3; omega
      clear H1 H2 H3 HC H4
      generalize hy : L.getD k a0 = y at *
      clear hy
      obtain ⟨y0, y1, y2⟩ := y
      simp only at d0 d1 d2 h1 h2
      have bx := hb.alloc hbs (.cells #[.int .i64 y0, .int .i64 y1, .int .i64 y2] 40)
      have hO1 := hO.alloc (.cells #[.int .i64 y0, .int .i64 y1, .int .i64 y2] 40)
      clear hO hb
      by_cases he : y2 = t
      · have he' : (y2 == t) = true := by simp [he]
        have HE := Lib.hid (h1 he)
        clear h1 h2 he
        go_wp2_with (at_builtin; refine append_arc2 _ rfl _ _ rfl _ _ _ rfl hO1 ((y0, y1, y2) : ArcT) _ rfl (by simp) hl3 bx.size ?_; intro v' w3 hO3 hg3; refine Hid.out ?_)
        have hb3 := hO1.below_grown bx bx.size hg3
        rw [← HE.out] at hO3
        clear hg3 hO1 bx
        refine Lib.hid ?_
        go_wp2
        go_roundw
        case rel => exact ⟨k + 1, by omega, by go_num, hO3, hb3⟩
        case measure => simp [intOf]; omega
      · have he' : (y2 == t) = false := by simp [he]
        have HE := Lib.hid (h2 he)
        clear h1 h2 he
        go_wp2
        go_roundw
        case rel => exact ⟨k + 1, by omega, by go_num, by rw [HE.out]; exact hO1, bx⟩
        case measure => simp [intOf]; omega
    · obtain rfl : k = n := by omega
      rw [H4.out] at hO
      clear H1 H2 H3 HC H4
      go_wp2
      go_ret
      exact ⟨_, rfl, OwnK.mono hO b1.size, b1.trans (hb.mono b1.size)⟩

/-- what ArcsInto answers -/
def intoA (h m : Int) : List ArcT := if okSt h m then filtA (arcG h.toNat (popN m.toNat)) (idxN m.toNat : Nat) else []
theorem intoA_len (h m : Int) : (intoA h m).length ≤ 12000 := by
  unfold intoA
  split
  · rename_i k
    obtain ⟨a, b, rfl, rfl, h1, h2, h3⟩ := okSt_nat k
    have := arcG_len a (popN b) h2
    have := filtA_len (arcG a (popN b)) (idxN b : Nat)
    rw [Int.toNat_natCast, Int.toNat_natCast]
    omega
  · simp
/-- a state has no more props than its height -/
theorem popN_height : ∀ h, h < 11 → ∀ m, m < 2 ^ h → popN m ≤ h := by decide +kernel

set_option maxRecDepth 10000 in
set_option maxHeartbeats 4000000 in
theorem arcsInto_impl (h m : Int) (w : World) (b1 : -9223372036854775808 ≤ m) (b2 : m ≤ 9223372036854775807) (hT : CtzTab w) :
    Calls Tryd.prog 29 #[.agg #[.int .i64 h, .int .i64 m]] w fun e w' => ∃ u, e = .returned (.tuple #[u, .int .i64 (stC h m)]) ∧ Arcs w' w.heap.size u (intoA h m) ∧ Below w.heap.size w w' := by
  have HV := fun W => isValid_any h m W b1 b2
  unfold intoA
  cases hok : okSt h m with
  | false =>
    rw [stC_false hok, if_neg (by simp)]
    rw [hok] at HV
    go_enter Tryd.func29, Tryd.ntmps29
    go_wp2_with fail
    refine (HV _).mono ?_
    rintro e w1 ⟨rfl, b3⟩
    go_wp2
    go_ret2
    exact ⟨_, rfl, OwnK.nil _ _ _ _ _, by first | exact b3 | exact (two_kept b3).2.2⟩
  | true =>
    rw [stC_true hok, if_pos rfl]
    rw [hok] at HV
    obtain ⟨a, b, rfl, rfl, h1, h2, h3⟩ := okSt_nat hok
    rw [Int.toNat_natCast, Int.toNat_natCast]
    have hp10 := pow_lt_1024 h2
    have hph := popN_height a (by omega) b h3
    obtain ⟨R, hR⟩ : ∃ R, filtA (arcG a (popN b)) (idxN b : Nat) = R := ⟨_, rfl⟩
    rw [hR]
    have HRR := Lib.hid hR
    clear hok hR
    go_enter Tryd.func29, Tryd.ntmps29
    go_wp2_with fail
    refine (HV _).mono ?_
    rintro e w1 ⟨rfl, b3⟩
    obtain ⟨c0, c1, b3⟩ := two_kept b3
    clear HV
    have hT1 := hT.below b3
    have HCE := Lib.hid (fun W (hW : Below w1.heap.size w1 W) => show W.cell? ⟨w.heap.size, 0, none⟩ = some (.int .i64 a) ∧ W.cell? ⟨w.heap.size, 1, none⟩ = some (.int .i64 b) from
      ⟨(hW.cell (p := ⟨_, _, none⟩) (cell_block c0)).trans c0, (hW.cell (p := ⟨_, _, none⟩) (cell_block c1)).trans c1⟩)
    have HK := Lib.hid (fun W (hW : Below w1.heap.size w1 W) => (kind_any (a : Int) b W (by omega)).mono (R' := fun e w' => e = .returned (.agg #[.int .i64 (popN b), .int .i64 a]) ∧ Below w1.heap.size w1 w') fun e w' q => ⟨q.1, hW.trans (q.2.mono hW.size)⟩)
    have HG := Lib.hid (fun W (hW : Below w1.heap.size w1 W) => (graph_any (popN b) a W hph h1 h2 (hT1.below hW)).mono (R' := fun e w' => ∃ u, e = .returned u ∧ (∃ B, GraphIs w' B u (gphG a (popN b))) ∧ Below w1.heap.size w1 w') fun e w' ⟨u, q1, q2, q3⟩ => ⟨u, q1, ⟨_, q2⟩, hW.trans (q3.mono hW.size)⟩)
    have HX := Lib.hid (fun W (hW : Below w1.heap.size w1 W) => (index_any a b W h1 h2 h3).mono (R' := fun e w' => e = .returned (.int .i64 (idxN b)) ∧ Below w1.heap.size w1 w' ∧ Below W.heap.size W w') fun e w' q => ⟨q.1, hW.trans (q.2.mono hW.size), q.2⟩)
    have HI := Lib.hid (fun v W (hG : ∃ B, GraphIs W B v (gphG a (popN b))) (hW : Below w1.heap.size w1 W) => show Calls Tryd.prog 60 #[v, .int .i64 (idxN b : Nat)] W fun e w' => ∃ u, e = .returned u ∧ Arcs w' w1.heap.size u R ∧ Below w1.heap.size w1 w' from by
      obtain ⟨B, hG⟩ := hG
      rw [← HRR.out]
      exact (arcsInto_any v B (popN b) a (idxN b : Nat) W hG hph h2).mono fun e w' ⟨u, q1, q2, q3⟩ => ⟨u, q1, OwnK.mono q2 hW.size, hW.trans (q3.mono hW.size)⟩)
    have BW := Below.refl w1.heap.size w1
    clear c0 c1 hT hT1 hph hp10 h3 HRR
    generalize gphG a (popN b) = G at *
    generalize popN b = p at *
    generalize idxN b = x at *
    go_wp2
    go_region_held3 (fun W => Below w1.heap.size w1 W ∧ W.cell? ⟨w.heap.size, 0, none⟩ = some (.int .i64 a) ∧ W.cell? ⟨w.heap.size, 1, none⟩ = some (.int .i64 b)) (refine ⟨?_, HCE.out _ ?_⟩ <;> (repeat (first | assumption | exact Below.refl _ _ | refine Below.drew ?_ | refine below_drewN ?_ _))) (first | (go_at_call 47; (with_reducible refine (HK.out _ ?_).mono ?_); (repeat (first | assumption | exact Below.refl _ _ | refine Below.drew ?_)); rintro e w2 ⟨rfl, b4⟩) | (go_at_call 48; (with_reducible refine (HG.out _ ?_).mono ?_); (repeat (first | assumption | exact Below.refl _ _ | refine Below.drew ?_)); rintro e w3 ⟨u, rfl, iG, b6⟩) | (go_at_call 50; (with_reducible refine (HX.out _ ?_).mono ?_); (repeat (first | assumption | exact Below.refl _ _ | refine Below.drew ?_)); rintro e w4 ⟨rfl, b8, b9⟩; (try replace iG := iG.imp fun B q => GraphIs.below q b9)) | (go_at_call 60; (first | (have hE := HI.out _ _ iG b8) | (have hE := HI.out _ _ iG b6)); (with_reducible refine hE.mono ?_); rintro e w5 ⟨v, rfl, iR, b7⟩))
    all_goals go_wp2
    all_goals go_ret2
    all_goals exact ⟨_, rfl, OwnK.mono iR b3.size, b3.trans (b7.mono b3.size)⟩

set_option maxRecDepth 10000 in
set_option maxHeartbeats 4000000 in
theorem arcsInto_spec (h m : Int) (w : World) :
    Calls Tryd.prog 27 #[.agg #[.int .i64 h, .int .i64 m]] w fun e w' => ∃ u, e = .returned (.tuple #[u, .int .i64 (stC h m)]) ∧ Arcs w' w.heap.size u (intoA h m) ∧ Below w.heap.size w w' := by
  have HV := fun W => l08Ok_any h m W
  unfold intoA
  cases hok : okSt h m with
  | false =>
    rw [stC_false hok, if_neg (by simp)]
    rw [hok] at HV
    go_enter Tryd.func27, Tryd.ntmps27
    go_wp2_with fail
    refine (HV _).mono ?_
    rintro e w1 ⟨rfl, b3⟩
    go_wp2
    go_ret2
    exact ⟨_, rfl, OwnK.nil _ _ _ _ _, by first | exact b3 | exact (two_kept b3).2.2⟩
  | true =>
    rw [stC_true hok, if_pos rfl]
    rw [hok] at HV
    obtain ⟨a, b, rfl, rfl, h1, h2, h3⟩ := okSt_nat hok
    rw [Int.toNat_natCast, Int.toNat_natCast]
    have hp10 := pow_lt_1024 h2
    have HC := Lib.hid (fun W => l08Count_any b W (by omega))
    have HM := Lib.hid (fun W => l09Masks_any (popN b) a W (popN_le b) h2)
    have HF := Lib.hid (fun v B W hI => l09Find_any v B (popN b) (2 ^ a) b W hI h3 rfl hp10)
    have HA := Lib.hid (fun v B W hI => l09Arcs_any v B (popN b) a W hI h1 h2)
    have hll := arcG_len a (popN b) h2
    clear hok h3 hp10
    generalize hL : arcG a (popN b) = L at *
    clear hL
    generalize mskI (popN b) (2 ^ a) = M at *
    generalize popN b = p at *
    generalize idxN b = x at *
    go_enter Tryd.func27, Tryd.ntmps27
    go_wp2_with fail
    refine (HV _).mono ?_
    rintro e w1 ⟨rfl, b3⟩
    obtain ⟨c0, c1, b3⟩ := two_kept b3
    clear HV
    have HCE := Lib.hid (fun W (hW : Below w1.heap.size w1 W) => show W.cell? ⟨w.heap.size, 0, none⟩ = some (.int .i64 a) ∧ W.cell? ⟨w.heap.size, 1, none⟩ = some (.int .i64 b) from
      ⟨(hW.cell (p := ⟨_, _, none⟩) (cell_block c0)).trans c0, (hW.cell (p := ⟨_, _, none⟩) (cell_block c1)).trans c1⟩)
    have BW := Below.refl w1.heap.size w1
    have HC1 := Lib.hid (fun W (hW : Below w1.heap.size w1 W) => (HC.out W).mono (R' := fun e w' => e = .returned (.int .i64 p) ∧ Below w1.heap.size w1 w') fun e w' h => ⟨h.1, hW.trans (h.2.mono hW.size)⟩)
    have HM1 := Lib.hid (fun W (hW : Below w1.heap.size w1 W) => (HM.out W).mono (R' := fun e w' => ∃ u, e = .returned u ∧ Ints w' w1.heap.size u M ∧ Below w1.heap.size w1 w') fun e w' ⟨u, q1, q2, q3⟩ => ⟨u, q1, q2.mono hW.size, hW.trans (q3.mono hW.size)⟩)
    clear HC HM c0 c1
    go_wp2
    go_region_held3 (fun W => Below w1.heap.size w1 W ∧ W.cell? ⟨w.heap.size, 0, none⟩ = some (.int .i64 a) ∧ W.cell? ⟨w.heap.size, 1, none⟩ = some (.int .i64 b)) (refine ⟨?_, HCE.out _ ?_⟩ <;> (repeat (first | assumption | exact Below.refl _ _ | refine Below.drew ?_ | refine below_drewN ?_ _))) (first | (go_at_call 44; (with_reducible refine (HC1.out _ ?_).mono ?_); (repeat (first | assumption | exact Below.refl _ _ | refine Below.drew ?_)); rintro e w2 ⟨rfl, b4⟩) | (go_at_call 43; (with_reducible refine (HM1.out _ ?_).mono ?_); (repeat (first | assumption | exact Below.refl _ _ | refine Below.drew ?_)); rintro e w3 ⟨u, rfl, i2, b6⟩))
    obtain ⟨e0, e1⟩ := HCE.out _ b6
    go_wp2_with fail
    refine (HF.out _ _ _ i2).mono ?_
    rintro e w4 ⟨rfl, rfl⟩
    go_wp2_with fail
    refine (HA.out _ _ _ i2).mono ?_
    rintro e w5 ⟨u, rfl, i5, b7⟩
    have B5 := b6.trans (b7.mono b6.size)
    have HC5 := Lib.hid (fun k (hk : k < L.length) W (hW : Below w5.heap.size w5 W) => show ∃ g cap, u = .slice (some ⟨g, 0, none⟩) L.length cap ∧ ThreeA W g (k * 3) (L.getD k a0) from by
      obtain ⟨g, cap, e, _, hg, _⟩ := i5.shape2 (by omega)
      have hc := i5
      rw [e] at hc
      exact ⟨g, cap, e, (hc.threeA k hk).below hW hg⟩)
    have H1 := Lib.hid (fun k (hk : k < L.length) => filtA_hit (t := (x : Int)) hk)
    have H2 := Lib.hid (fun k (hk : k < L.length) => filtA_miss (t := (x : Int)) hk)
    have H3 := Lib.hid (fun k => filtA_len (L.take k) (x : Int))
    have H4 := Lib.hid (show filtA (L.take L.length) (x : Int) = filtA L (x : Int) from by rw [List.take_length])
    obtain ⟨ua, uc, rfl⟩ := i5.sl
    have hs5 := B5.size
    have hs1 := b3.size
    clear i5 b7 i2 b6 b4 HA HF HC1 HM1 HCE e0 e1
    have I0 : Arcs (w5.alloc (.cells #[] 40)) w5.heap.size (.slice (some ⟨w5.heap.size, 0, none⟩) 0 0) (filtA (L.take 0) (x : Int)) := OwnK.empty _ _ _ _ (Nat.le_refl _)
    have B0 := (Below.refl w5.heap.size w5).alloc (Nat.le_refl _) (.cells #[] 40)
    generalize hn : L.length = n at *
    go_wp2
    go_loopw [7, 8] (fun o i wr => ∃ k : Nat, k ≤ n ∧ i = .int .i64 k ∧ Arcs wr w5.heap.size o (filtA (L.take k) (x : Int)) ∧ Below w5.heap.size w5 wr) (fun _ i _ => n - (intOf i).toNat)
    case atStart => exact ⟨0, Nat.zero_le _, rfl, I0, B0⟩
    case round =>
      clear I0 B0
      obtain ⟨k, hk, rfl, hO, hb⟩ := hrel
      by_cases hlt : k < n
      · have hlt' : decide (k < n) = true := decide_eq_true hlt
        obtain ⟨g, cap, hv, d0, d1, d2⟩ := HC5.out k hlt wr hb
        cases hv
        have h1 := H1.out k hlt
        have h2 := H2.out k hlt
        have h3 := H3.out k
        have hbs := hb.size
        have hl3 : (filtA (L.take k) (x : Int)).length ≤ 1000000 := by rw [List.length_take] at h3; omega
        clear H1 H2 H3 HC5 H4
        generalize hy : L.getD k a0 = y at *
        clear hy
        obtain ⟨y0, y1, y2⟩ := y
        simp only at d0 d1 d2 h1 h2
        by_cases he : y2 = (x : Int)
        · have he' : (y2 == (x : Int)) = true := by simp [he]
          have HE := Lib.hid (h1 he)
          clear h1 h2 he
          go_wp2_with (at_builtin; refine append_arc2 _ rfl _ _ rfl _ _ _ rfl hO ((y0, y1, y2) : ArcT) _ rfl (by simp) hl3 hbs ?_; intro v' w6 hO3 hg3; refine Hid.out ?_)
          have hb3 := hO.below_grown hb hbs hg3
          rw [← HE.out] at hO3
          clear hg3 hO hb
          refine Lib.hid ?_
          go_wp2
          go_roundw
          case rel => exact ⟨k + 1, by omega, by go_num, hO3, hb3⟩
          case measure => simp [intOf]; omega
        · have he' : (y2 == (x : Int)) = false := by simp [he]
          have HE := Lib.hid (h2 he)
          clear h1 h2 he
          go_wp2
          go_roundw
          case rel => exact ⟨k + 1, by omega, by go_num, by rw [HE.out]; exact hO, hb⟩
          case measure => simp [intOf]; omega
      · obtain rfl : k = n := by omega
        rw [H4.out] at hO
        clear H1 H2 H3 HC5 H4
        go_wp2
        go_ret2
        exact ⟨_, rfl, OwnK.mono hO (by omega), b3.trans ((B5.trans (hb.mono hs5)).mono hs1)⟩
end Go.Proofs.YtblllikenjofoaaDoor

/- DistancesFrom, the model's and the program's. Conditions: the library's table as its text lays it. -/
namespace Go.Proofs.YtblllikenjofoaaDoor
open Go.RowKit
set_option linter.unusedSimpArgs false
set_option linter.unusedVariables false

/-- what DistancesFrom answers -/
def distS (h m : Int) : List Int := if okSt h m then distA h.toNat (popN m.toNat) (idxN m.toNat) else []
theorem distS_len (h m : Int) : (distS h m).length ≤ 1024 := by
  unfold distS
  split
  · rename_i k
    obtain ⟨a, b, rfl, rfl, h1, h2, h3⟩ := okSt_nat k
    rw [Int.toNat_natCast, Int.toNat_natCast, distA_len h1 h2 (idx_in h3 rfl).1]
    exact cntG_le a _ h2
  · simp

set_option maxRecDepth 10000 in
set_option maxHeartbeats 4000000 in
theorem l09From_any (a b : Nat) (w : World) (h1 : 1 ≤ a) (h2 : a ≤ 10) (h3 : b < 2 ^ a) :
    Calls Tryd.prog 61 #[.agg #[.int .i64 a, .int .i64 b]] w fun e w' => ∃ u, e = .returned u ∧ Ints w' w.heap.size u (distA a (popN b) (idxN b)) ∧ Below w.heap.size w w' := by
  have hp10 := pow_lt_1024 h2
  have hph := popN_height a (by omega) b h3
  have hix := (idx_in h3 rfl).1
  obtain ⟨W0, hW0⟩ : ∃ W0, (w.alloc (.cells #[.int .i64 a, .int .i64 b] 25)) = W0 := ⟨_, rfl⟩
  have B0 : Below w.heap.size w W0 := by rw [← hW0]; exact (Below.refl _ w).alloc (Nat.le_refl _) _
  have P0 : Blk W0 w.heap.size [.int .i64 a, .int .i64 b] 25 := by rw [← hW0]; exact Blk.made w #[.int .i64 a, .int .i64 b] _
  have HCE := Lib.hid (fun W (hW : Below W0.heap.size W0 W) => show W.cell? ⟨w.heap.size, 0, none⟩ = some (.int .i64 a) ∧ W.cell? ⟨w.heap.size, 1, none⟩ = some (.int .i64 b) from
    ⟨(P0.below hW P0.lt).cell 0, (P0.below hW P0.lt).cell 1⟩)
  have HC := Lib.hid (fun W (hW : Below W0.heap.size W0 W) => (l08Count_any b W (by omega)).mono (R' := fun e w' => e = .returned (.int .i64 (popN b)) ∧ Below W0.heap.size W0 w') fun e w' q => ⟨q.1, hW.trans (q.2.mono hW.size)⟩)
  have HM := Lib.hid (fun W (hW : Below W0.heap.size W0 W) => (l09Masks_any (popN b) a W (popN_le b) h2).mono (R' := fun e w' => ∃ u, e = .returned u ∧ (∃ B, Ints w' B u (mskI (popN b) (2 ^ a))) ∧ Below W0.heap.size W0 w') fun e w' ⟨u, q1, q2, q3⟩ => ⟨u, q1, ⟨_, q2⟩, hW.trans (q3.mono hW.size)⟩)
  have HA := Lib.hid (fun v W (hI : ∃ B, Ints W B v (mskI (popN b) (2 ^ a))) (hW : Below W0.heap.size W0 W) => show Calls Tryd.prog 56 #[v, .int .i64 a] W fun e w' => ∃ u, e = .returned u ∧ (∃ C, Arcs w' C u (arcG a (popN b))) ∧ (∃ B, Ints w' B v (mskI (popN b) (2 ^ a))) ∧ Below W0.heap.size W0 w' from by
    obtain ⟨B, hI⟩ := hI
    exact (l09Arcs_any v B (popN b) a W hI h1 h2).mono fun e w' ⟨u, q1, q2, q3⟩ => ⟨u, q1, ⟨_, q2⟩, ⟨B, hI.block fun g hg hlt => q3.block g hlt⟩, hW.trans (q3.mono hW.size)⟩)
  have HF := Lib.hid (fun v W (hI : ∃ B, Ints W B v (mskI (popN b) (2 ^ a))) => show Calls Tryd.prog 57 #[v, .int .i64 b] W fun e w' => e = .returned (.int .i64 (idxN b)) ∧ W = w' from by
    obtain ⟨B, hI⟩ := hI
    exact l09Find_any v B (popN b) (2 ^ a) b W hI h3 rfl hp10)
  have HD := Lib.hid (fun v u W (hI : ∃ B, Ints W B v (mskI (popN b) (2 ^ a))) (hU : ∃ C, Arcs W C u (arcG a (popN b))) (hW : Below W0.heap.size W0 W) => show Calls Tryd.prog 63 #[v, u, .int .i64 (idxN b : Nat)] W fun e w' => ∃ r, e = .returned r ∧ Ints w' W0.heap.size r (distA a (popN b) (idxN b)) ∧ Below W0.heap.size W0 w' from by
    obtain ⟨B, hI⟩ := hI
    obtain ⟨C, hU⟩ := hU
    exact (l09Far_any v u B C (popN b) a (idxN b) W hI hU h1 h2 hph hix).mono fun e w' ⟨u, q1, q2, q3⟩ => ⟨u, q1, q2.mono hW.size, hW.trans (q3.mono hW.size)⟩)
  have BW := Below.refl W0.heap.size W0
  clear hp10 hph hix P0 h3
  generalize distA a (popN b) (idxN b) = R at *
  generalize arcG a (popN b) = L at *
  generalize mskI (popN b) (2 ^ a) = M at *
  generalize popN b = p at *
  generalize idxN b = x at *
  go_enter Tryd.func61, Tryd.ntmps61
  go_wp2
  try rw [hW0]
  clear hW0
  go_region_held3 (fun W => Below W0.heap.size W0 W ∧ W.cell? ⟨w.heap.size, 0, none⟩ = some (.int .i64 a) ∧ W.cell? ⟨w.heap.size, 1, none⟩ = some (.int .i64 b)) (refine ⟨?_, HCE.out _ ?_⟩ <;> (repeat (first | assumption | exact Below.refl _ _ | refine Below.drew ?_ | refine below_drewN ?_ _))) (first | (go_at_call 44; (with_reducible refine (HC.out _ ?_).mono ?_); (repeat (first | assumption | exact Below.refl _ _ | refine Below.drew ?_)); rintro e w2 ⟨rfl, b4⟩) | (go_at_call 43; (with_reducible refine (HM.out _ ?_).mono ?_); (repeat (first | assumption | exact Below.refl _ _ | refine Below.drew ?_)); rintro e w3 ⟨u, rfl, iM, b6⟩))
  all_goals go_wp2
  all_goals go_region_held3 (fun W => Below W0.heap.size W0 W ∧ W.cell? ⟨w.heap.size, 0, none⟩ = some (.int .i64 a) ∧ W.cell? ⟨w.heap.size, 1, none⟩ = some (.int .i64 b)) (refine ⟨?_, HCE.out _ ?_⟩ <;> (repeat (first | assumption | exact Below.refl _ _ | refine Below.drew ?_ | refine below_drewN ?_ _))) (first | (go_at_call 56; (with_reducible refine (HA.out _ _ ?_ ?_).mono ?_); (exact iM); (repeat (first | assumption | exact Below.refl _ _ | refine Below.drew ?_ | refine below_drewN ?_ _)); rintro e w4 ⟨v, rfl, iA, iM2, b7⟩) | (go_at_call 57; (with_reducible refine (HF.out _ _ ?_).mono ?_); (exact iM2); rintro e w5 ⟨rfl, rfl⟩) | (go_at_call 63; (with_reducible refine (HD.out _ _ _ ?_ ?_ ?_).mono ?_); (exact iM2); (exact iA); (repeat (first | assumption | exact Below.refl _ _ | refine Below.drew ?_ | refine below_drewN ?_ _)); rintro e w6 ⟨r, rfl, iR, b8⟩))
  all_goals go_wp2
  all_goals go_ret
  all_goals exact ⟨_, rfl, iR.mono B0.size, B0.trans (b8.mono B0.size)⟩

set_option maxRecDepth 10000 in
set_option maxHeartbeats 1000000 in
theorem distancesFrom_spec (h m : Int) (w : World) :
    Calls Tryd.prog 30 #[.agg #[.int .i64 h, .int .i64 m]] w fun e w' => ∃ u, e = .returned (.tuple #[u, .int .i64 (stC h m)]) ∧ Ints w' w.heap.size u (distS h m) ∧ Below w.heap.size w w' := by
  have HV := fun W => l08Ok_any h m W
  unfold distS
  cases hok : okSt h m with
  | false =>
    rw [stC_false hok, if_neg (by simp)]
    rw [hok] at HV
    go_enter Tryd.func30, Tryd.ntmps30
    go_wp2_with fail
    refine (HV _).mono ?_
    rintro e w1 ⟨rfl, b3⟩
    go_wp2
    go_ret2
    exact ⟨_, rfl, Ints.nil _ _, by first | exact b3 | exact (two_kept b3).2.2⟩
  | true =>
    rw [stC_true hok, if_pos rfl]
    rw [hok] at HV
    obtain ⟨a, b, rfl, rfl, h1, h2, h3⟩ := okSt_nat hok
    rw [Int.toNat_natCast, Int.toNat_natCast]
    have HF := fun W => l09From_any a b W h1 h2 h3
    generalize distA a (popN b) (idxN b) = R at *
    clear hok h3
    go_enter Tryd.func30, Tryd.ntmps30
    go_wp2_with fail
    refine (HV _).mono ?_
    rintro e w1 ⟨rfl, b3⟩
    obtain ⟨c0, c1, b3⟩ := two_kept b3
    go_wp2_with fail
    refine (HF _).mono ?_
    rintro e w2 ⟨u, rfl, i2, b4⟩
    go_wp2
    go_ret2
    exact ⟨_, rfl, i2.mono b3.size, b3.trans (b4.mono b3.size)⟩

set_option maxRecDepth 10000 in
set_option maxHeartbeats 4000000 in
theorem distancesFrom_impl (h m : Int) (w : World) (b1 : -9223372036854775808 ≤ m) (b2 : m ≤ 9223372036854775807) (hT : CtzTab w) :
    Calls Tryd.prog 14 #[.agg #[.int .i64 h, .int .i64 m]] w fun e w' => ∃ u, e = .returned (.tuple #[u, .int .i64 (stC h m)]) ∧ Ints w' w.heap.size u (distS h m) ∧ Below w.heap.size w w' := by
  have HV := fun W => isValid_any h m W b1 b2
  unfold distS
  cases hok : okSt h m with
  | false =>
    rw [stC_false hok, if_neg (by simp)]
    rw [hok] at HV
    go_enter Tryd.func14, Tryd.ntmps14
    go_wp2_with fail
    refine (HV _).mono ?_
    rintro e w1 ⟨rfl, b3⟩
    go_wp2
    go_ret2
    exact ⟨_, rfl, Ints.nil _ _, by first | exact b3 | exact (two_kept b3).2.2⟩
  | true =>
    rw [stC_true hok, if_pos rfl]
    rw [hok] at HV
    obtain ⟨a, b, rfl, rfl, h1, h2, h3⟩ := okSt_nat hok
    rw [Int.toNat_natCast, Int.toNat_natCast]
    have hp10 := pow_lt_1024 h2
    have hph := popN_height a (by omega) b h3
    have hix := (idx_in h3 rfl).1
    obtain ⟨R, hR⟩ : ∃ R, distA a (popN b) (idxN b) = R := ⟨_, rfl⟩
    rw [hR]
    have HRR := Lib.hid hR
    clear hok hR
    go_enter Tryd.func14, Tryd.ntmps14
    go_wp2_with fail
    refine (HV _).mono ?_
    rintro e w1 ⟨rfl, b3⟩
    obtain ⟨c0, c1, b3⟩ := two_kept b3
    clear HV
    have hT1 := hT.below b3
    have HCE := Lib.hid (fun W (hW : Below w1.heap.size w1 W) => show W.cell? ⟨w.heap.size, 0, none⟩ = some (.int .i64 a) ∧ W.cell? ⟨w.heap.size, 1, none⟩ = some (.int .i64 b) from
      ⟨(hW.cell (p := ⟨_, _, none⟩) (cell_block c0)).trans c0, (hW.cell (p := ⟨_, _, none⟩) (cell_block c1)).trans c1⟩)
    have HK := Lib.hid (fun W (hW : Below w1.heap.size w1 W) => (kind_any (a : Int) b W (by omega)).mono (R' := fun e w' => e = .returned (.agg #[.int .i64 (popN b), .int .i64 a]) ∧ Below w1.heap.size w1 w') fun e w' q => ⟨q.1, hW.trans (q.2.mono hW.size)⟩)
    have HG := Lib.hid (fun W (hW : Below w1.heap.size w1 W) => (graph_any (popN b) a W hph h1 h2 (hT1.below hW)).mono (R' := fun e w' => ∃ u, e = .returned u ∧ (∃ B, GraphIs w' B u (gphG a (popN b))) ∧ Below w1.heap.size w1 w') fun e w' ⟨u, q1, q2, q3⟩ => ⟨u, q1, ⟨_, q2⟩, hW.trans (q3.mono hW.size)⟩)
    have HX := Lib.hid (fun W (hW : Below w1.heap.size w1 W) => (index_any a b W h1 h2 h3).mono (R' := fun e w' => e = .returned (.int .i64 (idxN b)) ∧ Below w1.heap.size w1 w' ∧ Below W.heap.size W w') fun e w' q => ⟨q.1, hW.trans (q.2.mono hW.size), q.2⟩)
    have HI := Lib.hid (fun v W (hG : ∃ B, GraphIs W B v (gphG a (popN b))) (hW : Below w1.heap.size w1 W) => show Calls Tryd.prog 49 #[v, .int .i64 (idxN b : Nat)] W fun e w' => ∃ u, e = .returned u ∧ Ints w' w1.heap.size u R ∧ Below w1.heap.size w1 w' from by
      obtain ⟨B, hG⟩ := hG
      rw [← HRR.out]
      exact (distFrom_any v B (popN b) a (idxN b : Nat) W hG h1 h2 hix).mono fun e w' ⟨u, q1, q2, q3⟩ => ⟨u, q1, q2.mono hW.size, hW.trans (q3.mono hW.size)⟩)
    have BW := Below.refl w1.heap.size w1
    clear c0 c1 hT hT1 hph hp10 h3 hix HRR
    generalize gphG a (popN b) = G at *
    generalize popN b = p at *
    generalize idxN b = x at *
    go_wp2
    go_region_held3 (fun W => Below w1.heap.size w1 W ∧ W.cell? ⟨w.heap.size, 0, none⟩ = some (.int .i64 a) ∧ W.cell? ⟨w.heap.size, 1, none⟩ = some (.int .i64 b)) (refine ⟨?_, HCE.out _ ?_⟩ <;> (repeat (first | assumption | exact Below.refl _ _ | refine Below.drew ?_ | refine below_drewN ?_ _))) (first | (go_at_call 47; (with_reducible refine (HK.out _ ?_).mono ?_); (repeat (first | assumption | exact Below.refl _ _ | refine Below.drew ?_)); rintro e w2 ⟨rfl, b4⟩) | (go_at_call 48; (with_reducible refine (HG.out _ ?_).mono ?_); (repeat (first | assumption | exact Below.refl _ _ | refine Below.drew ?_)); rintro e w3 ⟨u, rfl, iG, b6⟩) | (go_at_call 50; (with_reducible refine (HX.out _ ?_).mono ?_); (repeat (first | assumption | exact Below.refl _ _ | refine Below.drew ?_)); rintro e w4 ⟨rfl, b8, b9⟩; (try replace iG := iG.imp fun B q => GraphIs.below q b9)) | (go_at_call 49; (with_reducible refine (HI.out _ _ ?_ ?_).mono ?_); (exact iG); (repeat (first | assumption | exact Below.refl _ _ | refine Below.drew ?_ | refine below_drewN ?_ _)); rintro e w5 ⟨v, rfl, iR, b7⟩))
    all_goals go_wp2
    all_goals go_ret2
    all_goals exact ⟨_, rfl, iR.mono b3.size, b3.trans (b7.mono b3.size)⟩
end Go.Proofs.YtblllikenjofoaaDoor

/- Diameter, the model's and the program's. Conditions: the library's table as its text lays it. -/
namespace Go.Proofs.YtblllikenjofoaaDoor
open Go.RowKit
set_option linter.unusedSimpArgs false
set_option linter.unusedVariables false

/-- the greatest of a list and a number -/
def mxL (l : List Int) (m : Int) : Int := l.foldl max m
theorem mx_step {l : List Int} {k : Nat} (m : Int) (hk : k < l.length) : mxL (l.take (k + 1)) m = max (mxL (l.take k) m) (l.getD k 0) := by
  have e : l.getD k 0 = l[k] := by simp [hk]
  rw [e, List.take_succ_eq_append_getElem hk, mxL, List.foldl_append]
  rfl
theorem mx_out (l : List Int) (a b : Int) : mxL l (max a b) = max a (mxL l b) := by
  induction l generalizing b with
  | nil => rfl
  | cons x t ih =>
    show mxL t (max (max a b) x) = max a (mxL t (max b x))
    rw [show max (max a b) x = max a (max b x) from by omega, ih]
theorem mx_head {l : List Int} (m : Int) (h : 1 ≤ l.length) : max m (mxL l (l.getD 0 0)) = mxL l m := by
  cases l with
  | nil => simp at h
  | cons x t =>
    show max m (mxL t (max x x)) = mxL t (max m x)
    rw [show max x x = x from by omega, mx_out]
/-- the greatest distance from the first k states -/
def diaK (h p k : Nat) : Int := (List.range k).foldl (fun m a => mxL (distA h p a) m) 0
theorem diaK_step (h p k : Nat) : diaK h p (k + 1) = mxL (distA h p k) (diaK h p k) := by
  rw [diaK, List.range_succ, List.foldl_append]; rfl
/-- what Diameter answers -/
def diaA (n h : Int) : Int := if gndOk n h then diaK h.toNat n.toNat (cntG h.toNat n.toNat) else 0

theorem slicesMax_far (g cap n : Nat) (f : Nat → Int) (s : Nat → Int) (w : World) (hn1 : 1 ≤ n) (hn2 : n ≤ 1024) (hs0 : s 1 = f 0) (hs1 : ∀ i, i < n → s (i + 1) = max (s i) (f i))
    (hc : ∀ i, i < n → w.cell? ⟨g, i, none⟩ = some (.int .i64 (f i))) :
    Calls Tryd.prog 86 #[.slice (some ⟨g, 0, none⟩) n cap] w fun e w' => e = .returned (.int .i64 (s n)) ∧ w = w' := by
  have HS0 := Lib.hid hs0
  have HS1 := Lib.hid hs1
  clear hs0 hs1
  have c0 := hc 0 (by omega)
  go_enter Tryd.func86, Tryd.ntmps86
  go_wp2
  go_loop [3, 4] (fun t i => ∃ k : Nat, 1 ≤ k ∧ k ≤ n ∧ i = .int .i64 k ∧ t = .int .i64 (s k)) (fun _ i => n - (intOf i).toNat)
  case atStart => exact ⟨1, by omega, by omega, rfl, by rw [HS0.out]⟩
  case round =>
    obtain ⟨k, hk1, hk, rfl, rfl⟩ := hrel
    by_cases hlt : k < n
    · have c1 := hc k hlt
      have HH := Lib.hid (HS1.out k hlt)
      clear hc
      go_wp2
      go_round
      case rel => exact ⟨k + 1, by omega, by omega, by go_num, by rw [HH.out, show (if s k < f k then f k else s k) = max (s k) (f k) from by split <;> omega]⟩
      case measure => simp [intOf]; omega
    · obtain rfl : k = n := by omega
      clear hc
      go_wp2
      go_ret
      exact ⟨rfl, rfl⟩

theorem slicesMax_any (v : Value) (B : Nat) (l : List Int) (w : World) (hI : Ints w B v l) (h1 : 1 ≤ l.length) (h2 : l.length ≤ 1024) :
    Calls Tryd.prog 86 #[v] w fun e w' => e = .returned (.int .i64 (mxL l (l.getD 0 0))) ∧ w = w' := by
  obtain ⟨g, cap, rfl, _, _, _⟩ := Ints.shape2 hI h1
  have := slicesMax_far g cap l.length (fun i => l.getD i 0) (fun k => mxL (l.take k) (l.getD 0 0)) w h1 h2 (by rw [show (1 : Nat) = 0 + 1 from rfl, mx_step _ (by omega)]; simp [mxL]) (fun i hi => mx_step _ hi) (fun i hi => hI.cell i hi)
  simpa only [List.take_length] using this

set_option maxRecDepth 10000 in
set_option maxHeartbeats 2000000 in
theorem diameter_any (v : Value) (B p h : Nat) (w : World) (hG : GraphIs w B v (gphG h p)) (h1 : 1 ≤ h) (hh : h ≤ 10) :
    Calls Tryd.prog 54 #[v] w fun e w' => e = .returned (.int .i64 (diaK h p (cntG h p))) ∧ Below w.heap.size w w' := by
  have hn10 := cntG_le h p hh
  have HD := Lib.hid (fun k (hk : k < cntG h p) W (hW : Below w.heap.size w W) => (distFrom_any v B p h k W (GraphIs.below hG hW) h1 hh hk).mono (R' := fun e w' => ∃ u, e = .returned u ∧ Ints w' w.heap.size u (distA h p k) ∧ Below w.heap.size w w') fun e w' ⟨u, q1, q2, q3⟩ => ⟨u, q1, q2.mono hW.size, hW.trans (q3.mono hW.size)⟩)
  have HL := Lib.hid (fun k (hk : k < cntG h p) => distA_len h1 hh hk)
  have HST := Lib.hid (fun k => diaK_step h p k)
  have H0 : Hid (diaK h p 0 = 0) := Lib.hid rfl
  have HMX := Lib.hid (fun k u B W (hk : k < cntG h p) (hI : Ints W B u (distA h p k)) => show Calls Tryd.prog 86 #[u] W fun e w' => e = .returned (.int .i64 (mxL (distA h p k) ((distA h p k).getD 0 0))) ∧ W = w' from
    slicesMax_any u B _ W hI (by rw [distA_len h1 hh hk]; omega) (by rw [distA_len h1 hh hk]; omega))
  have HK1 := Lib.hid (fun k (hk : k < cntG h p) => show diaK h p (k + 1) = max (diaK h p k) (mxL (distA h p k) ((distA h p k).getD 0 0)) from by
    rw [diaK_step, mx_head _ (by rw [distA_len h1 hh hk]; omega)])
  obtain ⟨gb, hs, rfl, hsl, hH, hR⟩ := hG
  rw [gphG_len] at hH hsl hR ⊢
  rw [gphG_len] at HD
  clear hH hR hsl HL HST
  generalize diaK h p = K at *
  generalize distA h p = D at *
  generalize cntG h p = n at *
  have B0 := Below.refl w.heap.size w
  go_enter Tryd.func54, Tryd.ntmps54
  go_wp2
  go_loopw [3, 7] (fun d i wr => ∃ k : Nat, k ≤ n ∧ i = .int .i64 k ∧ d = .int .i64 (K k) ∧ Below w.heap.size w wr) (fun _ i _ => n - (intOf i).toNat)
  case atStart => exact ⟨0, Nat.zero_le _, rfl, by rw [H0.out], B0⟩
  case round =>
    clear B0
    obtain ⟨k, hk, rfl, rfl, hb⟩ := hrel
    by_cases hlt : k < n
    · have hlt' : decide (k < n) = true := decide_eq_true hlt
      have hk1 := HK1.out k hlt
      go_wp2_with fail
      refine (HD.out k hlt _ hb).mono ?_
      rintro e w1 ⟨u, rfl, iD, b1⟩
      have HX := HMX.out k u _ _ hlt iD
      generalize mxL (D k) ((D k).getD 0 0) = mk at *
      have HH := Lib.hid hk1
      clear hk1 HMX HD HK1
      go_wp2_with fail
      refine HX.mono ?_
      rintro e w2 ⟨rfl, rfl⟩
      clear HX iD
      go_wp2
      go_roundw
      case rel => exact ⟨k + 1, by omega, by go_num, by first | (rw [HH.out]; done) | (rw [HH.out, show (if K k < mk then mk else K k) = max (K k) mk from by split <;> omega]; done) | (rw [HH.out]; congr 1; (try split) <;> omega) | (rw [HH.out]; simp; omega), b1⟩
      case measure => simp [intOf]; omega
    · obtain rfl : k = n := by omega
      go_wp2
      go_ret
      exact ⟨rfl, hb⟩

set_option maxRecDepth 10000 in
set_option maxHeartbeats 2000000 in
theorem diameter_spec (n h : Int) (w : World) :
    Calls Tryd.prog 35 #[.int .i64 n, .int .i64 h] w fun e w' => e = .returned (.tuple #[.int .i64 (diaA n h), .int .i64 (gndC n h)]) ∧ Below w.heap.size w w' := by
  have HC := fun W => l09Code_any n h W
  unfold diaA
  cases hk : gndOk n h with
  | false =>
    rw [if_neg (by simp), show gndC n h = 2 from by rw [gndC, hk]; rfl] at *
    go_enter Tryd.func35, Tryd.ntmps35
    go_wp2_with fail
    refine (HC _).mono ?_
    rintro e w1 ⟨rfl, rfl⟩
    go_wp2
    go_ret2
    exact ⟨rfl, Below.refl _ _⟩
  | true =>
    rw [if_pos rfl, show gndC n h = 0 from by rw [gndC, hk]; rfl] at *
    obtain ⟨p, a, rfl, rfl, h1, h2, h3⟩ := gndOk_nat hk
    rw [Int.toNat_natCast, Int.toNat_natCast]
    have HM := fun W => l09Masks_any p a W (by omega) h2
    have HA := fun v B W hI => l09Arcs_any v B p a W hI h1 h2
    have hn10 := cntG_le a p h2
    have hml : (mskI p (2 ^ a)).length = cntG a p := by rw [mskI_len]; rfl
    have HL := Lib.hid (fun k (hk : k < cntG a p) => distA_len h1 h2 hk)
    have HST := Lib.hid (fun k => diaK_step a p k)
    have HMX := Lib.hid (fun j (hj : j < cntG a p) m k (hk : k < cntG a p) => show mxL ((distA a p j).take (k + 1)) m = max (mxL ((distA a p j).take k) m) ((distA a p j).getD k 0) from mx_step m (by rw [distA_len h1 h2 hj]; exact hk))
    have HME := Lib.hid (fun j (hj : j < cntG a p) m => show mxL ((distA a p j).take (cntG a p)) m = mxL (distA a p j) m from by rw [← distA_len h1 h2 hj, List.take_length])
    have HM0 := Lib.hid (fun j m => show mxL ((distA a p j).take 0) m = m from rfl)
    have H0 : Hid (diaK a p 0 = 0) := Lib.hid rfl
    obtain ⟨R, hR⟩ : ∃ R, diaK a p (cntG a p) = R := ⟨_, rfl⟩
    rw [hR]
    have HR := Lib.hid hR
    clear hR
    go_enter Tryd.func35, Tryd.ntmps35
    go_wp2_with fail
    refine (HC _).mono ?_
    rintro e w1 ⟨rfl, rfl⟩
    go_wp2_with fail
    refine (HM _).mono ?_
    rintro e w2 ⟨u, rfl, i2, b2⟩
    go_wp2_with fail
    refine (HA _ _ _ i2).mono ?_
    rintro e w3 ⟨v, rfl, i3, b3⟩
    have HD := Lib.hid (fun k (hk : k < cntG a p) W (hW : Below w3.heap.size w3 W) => (l09Far_any u v _ _ p a k W (((i2.block fun g hg hlt => b3.block g hlt)).below hW) (OwnK.below i3 hW) h1 h2 h3 hk).mono (R' := fun e w' => ∃ u, e = .returned u ∧ Ints w' w3.heap.size u (distA a p k) ∧ Below w3.heap.size w3 w') fun e w' ⟨u, q1, q2, q3⟩ => ⟨u, q1, q2.mono hW.size, hW.trans (q3.mono hW.size)⟩)
    have bb := b2.trans (b3.mono b2.size)
    obtain ⟨va, vc, rfl⟩ := ints_slO i2
    rw [hml] at *
    have B0 := Below.refl w3.heap.size w3
    clear HC HM HA i2 i3 b2 b3 hk
    generalize diaK a p = K at *
    generalize distA a p = D at *
    generalize cntG a p = n at *
    go_wp2
    go_loopw [9, 10] (fun d i wr => ∃ k : Nat, k ≤ n ∧ i = .int .i64 k ∧ d = .int .i64 (K k) ∧ Below w3.heap.size w3 wr) (fun _ i _ => n - (intOf i).toNat)
    case atStart => exact ⟨0, Nat.zero_le _, rfl, by rw [H0.out], B0⟩
    case round =>
      clear B0
      obtain ⟨k, hk, rfl, rfl, hb⟩ := hrel
      by_cases hlt : k < n
      · have hlt' : decide (k < n) = true := decide_eq_true hlt
        have hst := HST.out k
        have hl := HL.out k hlt
        have H1 := Lib.hid (fun m j (hj : j < n) => HMX.out k hlt m j hj)
        have H2 := Lib.hid (HME.out k hlt (K k))
        have H3 := Lib.hid (HM0.out k (K k))
        go_wp2_with fail
        refine (HD.out k hlt _ hb).mono ?_
        rintro e w5 ⟨u, rfl, iD, b1⟩
        obtain ⟨g, cap, rfl, _, hg, _⟩ := Ints.shape2 iD (by omega)
        have HCL := Lib.hid (fun j (hj : j < n) => iD.cell j (by omega))
        rw [hl]
        generalize D k = X at *
        have HH := Lib.hid hst
        obtain ⟨m0, hm0⟩ : ∃ m0, K k = m0 := ⟨_, rfl⟩
        rw [hm0] at H2 H3 HH ⊢
        clear hst HMX HD HME HM0 iD
        go_wp2
        go_loop [9, 12] (fun d i => ∃ j : Nat, j ≤ n ∧ i = .int .i64 j ∧ d = .int .i64 (mxL (X.take j) m0)) (fun _ i => n - (intOf i).toNat)
        case atStart => exact ⟨0, Nat.zero_le _, rfl, by rw [H3.out]⟩
        case round =>
          obtain ⟨j, hj, rfl, rfl⟩ := hrel
          by_cases hjn : j < n
          · have hjn' : decide (j < n) = true := decide_eq_true hjn
            have cj := HCL.out j hjn
            have HE := Lib.hid (H1.out m0 j hjn)
            generalize X.getD j 0 = xj at *
            generalize mxL (X.take j) m0 = mj at *
            clear HCL H1 H2 H3
            go_wp2_with fail
            refine (l00Max_any _ _ _).mono ?_
            rintro e w6 ⟨rfl, rfl⟩
            go_wp2
            go_round
            case rel => exact ⟨j + 1, by omega, by go_num, by rw [HE.out]⟩
            case measure => simp [intOf]; omega
          · obtain rfl : j = n := by omega
            clear HCL H1 H3
            rw [H2.out]
            go_wp2
            go_roundw
            case rel => exact ⟨k + 1, by omega, by go_num, by rw [HH.out], b1⟩
            case measure => simp [intOf]; omega
      · obtain rfl : k = n := by omega
        go_wp2
        go_ret2
        exact ⟨by rw [HR.out]; try rfl, bb.trans (hb.mono bb.size)⟩

set_option maxRecDepth 10000 in
theorem diameter_impl (n h : Int) (w : World) (hT : CtzTab w) :
    Calls Tryd.prog 17 #[.int .i64 n, .int .i64 h] w fun e w' => e = .returned (.tuple #[.int .i64 (diaA n h), .int .i64 (gndC n h)]) ∧ Below w.heap.size w w' := by
  have HK := fun W => kindOf_any n h W
  unfold diaA
  cases hk : gndOk n h with
  | false =>
    rw [hk] at HK
    simp only [Bool.false_eq_true, if_false] at HK ⊢
    rw [show gndC n h = 2 from by rw [gndC, hk]; rfl] at *
    go_enter Tryd.func17, Tryd.ntmps17
    go_wp2_with fail
    refine (HK _).mono ?_
    rintro e w1 ⟨rfl, b1⟩
    have bb := bel_alGp b1 (.cells #[.int .i64 0, .int .i64 0] 70)
    go_wp2
    go_ret2
    exact ⟨rfl, bb⟩
  | true =>
    rw [hk] at HK
    simp only [if_true] at HK ⊢
    rw [show gndC n h = 0 from by rw [gndC, hk]; rfl] at *
    obtain ⟨p, a, rfl, rfl, h1, h2, h3⟩ := gndOk_nat hk
    rw [Int.toNat_natCast, Int.toNat_natCast]
    have HGp := fun W (hW : CtzTab W) => graph_any p a W h3 h1 h2 hW
    have HDi := fun v B W hG => diameter_any v B p a W hG h1 h2
    obtain ⟨R, hR⟩ : ∃ R, diaK a p (cntG a p) = R := ⟨_, rfl⟩
    rw [hR]
    rw [hR] at HDi
    generalize gphG a p = M at *
    clear hk hR
    go_enter Tryd.func17, Tryd.ntmps17
    go_wp2_with fail
    refine (HK _).mono ?_
    rintro e w1 ⟨rfl, b1⟩
    have bb := bel_alGp b1 (.cells #[.int .i64 p, .int .i64 a] 70)
    go_wp2_with fail
    refine (HGp _ (hT.below bb)).mono ?_
    rintro e w2 ⟨u, rfl, i2, b2⟩
    go_wp2_with fail
    refine (HDi _ _ _ i2).mono ?_
    rintro e w3 ⟨rfl, b3⟩
    have hz := bb.size
    have b23 := b2.trans (b3.mono b2.size)
    have b4 := bb.trans (b23.mono hz)
    clear b3 b2 i2 HGp HDi HK b1 bb b23 hz
    go_wp2
    go_ret2
    exact ⟨rfl, b4⟩
end Go.Proofs.YtblllikenjofoaaDoor

/- The walk of the law FnExactDiameter: it returns true. No conditions. -/
namespace Go.Proofs.YtblllikenjofoaaDoor
open Go.RowKit
set_option linter.unusedSimpArgs false
set_option linter.unusedVariables false

set_option maxRecDepth 10000 in
set_option maxHeartbeats 400000 in
theorem walk_Diameter (n0 : Int) (n1 : Int) (w : World) (n0a : -9223372036854775808 ≤ n0) (n0b : n0 ≤ 9223372036854775807) (n1a : -9223372036854775808 ≤ n1) (n1b : n1 ≤ 9223372036854775807) (hT : CtzTab w) :
    Calls Tryd.prog 9 #[.int .i64 n0, .int .i64 n1] w fun e w' => e = .returned (.bool true) ∧ Below w.heap.size w w' := by
  have BB := Below.refl w.heap.size w
  have HS := fun W => diameter_spec n0 n1 W
  have HI := fun W (hb : Below w.heap.size w W) => diameter_impl n0 n1 W (hT.below hb)
  generalize diaA n0 n1 = ra at *
  generalize gndC n0 n1 = rc at *
  go_enter Tryd.func9, Tryd.ntmps9
  go_wp2_with fail
  refine (HS _).mono ?_
  rintro e wd1 ⟨rfl, bb⟩
  replace BB := BB.trans (bb.mono BB.size)
  clear bb
  go_wp2_with fail
  refine (HI _ BB).mono ?_
  rintro e wd2 ⟨rfl, bb⟩
  replace BB := BB.trans (bb.mono BB.size)
  clear bb
  go_wp2
  go_ret
  exact ⟨rfl, BB⟩
end Go.Proofs.YtblllikenjofoaaDoor

namespace Go.Proofs.YtblllikenjofoaaDoor.fnExactDiameter
open Go.ChangeShapes Go.WideShapes Go.ChangeAt Go.RowKit
open Go.ChangeMaps (open_string shut_string)
set_option linter.unusedVariables false

theorem own : ownKnob Tryd.prog.godebug = none := by kernel_rfl
theorem laidOut : laidOutB Tryd.prog = true := by kernel_rfl
theorem gTab : Tryd.prog.globalNamed "math/bits.deBruijn64tab" = some 0 := by kernel_rfl
theorem tTab : (Tryd.prog.globals[0]?).map (·.type) = some 133 := by kernel_rfl
theorem cellsE : Tryd.prog.cellsOf 5 = 1 := by kernel_rfl
theorem cellsT : Tryd.prog.cellsOf 133 = 64 := by kernel_rfl

theorem door_met (os : Os) (args : Array Value) : laidMetH Tryd.prog Rows.fnExactDiameterRow.laid ((World.doorLaid Tryd.prog 400 os).forCall (fun _ _ => 0) ⟨#[], args, []⟩).memory :=
  laidMetH_of_parts3 (fuel := 8) (laidMet_of_run' 8 (by kernel_rfl) (by kernel_rfl)) (by kernel_rfl) (by kernel_rfl)

theorem map_at (l : List Nat) (j : Nat) : (l.map Int.ofNat).getD j 0 = ((l.getD j 0 : Nat) : Int) := by
  simp only [List.getD, List.getElem?_map]
  cases l[j]? <;> rfl

theorem of_laid {W : World} (h : laidMetH Tryd.prog Rows.fnExactDiameterRow.laid W) : CtzTab W := by
  rw [MakeChecks.laidMetH_plain _ _ _ (by kernel_rfl)] at h
  obtain ⟨ps, ⟨g0, t0, cs0, f0, p0, q0, hg0, ht0, hv0, hd0, _, _⟩, _, _⟩ := h
  obtain rfl := Option.some.inj (gTab.symm.trans hg0)
  obtain rfl := Option.some.inj (tTab.symm.trans ht0)
  have e : (Rows.laid_math_bits_deBruijn64tab : DataW Unit) = Lib.tabData .u8 (Lib.deBruijn64tab.map Int.ofNat) := rfl
  rw [e] at hd0
  have ht : Lib.TabIs Tryd.prog W "math/bits.deBruijn64tab" .u8 (Lib.deBruijn64tab.map Int.ofNat) := by
    unfold Lib.TabIs
    rw [hv0, ← Lib.cells_of_tab Tryd.underlying133 Tryd.underlying5 cellsE cellsT hd0]
  intro j hj
  have := ht.cell gTab j (by simpa [Lib.deBruijn64tab] using hj)
  rw [this, map_at]

theorem walk (n0 : Int) (n1 : Int) (w : World) (b0 : -9223372036854775808 ≤ n0) (c0 : n0 ≤ 9223372036854775807) (b1 : -9223372036854775808 ≤ n1) (c1 : n1 ≤ 9223372036854775807) (hT : CtzTab w) :
    Calls Tryd.prog 9 #[.int .i64 n0, .int .i64 n1] w fun e w' => e = .returned (.bool true) ∧ Below w.heap.size w w' :=
  walk_Diameter n0 n1 w b0 c0 b1 c1 hT

set_option maxRecDepth 100000 in
theorem lifted (os : Os) (started : os.Started) (H : Type) (enc : TypeId × Value → H) :
    ReturnsInHanded {} Tryd.checked os 9 .any (fun w args => (Rows.fnExactDiameterSpec.pre enc Tryd.prog Tryd.f9 [] false w args ∧ laidMetH Tryd.prog Rows.fnExactDiameterRow.laid w) ∧ sizedMet enc Tryd.prog Tryd.f9 (OpenSpec.ofChange Rows.fnExactDiameterSpec) false w args)
      (Rows.fnExactDiameterSpec.post enc Tryd.prog Tryd.f9 false true false false) := by
  refine returnsInHanded_of_change_and (C := Tryd.checked) (X := fun w _ => laidMetH Tryd.prog Rows.fnExactDiameterRow.laid w) (fun _ _ _ hh h => h.of_heap hh) own started (by kernel_rfl) Tryd.func9
    (ChangeSpec.witness_shaped (enc := enc) (C := Tryd.checked) (os := os) (X := fun w _ => laidMetH Tryd.prog Rows.fnExactDiameterRow.laid w) false (World.doorLaid Tryd.prog 400 os) #[.int .i64 0, .int .i64 0] 8 rfl (World.shaped_of_RefB (by kernel_rfl) (by kernel_rfl)) (by kernel_rfl) (by kernel_rfl) (by kernel_rfl) (door_met os _)) ?_
  intro W base args ds gs before hval0 hW _ _ hL _
  have hval : ∀ (j : Nat) t v, Tryd.f9.params[j]? = some t → args[j]? = some v → Value.okWide Tryd.prog W .any base t v := hval0
  have hW' := hW
  obtain ⟨p, q, hA0, hV, rfl, hfz, hnd⟩ := hW
  have hA : DataW.TrodAll enc Tryd.prog W 0 (fun _ => true) true Tryd.f9.params.toList args.toList ds p := hA0
  rw [Tryd.params9] at hA hval
  obtain ⟨v0, vs0, d0, ds0, p0, q0, hargs, rfl, rfl, h0, r0⟩ := trodAll_cons hA
  obtain ⟨v1, vs1, d1, ds1, p1, q1, rfl, rfl, rfl, h1, r1⟩ := trodAll_cons r0
  obtain ⟨rfl, rfl, rfl⟩ := trodAll_nil r1
  obtain rfl : args = #[v0, v1] := by cases args; simp_all
  obtain ⟨rfl, rfl⟩ := trodVars_none hV
  have k0 := h0
  have lt0 : ∀ x ∈ p0, x.block < W.heap.size := by obtain ⟨m, hm⟩ := k0; exact DataW.trod_lt m _ _ _ hm
  have k1 := h1
  have lt1 : ∀ x ∈ p1, x.block < W.heap.size := by obtain ⟨m, hm⟩ := k1; exact DataW.trod_lt m _ _ _ hm
  obtain ⟨n0, rfl, rfl, rfl, w0⟩ := open_int Tryd.underlying2 (hval 0 2 v0 rfl rfl) h0
  have hb0 := bounds_i64 w0
  obtain ⟨n1, rfl, rfl, rfl, w1⟩ := open_int Tryd.underlying2 (hval 1 2 v1 rfl rfl) h1
  have hb1 := bounds_i64 w1
  clear hA0 hval0
  refine (walk n0 n1 W hb0.1 hb0.2 hb1.1 hb1.2 (of_laid hL)).mono fun e W' ⟨he, bel⟩ => ?_
  subst he
  exact ⟨_, rfl, _, _, _, [], _, [], hW', trodAll_mk1 (shut_bool Tryd.underlying4 _), (trodAll_cons_mk (Below.trod laidOut (by kernel_rfl) (of_decide_eq_true (by kernel_rfl)) k0 bel lt0) (trodAll_cons_mk (Below.trod laidOut (by kernel_rfl) (of_decide_eq_true (by kernel_rfl)) k1 bel lt1) trodAll_mk0)), rfl, bel.frame _, fun h => by cases h⟩

theorem row_holds : Rows.FnExactDiameterSaid :=
  OpenClaim.holds_of_wide 9 Tryd.f9 rfl rfl rfl rfl rfl rfl rfl ⟨rfl, rfl, rfl, rfl, rfl⟩ rfl rfl rfl rfl rfl (by kernel_rfl) Tryd.func9 (by kernel_rfl)
    (of_decide_eq_true (by kernel_rfl)) (by unfold Func.isWrapper; first | (rw [if_pos (by decide +kernel)]; kernel_rfl) | (rw [if_neg (by decide +kernel)]; exact ⟨rfl, rfl⟩))
    (fun os started H enc _ => lifted os started H enc)

theorem proved : Rows.FnExactDiameterCardSaid :=
  Claim7.holds_tied_plain_at .later [] [.data] true Rows.fnExactDiameterCard.stood.harness Rows.fnExactDiameterCard.stood.looks
    row_holds (fun _ h => by cases h) (by kernel_rfl) (fun _ h => by cases h) fnExactDiameter_row_tie rfl ⟨rfl, rfl⟩ (by kernel_rfl) rfl
    (fun f fn hf hfn => by
      obtain rfl : f = 9 := Option.some.inj ((show Tryd.prog.funcNamed "loop.example/g00927/laws.FnExactDiameter" = some 9 by kernel_rfl).symm.trans hf) |>.symm
      obtain rfl : fn = Tryd.f9 := (Option.some.inj (Tryd.func9.symm.trans hfn)).symm
      exact ⟨by kernel_rfl, fun j t ht => by
        rw [Tryd.params9] at ht
        have hm : t ∈ [2, 2] := by simpa using Array.mem_of_getElem? ht
        have hall : ([2, 2].all fun u => !Tryd.prog.wantsStandIn u) = true := by kernel_rfl
        exact (show Tryd.prog.wantsStandIn t = false by simpa using List.all_eq_true.1 hall t hm)⟩)
    (by kernel_rfl)
#print axioms proved
end Go.Proofs.YtblllikenjofoaaDoor.fnExactDiameter
