/- The law FnExactDistancesFrom returns true at every input, and leaves its arguments as they were. Conditions: none beyond the card's own tie of the library's table to its text. -/
import Derived.Test.YtblllikenjofoaaDoorGpI
import Derived.Test.YtblllikenjofoaaDoorArK
import Derived.Deep.RegionHeld3
import Derived.Test.YtblllikenjofoaaDoorArE
import Derived.Test.YtblllikenjofoaaDoorStV
import Derived.Test.YtblllikenjofoaaDoorGrid
import Derived.Test.YtblllikenjofoaaDoorStO
import Derived.Test.YtblllikenjofoaaDoorInts
import Derived.Test.YtblllikenjofoaaDoorCards
import Derived.Test.YtblllikenjofoaaDoorTie
import Derived.Lib.LaidTab
import Derived.LaidMore
import Derived.LaidLaws
import Derived.Stop.Joined
import Derived.SevenTiedAt
import Derived.ChangeArms
import Derived.ChangeVars

/- The states of one kind, the program's: index, StateIndex, StateAt. No conditions. -/
namespace Go.Proofs.YtblllikenjofoaaDoor
open Go.RowKit
set_option linter.unusedSimpArgs false
set_option linter.unusedVariables false

set_option maxRecDepth 10000 in
set_option maxHeartbeats 2000000 in
theorem sliceIndex_any (v : Value) (B h m K : Nat) (w : World) (hI : Sts w B v (mskS h (popN m) K)) (hm : m < K) (hK : K ≤ 1024) :
    Calls Tryd.prog 82 #[v, .agg #[.int .i64 h, .int .i64 m]] w fun e w' => e = .returned (.int .i64 (idxN m)) ∧ Below w.heap.size w w' := by
  obtain ⟨e1, e2⟩ := mskN_idx hm
  have hln := mskN_len (popN m) K
  have hsl := mskS_len h (popN m) K
  obtain ⟨g, cap, rfl, q1, q2, q3, q4⟩ := OwnK.shape2 hI (by omega)
  rw [hsl]
  have HC := Lib.hid (fun i (hi : i < (mskN (popN m) K).length) => show w.cell? ⟨g, i * 2, none⟩ = some (.int .i64 h) ∧ w.cell? ⟨g, i * 2 + 1, none⟩ = some (.int .i64 ((mskN (popN m) K).getD i 0 : Nat)) from by
    have := hI.twoS i (by omega)
    rw [show (mskS h (popN m) K).getD i s0 = ((h : Int), (((mskN (popN m) K).getD i 0 : Nat) : Int)) from mskS_at hi] at this
    exact this)
  have HN := Lib.hid (fun i (hi : i < idxN m) => mskN_idx_ne hm hi)
  have HE := Lib.hid e2
  clear e2 hI hsl q1 q3 q4
  generalize hn : (mskN (popN m) K).length = n at *
  clear hn
  generalize idxN m = x at *
  have X0 : Blk (w.alloc (.cells #[.int .i64 h, .int .i64 m] 25)) w.heap.size [.int .i64 h, .int .i64 m] 25 := Blk.made w #[.int .i64 h, .int .i64 m] _
  have B0 : Below w.heap.size w (w.alloc (.cells #[.int .i64 h, .int .i64 m] 25)) := (Below.refl _ w).alloc (Nat.le_refl _) _
  go_enter Tryd.func82, Tryd.ntmps82
  go_wp2
  go_loopw [8] (fun i wr => ∃ k : Nat, k ≤ x ∧ i = .int .i64 k ∧ Blk wr w.heap.size [.int .i64 h, .int .i64 m] 25 ∧ Below w.heap.size w wr) (fun i _ => x - (intOf i).toNat)
  case atStart => exact ⟨0, Nat.zero_le _, rfl, X0, B0⟩
  case round =>
    clear X0 B0
    obtain ⟨k, hk, rfl, X, hb⟩ := hrel
    have c0 := X.cell 0
    have c1 := X.cell 1
    simp only [List.getElem?_cons_zero, List.getElem?_cons_succ] at c0 c1
    obtain ⟨a0, a1⟩ := HC.out k (by omega)
    have d0 := (hb.cell (p := ⟨g, k * 2, none⟩) q2).trans a0
    have d1 := (hb.cell (p := ⟨g, k * 2 + 1, none⟩) q2).trans a1
    have hkn : k < n := by omega
    clear a0 a1
    by_cases hlt : k < x
    · have hne := HN.out k hlt
      generalize (mskN (popN m) K).getD k 0 = y at *
      have hq1 : ¬ ((m : Int) = (y : Int)) := by omega
      have hq2 : ¬ (m = y) := by omega
      have hq3 : ((m : Int) == (y : Int)) = false := beq_eq_false_iff_ne.2 hq1
      have HX := Lib.hid X
      clear HC HN HE X hne
      go_wp2
      go_region_held3 (fun W => W.cell? ⟨w.heap.size, 0, none⟩ = some (.int .i64 h) ∧ W.cell? ⟨w.heap.size, 1, none⟩ = some (.int .i64 m) ∧ W.cell? ⟨g, k * 2, none⟩ = some (.int .i64 h) ∧ W.cell? ⟨g, k * 2 + 1, none⟩ = some (.int .i64 y)) (exact ⟨c0, c1, d0, d1⟩) (fail)
      go_wp2
      go_roundw
      case rel => exact ⟨k + 1, by omega, by go_num, HX.out.below (Below.drew (Below.refl _ _)) HX.out.lt, Below.drew hb⟩
      case measure => simp [intOf]; omega
    · obtain rfl : k = x := by omega
      rw [HE.out] at d1
      clear HC HN HE X
      go_wp2
      go_region_held3 (fun W => W.cell? ⟨w.heap.size, 0, none⟩ = some (.int .i64 h) ∧ W.cell? ⟨w.heap.size, 1, none⟩ = some (.int .i64 m) ∧ W.cell? ⟨g, k * 2, none⟩ = some (.int .i64 h) ∧ W.cell? ⟨g, k * 2 + 1, none⟩ = some (.int .i64 m)) (exact ⟨c0, c1, d0, d1⟩) (fail)
      go_wp2
      go_ret
      exact ⟨rfl, Below.drew hb⟩

set_option maxRecDepth 10000 in
set_option maxHeartbeats 1000000 in
theorem index_any (h m : Nat) (w : World) (h1 : 1 ≤ h) (hh : h ≤ 10) (hm : m < 2 ^ h) :
    Calls Tryd.prog 50 #[.agg #[.int .i64 h, .int .i64 m]] w fun e w' => e = .returned (.int .i64 (idxN m)) ∧ Below w.heap.size w w' := by
  have hp10 := pow_lt_1024 hh
  obtain ⟨W0, hW0⟩ : ∃ W0, (w.alloc (.cells #[.int .i64 h, .int .i64 m] 25)) = W0 := ⟨_, rfl⟩
  have B0 : Below w.heap.size w W0 := by rw [← hW0]; exact (Below.refl _ w).alloc (Nat.le_refl _) _
  have P0 : Blk W0 w.heap.size [.int .i64 h, .int .i64 m] 25 := by rw [← hW0]; exact Blk.made w #[.int .i64 h, .int .i64 m] _
  have HCE := Lib.hid (fun W (hW : Below W0.heap.size W0 W) => show W.cell? ⟨w.heap.size, 0, none⟩ = some (.int .i64 h) ∧ W.cell? ⟨w.heap.size, 1, none⟩ = some (.int .i64 m) from
    ⟨(P0.below hW P0.lt).cell 0, (P0.below hW P0.lt).cell 1⟩)
  have HK := Lib.hid (fun W (hW : Below W0.heap.size W0 W) => (kind_any (h : Int) m W (by omega)).mono (R' := fun e w' => e = .returned (.agg #[.int .i64 (popN m), .int .i64 h]) ∧ Below W0.heap.size W0 w') fun e w' q => ⟨q.1, hW.trans (q.2.mono hW.size)⟩)
  have HS := Lib.hid (fun W (hW : Below W0.heap.size W0 W) => (states_any (popN m) h W (popN_le m) h1 hh).mono (R' := fun e w' => ∃ u, e = .returned u ∧ Sts w' W0.heap.size u (mskS h (popN m) (2 ^ h)) ∧ Below W0.heap.size W0 w') fun e w' ⟨u, q1, q2, q3⟩ => ⟨u, q1, q2.mono hW.size, hW.trans (q3.mono hW.size)⟩)
  have HX := Lib.hid (fun v B W hI (hW : Below W0.heap.size W0 W) => (sliceIndex_any v B h m (2 ^ h) W hI hm hp10).mono (R' := fun e w' => e = .returned (.int .i64 (idxN m)) ∧ Below W0.heap.size W0 w') fun e w' q => ⟨q.1, hW.trans (q.2.mono hW.size)⟩)
  clear P0 hp10 hm
  generalize mskS h (popN m) (2 ^ h) = L at *
  generalize popN m = p at *
  generalize idxN m = x at *
  have BW := Below.refl W0.heap.size W0
  go_enter Tryd.func50, Tryd.ntmps50
  go_wp2
  try rw [hW0]
  clear hW0
  go_region_held3 (fun W => Below W0.heap.size W0 W ∧ W.cell? ⟨w.heap.size, 0, none⟩ = some (.int .i64 h) ∧ W.cell? ⟨w.heap.size, 1, none⟩ = some (.int .i64 m)) (refine ⟨?_, HCE.out _ ?_⟩ <;> (repeat (first | assumption | exact Below.refl _ _ | refine Below.drew ?_ | refine below_drewN ?_ _))) (first | (go_at_call 47; (with_reducible refine (HK.out _ ?_).mono ?_); (repeat (first | assumption | exact Below.refl _ _ | refine Below.drew ?_)); rintro e w2 ⟨rfl, b4⟩) | (go_at_call 70; (with_reducible refine (HS.out _ ?_).mono ?_); (repeat (first | assumption | exact Below.refl _ _ | refine Below.drew ?_)); rintro e w3 ⟨u, rfl, i2, b6⟩) | (go_at_call 82; (have hE := HX.out _ _ _ i2 b6); (with_reducible refine hE.mono ?_); rintro e w4 ⟨rfl, b8⟩))
  all_goals go_wp2
  all_goals go_ret
  all_goals exact ⟨rfl, B0.trans (b8.mono B0.size)⟩

end Go.Proofs.YtblllikenjofoaaDoor

/- ArcsInto, the model's and the program's. Conditions: the library's table as its text lays it. -/
namespace Go.Proofs.YtblllikenjofoaaDoor
open Go.RowKit
set_option linter.unusedSimpArgs false
set_option linter.unusedVariables false

/-- the arcs into a state -/
def filtA (xs : List ArcT) (t : Int) : List ArcT := xs.filter (fun x => decide (x.2.2 = t))
theorem filtA_hit {xs : List ArcT} {t : Int} {k : Nat} (hk : k < xs.length) (h : (xs.getD k a0).2.2 = t) : filtA (xs.take (k + 1)) t = filtA (xs.take k) t ++ [xs.getD k a0] := by
  have e : xs.getD k a0 = xs[k] := by simp [hk]
  rw [e] at h ⊢
  rw [List.take_succ_eq_append_getElem hk, filtA, List.filter_append, filtA]
  simp [h]
theorem filtA_miss {xs : List ArcT} {t : Int} {k : Nat} (hk : k < xs.length) (h : (xs.getD k a0).2.2 ≠ t) : filtA (xs.take (k + 1)) t = filtA (xs.take k) t := by
  have e : xs.getD k a0 = xs[k] := by simp [hk]
  rw [e] at h
  rw [List.take_succ_eq_append_getElem hk, filtA, List.filter_append, filtA]
  simp [h]
theorem filtA_len (xs : List ArcT) (t : Int) : (filtA xs t).length ≤ xs.length := List.length_filter_le _ _

theorem append_arc2 (w0 : World) {ops : Array Oper} {rest : List Oper} {o : Oper} {a : Act} {Q : Exit → Act → World → Prop} (hgd : o.guard = none) (s x : Operand)
    (ho : o.op = .call { callee := .builtin .append, args := #[s, x], argTypes := #[35, 35] }) (B : Nat) (v : Value) (xs : List ArcT) (hs : a.eval s = v) (h : Arcs w0 B v xs) (y : ArcT) (G : Nat)
    (hx : a.eval x = .slice (some ⟨G, 0, none⟩) 1 1) (hG : G = w0.heap.size) (hlen : xs.length ≤ 1000000) (hB : B ≤ w0.heap.size)
    (hK : ∀ v' w', Arcs w' B v' (xs ++ [y]) → w0.grownBy w' v.ownBlock → wpList Tryd.prog ops Q rest (a.put o.dst v') w') :
    wpList Tryd.prog ops Q (o :: rest) a (w0.alloc (.cells #[.int .i64 y.1, .int .i64 y.2.1, .int .i64 y.2.2] 40)) := by
  subst hG
  exact append_arc w0 hgd s x ho B v xs hs h y hx hlen hB fun v' w' h1 h2 _ => hK v' w' h1 h2

set_option maxRecDepth 10000 in
set_option maxHeartbeats 2000000 in
theorem arcsInto_any (v : Value) (B p h : Nat) (t : Int) (w : World) (hG : GraphIs w B v (gphG h p)) (hp : p ≤ h) (hh : h ≤ 10) :
    Calls Tryd.prog 60 #[v, .int .i64 t] w fun e w' => ∃ u, e = .returned u ∧ Arcs w' w.heap.size u (filtA (arcG h p) t) ∧ Below w.heap.size w w' := by
  have HA := arcs_any v B p h w hG hp hh
  have hll := arcG_len h p hh
  generalize arcG h p = L at *
  clear hG
  go_enter Tryd.func60, Tryd.ntmps60
  go_wp2_with fail
  refine HA.mono ?_
  rintro e w1 ⟨u, rfl, i1, b1⟩
  clear HA
  have HC := Lib.hid (fun k (hk : k < L.length) W (hW : Below w1.heap.size w1 W) => show ∃ g cap, u = .slice (some ⟨g, 0, none⟩) L.length cap ∧ ThreeA W g (k * 3) (L.getD k a0) from by
    obtain ⟨g, cap, e, _, hg, _⟩ := i1.shape2 (by omega)
    have hc := i1
    rw [e] at hc
    exact ⟨g, cap, e, (hc.threeA k hk).below hW hg⟩)
  have H1 := Lib.hid (fun k (hk : k < L.length) => filtA_hit (t := t) hk)
  have H2 := Lib.hid (fun k (hk : k < L.length) => filtA_miss (t := t) hk)
  have H3 := Lib.hid (fun k => filtA_len (L.take k) t)
  have H4 := Lib.hid (show filtA (L.take L.length) t = filtA L t from by rw [List.take_length])
  obtain ⟨ua, uc, rfl⟩ := i1.sl
  clear i1
  have I0 : Arcs w1 w1.heap.size (.slice none 0 0) (filtA (L.take 0) t) := OwnK.nil _ _ _ _ _
  have B0 := Below.refl w1.heap.size w1
  generalize hn : L.length = n at *
  go_wp2
  go_loopw [5, 11] (fun o i wr => ∃ k : Nat, k ≤ n ∧ i = .int .i64 k ∧ Arcs wr w1.heap.size o (filtA (L.take k) t) ∧ Below w1.heap.size w1 wr) (fun _ i _ => n - (intOf i).toNat)
  case atStart => exact ⟨0, Nat.zero_le _, rfl, I0, B0⟩
  case round =>
    clear I0 B0
    obtain ⟨k, hk, rfl, hO, hb⟩ := hrel
    by_cases hlt : k < n
    · have hlt' : decide (k < n) = true := decide_eq_true hlt
      obtain ⟨g, cap, hv, d0, d1, d2⟩ := HC.out k hlt wr hb
      cases hv
      have h1 := H1.out k hlt
      have h2 := H2.out k hlt
      have h3 := H3.out k
      have hbs := hb.size
      have hl3 : (filtA (L.take k) t).length ≤ 1000000 := by rw [List.length_take] at h3; omega
      clear H1 H2 H3 HC H4
      generalize hy : L.getD k a0 = y at *
      clear hy
      obtain ⟨y0, y1, y2⟩ := y
      simp only at d0 d1 d2 h1 h2
      have bx := hb.alloc hbs (.cells #[.int .i64 y0, .int .i64 y1, .int .i64 y2] 40)
      have hO1 := hO.alloc (.cells #[.int .i64 y0, .int .i64 y1, .int .i64 y2] 40)
      clear hO hb
      by_cases he : y2 = t
      · have he' : (y2 == t) = true := by simp [he]
        have HE := Lib.hid (h1 he)
        clear h1 h2 he
        go_wp2_with (at_builtin; refine append_arc2 _ rfl _ _ rfl _ _ _ rfl hO1 ((y0, y1, y2) : ArcT) _ rfl (by simp) hl3 bx.size ?_; intro v' w3 hO3 hg3; refine Hid.out ?_)
        have hb3 := hO1.below_grown bx bx.size hg3
        rw [← HE.out] at hO3
        clear hg3 hO1 bx
        refine Lib.hid ?_
        go_wp2
        go_roundw
        case rel => exact ⟨k + 1, by omega, by go_num, hO3, hb3⟩
        case measure => simp [intOf]; omega
      · have he' : (y2 == t) = false := by simp [he]
        have HE := Lib.hid (h2 he)
        clear h1 h2 he
        go_wp2
        go_roundw
        case rel => exact ⟨k + 1, by omega, by go_num, by rw [HE.out]; exact hO1, bx⟩
        case measure => simp [intOf]; omega
    · obtain rfl : k = n := by omega
      rw [H4.out] at hO
      clear H1 H2 H3 HC H4
      go_wp2
      go_ret
      exact ⟨_, rfl, OwnK.mono hO b1.size, b1.trans (hb.mono b1.size)⟩

/-- what ArcsInto answers -/
def intoA (h m : Int) : List ArcT := if okSt h m then filtA (arcG h.toNat (popN m.toNat)) (idxN m.toNat : Nat) else []
theorem intoA_len (h m : Int) : (intoA h m).length ≤ 12000 := by
  unfold intoA
  split
  · rename_i k
    obtain ⟨a, b, rfl, rfl, h1, h2, h3⟩ := okSt_nat k
    have := arcG_len a (popN b) h2
    have := filtA_len (arcG a (popN b)) (idxN b : Nat)
    rw [Int.toNat_natCast, Int.toNat_natCast]
    omega
  · simp
/-- a state has no more props than its height -/
theorem popN_height : ∀ h, h < 11 → ∀ m, m < 2 ^ h → popN m ≤ h := by decide +kernel

set_option maxRecDepth 10000 in
set_option maxHeartbeats 4000000 in
theorem arcsInto_impl (h m : Int) (w : World) (b1 : -9223372036854775808 ≤ m) (b2 : m ≤ 9223372036854775807) (hT : CtzTab w) :
    Calls Tryd.prog 29 #[.agg #[.int .i64 h, .int .i64 m]] w fun e w' => ∃ u, e = .returned (.tuple #[u, .int .i64 (stC h m)]) ∧ Arcs w' w.heap.size u (intoA h m) ∧ Below w.heap.size w w' := by
  have HV := fun W => isValid_any h m W b1 b2
  unfold intoA
  cases hok : okSt h m with
  | false =>
    rw [stC_false hok, if_neg (by simp)]
    rw [hok] at HV
    go_enter Tryd.func29, Tryd.ntmps29
    go_wp2_with fail
    refine (HV _).mono ?_
    rintro e w1 ⟨rfl, b3⟩
    go_wp2
    go_ret2
    exact ⟨_, rfl, OwnK.nil _ _ _ _ _, by first | exact b3 | exact (two_kept b3).2.2⟩
  | true =>
    rw [stC_true hok, if_pos rfl]
    rw [hok] at HV
    obtain ⟨a, b, rfl, rfl, h1, h2, h3⟩ := okSt_nat hok
    rw [Int.toNat_natCast, Int.toNat_natCast]
    have hp10 := pow_lt_1024 h2
    have hph := popN_height a (by omega) b h3
    obtain ⟨R, hR⟩ : ∃ R, filtA (arcG a (popN b)) (idxN b : Nat) = R := ⟨_, rfl⟩
    rw [hR]
    have HRR := Lib.hid hR
    clear hok hR
    go_enter Tryd.func29, Tryd.ntmps29
    go_wp2_with fail
    refine (HV _).mono ?_
    rintro e w1 ⟨rfl, b3⟩
    obtain ⟨c0, c1, b3⟩ := two_kept b3
    clear HV
    have hT1 := hT.below b3
    have HCE := Lib.hid (fun W (hW : Below w1.heap.size w1 W) => show W.cell? ⟨w.heap.size, 0, none⟩ = some (.int .i64 a) ∧ W.cell? ⟨w.heap.size, 1, none⟩ = some (.int .i64 b) from
      ⟨(hW.cell (p := ⟨_, _, none⟩) (cell_block c0)).trans c0, (hW.cell (p := ⟨_, _, none⟩) (cell_block c1)).trans c1⟩)
    have HK := Lib.hid (fun W (hW : Below w1.heap.size w1 W) => (kind_any (a : Int) b W (by omega)).mono (R' := fun e w' => e = .returned (.agg #[.int .i64 (popN b), .int .i64 a]) ∧ Below w1.heap.size w1 w') fun e w' q => ⟨q.1, hW.trans (q.2.mono hW.size)⟩)
    have HG := Lib.hid (fun W (hW : Below w1.heap.size w1 W) => (graph_any (popN b) a W hph h1 h2 (hT1.below hW)).mono (R' := fun e w' => ∃ u, e = .returned u ∧ (∃ B, GraphIs w' B u (gphG a (popN b))) ∧ Below w1.heap.size w1 w') fun e w' ⟨u, q1, q2, q3⟩ => ⟨u, q1, ⟨_, q2⟩, hW.trans (q3.mono hW.size)⟩)
    have HX := Lib.hid (fun W (hW : Below w1.heap.size w1 W) => (index_any a b W h1 h2 h3).mono (R' := fun e w' => e = .returned (.int .i64 (idxN b)) ∧ Below w1.heap.size w1 w' ∧ Below W.heap.size W w') fun e w' q => ⟨q.1, hW.trans (q.2.mono hW.size), q.2⟩)
    have HI := Lib.hid (fun v W (hG : ∃ B, GraphIs W B v (gphG a (popN b))) (hW : Below w1.heap.size w1 W) => show Calls Tryd.prog 60 #[v, .int .i64 (idxN b : Nat)] W fun e w' => ∃ u, e = .returned u ∧ Arcs w' w1.heap.size u R ∧ Below w1.heap.size w1 w' from by
      obtain ⟨B, hG⟩ := hG
      rw [← HRR.out]
      exact (arcsInto_any v B (popN b) a (idxN b : Nat) W hG hph h2).mono fun e w' ⟨u, q1, q2, q3⟩ => ⟨u, q1, OwnK.mono q2 hW.size, hW.trans (q3.mono hW.size)⟩)
    have BW := Below.refl w1.heap.size w1
    clear c0 c1 hT hT1 hph hp10 h3 HRR
    generalize gphG a (popN b) = G at *
    generalize popN b = p at *
    generalize idxN b = x at *
    go_wp2
    go_region_held3 (fun W => Below w1.heap.size w1 W ∧ W.cell? ⟨w.heap.size, 0, none⟩ = some (.int .i64 a) ∧ W.cell? ⟨w.heap.size, 1, none⟩ = some (.int .i64 b)) (refine ⟨?_, HCE.out _ ?_⟩ <;> (repeat (first | assumption | exact Below.refl _ _ | refine Below.drew ?_ | refine below_drewN ?_ _))) (first | (go_at_call 47; (with_reducible refine (HK.out _ ?_).mono ?_); (repeat (first | assumption | exact Below.refl _ _ | refine Below.drew ?_)); rintro e w2 ⟨rfl, b4⟩) | (go_at_call 48; (with_reducible refine (HG.out _ ?_).mono ?_); (repeat (first | assumption | exact Below.refl _ _ | refine Below.drew ?_)); rintro e w3 ⟨u, rfl, iG, b6⟩) | (go_at_call 50; (with_reducible refine (HX.out _ ?_).mono ?_); (repeat (first | assumption | exact Below.refl _ _ | refine Below.drew ?_)); rintro e w4 ⟨rfl, b8, b9⟩; (try replace iG := iG.imp fun B q => GraphIs.below q b9)) | (go_at_call 60; (first | (have hE := HI.out _ _ iG b8) | (have hE := HI.out _ _ iG b6)); (with_reducible refine hE.mono ?_); rintro e w5 ⟨v, rfl, iR, b7⟩))
    all_goals go_wp2
    all_goals go_ret2
    all_goals exact ⟨_, rfl, OwnK.mono iR b3.size, b3.trans (b7.mono b3.size)⟩

set_option maxRecDepth 10000 in
set_option maxHeartbeats 4000000 in
theorem arcsInto_spec (h m : Int) (w : World) :
    Calls Tryd.prog 27 #[.agg #[.int .i64 h, .int .i64 m]] w fun e w' => ∃ u, e = .returned (.tuple #[u, .int .i64 (stC h m)]) ∧ Arcs w' w.heap.size u (intoA h m) ∧ Below w.heap.size w w' := by
  have HV := fun W => l08Ok_any h m W
  unfold intoA
  cases hok : okSt h m with
  | false =>
    rw [stC_false hok, if_neg (by simp)]
    rw [hok] at HV
    go_enter Tryd.func27, Tryd.ntmps27
    go_wp2_with fail
    refine (HV _).mono ?_
    rintro e w1 ⟨rfl, b3⟩
    go_wp2
    go_ret2
    exact ⟨_, rfl, OwnK.nil _ _ _ _ _, by first | exact b3 | exact (two_kept b3).2.2⟩
  | true =>
    rw [stC_true hok, if_pos rfl]
    rw [hok] at HV
    obtain ⟨a, b, rfl, rfl, h1, h2, h3⟩ := okSt_nat hok
    rw [Int.toNat_natCast, Int.toNat_natCast]
    have hp10 := pow_lt_1024 h2
    have HC := Lib.hid (fun W => l08Count_any b W (by omega))
    have HM := Lib.hid (fun W => l09Masks_any (popN b) a W (popN_le b) h2)
    have HF := Lib.hid (fun v B W hI => l09Find_any v B (popN b) (2 ^ a) b W hI h3 rfl hp10)
    have HA := Lib.hid (fun v B W hI => l09Arcs_any v B (popN b) a W hI h1 h2)
    have hll := arcG_len a (popN b) h2
    clear hok h3 hp10
    generalize hL : arcG a (popN b) = L at *
    clear hL
    generalize mskI (popN b) (2 ^ a) = M at *
    generalize popN b = p at *
    generalize idxN b = x at *
    go_enter Tryd.func27, Tryd.ntmps27
    go_wp2_with fail
    refine (HV _).mono ?_
    rintro e w1 ⟨rfl, b3⟩
    obtain ⟨c0, c1, b3⟩ := two_kept b3
    clear HV
    have HCE := Lib.hid (fun W (hW : Below w1.heap.size w1 W) => show W.cell? ⟨w.heap.size, 0, none⟩ = some (.int .i64 a) ∧ W.cell? ⟨w.heap.size, 1, none⟩ = some (.int .i64 b) from
      ⟨(hW.cell (p := ⟨_, _, none⟩) (cell_block c0)).trans c0, (hW.cell (p := ⟨_, _, none⟩) (cell_block c1)).trans c1⟩)
    have BW := Below.refl w1.heap.size w1
    have HC1 := Lib.hid (fun W (hW : Below w1.heap.size w1 W) => (HC.out W).mono (R' := fun e w' => e = .returned (.int .i64 p) ∧ Below w1.heap.size w1 w') fun e w' h => ⟨h.1, hW.trans (h.2.mono hW.size)⟩)
    have HM1 := Lib.hid (fun W (hW : Below w1.heap.size w1 W) => (HM.out W).mono (R' := fun e w' => ∃ u, e = .returned u ∧ Ints w' w1.heap.size u M ∧ Below w1.heap.size w1 w') fun e w' ⟨u, q1, q2, q3⟩ => ⟨u, q1, q2.mono hW.size, hW.trans (q3.mono hW.size)⟩)
    clear HC HM c0 c1
    go_wp2
    go_region_held3 (fun W => Below w1.heap.size w1 W ∧ W.cell? ⟨w.heap.size, 0, none⟩ = some (.int .i64 a) ∧ W.cell? ⟨w.heap.size, 1, none⟩ = some (.int .i64 b)) (refine ⟨?_, HCE.out _ ?_⟩ <;> (repeat (first | assumption | exact Below.refl _ _ | refine Below.drew ?_ | refine below_drewN ?_ _))) (first | (go_at_call 44; (with_reducible refine (HC1.out _ ?_).mono ?_); (repeat (first | assumption | exact Below.refl _ _ | refine Below.drew ?_)); rintro e w2 ⟨rfl, b4⟩) | (go_at_call 43; (with_reducible refine (HM1.out _ ?_).mono ?_); (repeat (first | assumption | exact Below.refl _ _ | refine Below.drew ?_)); rintro e w3 ⟨u, rfl, i2, b6⟩))
    obtain ⟨e0, e1⟩ := HCE.out _ b6
    go_wp2_with fail
    refine (HF.out _ _ _ i2).mono ?_
    rintro e w4 ⟨rfl, rfl⟩
    go_wp2_with fail
    refine (HA.out _ _ _ i2).mono ?_
    rintro e w5 ⟨u, rfl, i5, b7⟩
    have B5 := b6.trans (b7.mono b6.size)
    have HC5 := Lib.hid (fun k (hk : k < L.length) W (hW : Below w5.heap.size w5 W) => show ∃ g cap, u = .slice (some ⟨g, 0, none⟩) L.length cap ∧ ThreeA W g (k * 3) (L.getD k a0) from by
      obtain ⟨g, cap, e, _, hg, _⟩ := i5.shape2 (by omega)
      have hc := i5
      rw [e] at hc
      exact ⟨g, cap, e, (hc.threeA k hk).below hW hg⟩)
    have H1 := Lib.hid (fun k (hk : k < L.length) => filtA_hit (t := (x : Int)) hk)
    have H2 := Lib.hid (fun k (hk : k < L.length) => filtA_miss (t := (x : Int)) hk)
    have H3 := Lib.hid (fun k => filtA_len (L.take k) (x : Int))
    have H4 := Lib.hid (show filtA (L.take L.length) (x : Int) = filtA L (x : Int) from by rw [List.take_length])
    obtain ⟨ua, uc, rfl⟩ := i5.sl
    have hs5 := B5.size
    have hs1 := b3.size
    clear i5 b7 i2 b6 b4 HA HF HC1 HM1 HCE e0 e1
    have I0 : Arcs (w5.alloc (.cells #[] 40)) w5.heap.size (.slice (some ⟨w5.heap.size, 0, none⟩) 0 0) (filtA (L.take 0) (x : Int)) := OwnK.empty _ _ _ _ (Nat.le_refl _)
    have B0 := (Below.refl w5.heap.size w5).alloc (Nat.le_refl _) (.cells #[] 40)
    generalize hn : L.length = n at *
    go_wp2
    go_loopw [7, 8] (fun o i wr => ∃ k : Nat, k ≤ n ∧ i = .int .i64 k ∧ Arcs wr w5.heap.size o (filtA (L.take k) (x : Int)) ∧ Below w5.heap.size w5 wr) (fun _ i _ => n - (intOf i).toNat)
    case atStart => exact ⟨0, Nat.zero_le _, rfl, I0, B0⟩
    case round =>
      clear I0 B0
      obtain ⟨k, hk, rfl, hO, hb⟩ := hrel
      by_cases hlt : k < n
      · have hlt' : decide (k < n) = true := decide_eq_true hlt
        obtain ⟨g, cap, hv, d0, d1, d2⟩ := HC5.out k hlt wr hb
        cases hv
        have h1 := H1.out k hlt
        have h2 := H2.out k hlt
        have h3 := H3.out k
        have hbs := hb.size
        have hl3 : (filtA (L.take k) (x : Int)).length ≤ 1000000 := by rw [List.length_take] at h3; omega
        clear H1 H2 H3 HC5 H4
        generalize hy : L.getD k a0 = y at *
        clear hy
        obtain ⟨y0, y1, y2⟩ := y
        simp only at d0 d1 d2 h1 h2
        by_cases he : y2 = (x : Int)
        · have he' : (y2 == (x : Int)) = true := by simp [he]
          have HE := Lib.hid (h1 he)
          clear h1 h2 he
          go_wp2_with (at_builtin; refine append_arc2 _ rfl _ _ rfl _ _ _ rfl hO ((y0, y1, y2) : ArcT) _ rfl (by simp) hl3 hbs ?_; intro v' w6 hO3 hg3; refine Hid.out ?_)
          have hb3 := hO.below_grown hb hbs hg3
          rw [← HE.out] at hO3
          clear hg3 hO hb
          refine Lib.hid ?_
          go_wp2
          go_roundw
          case rel => exact ⟨k + 1, by omega, by go_num, hO3, hb3⟩
          case measure => simp [intOf]; omega
        · have he' : (y2 == (x : Int)) = false := by simp [he]
          have HE := Lib.hid (h2 he)
          clear h1 h2 he
          go_wp2
          go_roundw
          case rel => exact ⟨k + 1, by omega, by go_num, by rw [HE.out]; exact hO, hb⟩
          case measure => simp [intOf]; omega
      · obtain rfl : k = n := by omega
        rw [H4.out] at hO
        clear H1 H2 H3 HC5 H4
        go_wp2
        go_ret2
        exact ⟨_, rfl, OwnK.mono hO (by omega), b3.trans ((B5.trans (hb.mono hs5)).mono hs1)⟩
end Go.Proofs.YtblllikenjofoaaDoor

/- DistancesFrom, the model's and the program's. Conditions: the library's table as its text lays it. -/
namespace Go.Proofs.YtblllikenjofoaaDoor
open Go.RowKit
set_option linter.unusedSimpArgs false
set_option linter.unusedVariables false

/-- what DistancesFrom answers -/
def distS (h m : Int) : List Int := if okSt h m then distA h.toNat (popN m.toNat) (idxN m.toNat) else []
theorem distS_len (h m : Int) : (distS h m).length ≤ 1024 := by
  unfold distS
  split
  · rename_i k
    obtain ⟨a, b, rfl, rfl, h1, h2, h3⟩ := okSt_nat k
    rw [Int.toNat_natCast, Int.toNat_natCast, distA_len h1 h2 (idx_in h3 rfl).1]
    exact cntG_le a _ h2
  · simp

set_option maxRecDepth 10000 in
set_option maxHeartbeats 4000000 in
theorem l09From_any (a b : Nat) (w : World) (h1 : 1 ≤ a) (h2 : a ≤ 10) (h3 : b < 2 ^ a) :
    Calls Tryd.prog 61 #[.agg #[.int .i64 a, .int .i64 b]] w fun e w' => ∃ u, e = .returned u ∧ Ints w' w.heap.size u (distA a (popN b) (idxN b)) ∧ Below w.heap.size w w' := by
  have hp10 := pow_lt_1024 h2
  have hph := popN_height a (by omega) b h3
  have hix := (idx_in h3 rfl).1
  obtain ⟨W0, hW0⟩ : ∃ W0, (w.alloc (.cells #[.int .i64 a, .int .i64 b] 25)) = W0 := ⟨_, rfl⟩
  have B0 : Below w.heap.size w W0 := by rw [← hW0]; exact (Below.refl _ w).alloc (Nat.le_refl _) _
  have P0 : Blk W0 w.heap.size [.int .i64 a, .int .i64 b] 25 := by rw [← hW0]; exact Blk.made w #[.int .i64 a, .int .i64 b] _
  have HCE := Lib.hid (fun W (hW : Below W0.heap.size W0 W) => show W.cell? ⟨w.heap.size, 0, none⟩ = some (.int .i64 a) ∧ W.cell? ⟨w.heap.size, 1, none⟩ = some (.int .i64 b) from
    ⟨(P0.below hW P0.lt).cell 0, (P0.below hW P0.lt).cell 1⟩)
  have HC := Lib.hid (fun W (hW : Below W0.heap.size W0 W) => (l08Count_any b W (by omega)).mono (R' := fun e w' => e = .returned (.int .i64 (popN b)) ∧ Below W0.heap.size W0 w') fun e w' q => ⟨q.1, hW.trans (q.2.mono hW.size)⟩)
  have HM := Lib.hid (fun W (hW : Below W0.heap.size W0 W) => (l09Masks_any (popN b) a W (popN_le b) h2).mono (R' := fun e w' => ∃ u, e = .returned u ∧ (∃ B, Ints w' B u (mskI (popN b) (2 ^ a))) ∧ Below W0.heap.size W0 w') fun e w' ⟨u, q1, q2, q3⟩ => ⟨u, q1, ⟨_, q2⟩, hW.trans (q3.mono hW.size)⟩)
  have HA := Lib.hid (fun v W (hI : ∃ B, Ints W B v (mskI (popN b) (2 ^ a))) (hW : Below W0.heap.size W0 W) => show Calls Tryd.prog 56 #[v, .int .i64 a] W fun e w' => ∃ u, e = .returned u ∧ (∃ C, Arcs w' C u (arcG a (popN b))) ∧ (∃ B, Ints w' B v (mskI (popN b) (2 ^ a))) ∧ Below W0.heap.size W0 w' from by
    obtain ⟨B, hI⟩ := hI
    exact (l09Arcs_any v B (popN b) a W hI h1 h2).mono fun e w' ⟨u, q1, q2, q3⟩ => ⟨u, q1, ⟨_, q2⟩, ⟨B, hI.block fun g hg hlt => q3.block g hlt⟩, hW.trans (q3.mono hW.size)⟩)
  have HF := Lib.hid (fun v W (hI : ∃ B, Ints W B v (mskI (popN b) (2 ^ a))) => show Calls Tryd.prog 57 #[v, .int .i64 b] W fun e w' => e = .returned (.int .i64 (idxN b)) ∧ W = w' from by
    obtain ⟨B, hI⟩ := hI
    exact l09Find_any v B (popN b) (2 ^ a) b W hI h3 rfl hp10)
  have HD := Lib.hid (fun v u W (hI : ∃ B, Ints W B v (mskI (popN b) (2 ^ a))) (hU : ∃ C, Arcs W C u (arcG a (popN b))) (hW : Below W0.heap.size W0 W) => show Calls Tryd.prog 63 #[v, u, .int .i64 (idxN b : Nat)] W fun e w' => ∃ r, e = .returned r ∧ Ints w' W0.heap.size r (distA a (popN b) (idxN b)) ∧ Below W0.heap.size W0 w' from by
    obtain ⟨B, hI⟩ := hI
    obtain ⟨C, hU⟩ := hU
    exact (l09Far_any v u B C (popN b) a (idxN b) W hI hU h1 h2 hph hix).mono fun e w' ⟨u, q1, q2, q3⟩ => ⟨u, q1, q2.mono hW.size, hW.trans (q3.mono hW.size)⟩)
  have BW := Below.refl W0.heap.size W0
  clear hp10 hph hix P0 h3
  generalize distA a (popN b) (idxN b) = R at *
  generalize arcG a (popN b) = L at *
  generalize mskI (popN b) (2 ^ a) = M at *
  generalize popN b = p at *
  generalize idxN b = x at *
  go_enter Tryd.func61, Tryd.ntmps61
  go_wp2
  try rw [hW0]
  clear hW0
  go_region_held3 (fun W => Below W0.heap.size W0 W ∧ W.cell? ⟨w.heap.size, 0, none⟩ = some (.int .i64 a) ∧ W.cell? ⟨w.heap.size, 1, none⟩ = some (.int .i64 b)) (refine ⟨?_, HCE.out _ ?_⟩ <;> (repeat (first | assumption | exact Below.refl _ _ | refine Below.drew ?_ | refine below_drewN ?_ _))) (first | (go_at_call 44; (with_reducible refine (HC.out _ ?_).mono ?_); (repeat (first | assumption | exact Below.refl _ _ | refine Below.drew ?_)); rintro e w2 ⟨rfl, b4⟩) | (go_at_call 43; (with_reducible refine (HM.out _ ?_).mono ?_); (repeat (first | assumption | exact Below.refl _ _ | refine Below.drew ?_)); rintro e w3 ⟨u, rfl, iM, b6⟩))
  all_goals go_wp2
  all_goals go_region_held3 (fun W => Below W0.heap.size W0 W ∧ W.cell? ⟨w.heap.size, 0, none⟩ = some (.int .i64 a) ∧ W.cell? ⟨w.heap.size, 1, none⟩ = some (.int .i64 b)) (refine ⟨?_, HCE.out _ ?_⟩ <;> (repeat (first | assumption | exact Below.refl _ _ | refine Below.drew ?_ | refine below_drewN ?_ _))) (first | (go_at_call 56; (with_reducible refine (HA.out _ _ ?_ ?_).mono ?_); (exact iM); (repeat (first | assumption | exact Below.refl _ _ | refine Below.drew ?_ | refine below_drewN ?_ _)); rintro e w4 ⟨v, rfl, iA, iM2, b7⟩) | (go_at_call 57; (with_reducible refine (HF.out _ _ ?_).mono ?_); (exact iM2); rintro e w5 ⟨rfl, rfl⟩) | (go_at_call 63; (with_reducible refine (HD.out _ _ _ ?_ ?_ ?_).mono ?_); (exact iM2); (exact iA); (repeat (first | assumption | exact Below.refl _ _ | refine Below.drew ?_ | refine below_drewN ?_ _)); rintro e w6 ⟨r, rfl, iR, b8⟩))
  all_goals go_wp2
  all_goals go_ret
  all_goals exact ⟨_, rfl, iR.mono B0.size, B0.trans (b8.mono B0.size)⟩

set_option maxRecDepth 10000 in
set_option maxHeartbeats 1000000 in
theorem distancesFrom_spec (h m : Int) (w : World) :
    Calls Tryd.prog 30 #[.agg #[.int .i64 h, .int .i64 m]] w fun e w' => ∃ u, e = .returned (.tuple #[u, .int .i64 (stC h m)]) ∧ Ints w' w.heap.size u (distS h m) ∧ Below w.heap.size w w' := by
  have HV := fun W => l08Ok_any h m W
  unfold distS
  cases hok : okSt h m with
  | false =>
    rw [stC_false hok, if_neg (by simp)]
    rw [hok] at HV
    go_enter Tryd.func30, Tryd.ntmps30
    go_wp2_with fail
    refine (HV _).mono ?_
    rintro e w1 ⟨rfl, b3⟩
    go_wp2
    go_ret2
    exact ⟨_, rfl, Ints.nil _ _, by first | exact b3 | exact (two_kept b3).2.2⟩
  | true =>
    rw [stC_true hok, if_pos rfl]
    rw [hok] at HV
    obtain ⟨a, b, rfl, rfl, h1, h2, h3⟩ := okSt_nat hok
    rw [Int.toNat_natCast, Int.toNat_natCast]
    have HF := fun W => l09From_any a b W h1 h2 h3
    generalize distA a (popN b) (idxN b) = R at *
    clear hok h3
    go_enter Tryd.func30, Tryd.ntmps30
    go_wp2_with fail
    refine (HV _).mono ?_
    rintro e w1 ⟨rfl, b3⟩
    obtain ⟨c0, c1, b3⟩ := two_kept b3
    go_wp2_with fail
    refine (HF _).mono ?_
    rintro e w2 ⟨u, rfl, i2, b4⟩
    go_wp2
    go_ret2
    exact ⟨_, rfl, i2.mono b3.size, b3.trans (b4.mono b3.size)⟩

set_option maxRecDepth 10000 in
set_option maxHeartbeats 4000000 in
theorem distancesFrom_impl (h m : Int) (w : World) (b1 : -9223372036854775808 ≤ m) (b2 : m ≤ 9223372036854775807) (hT : CtzTab w) :
    Calls Tryd.prog 14 #[.agg #[.int .i64 h, .int .i64 m]] w fun e w' => ∃ u, e = .returned (.tuple #[u, .int .i64 (stC h m)]) ∧ Ints w' w.heap.size u (distS h m) ∧ Below w.heap.size w w' := by
  have HV := fun W => isValid_any h m W b1 b2
  unfold distS
  cases hok : okSt h m with
  | false =>
    rw [stC_false hok, if_neg (by simp)]
    rw [hok] at HV
    go_enter Tryd.func14, Tryd.ntmps14
    go_wp2_with fail
    refine (HV _).mono ?_
    rintro e w1 ⟨rfl, b3⟩
    go_wp2
    go_ret2
    exact ⟨_, rfl, Ints.nil _ _, by first | exact b3 | exact (two_kept b3).2.2⟩
  | true =>
    rw [stC_true hok, if_pos rfl]
    rw [hok] at HV
    obtain ⟨a, b, rfl, rfl, h1, h2, h3⟩ := okSt_nat hok
    rw [Int.toNat_natCast, Int.toNat_natCast]
    have hp10 := pow_lt_1024 h2
    have hph := popN_height a (by omega) b h3
    have hix := (idx_in h3 rfl).1
    obtain ⟨R, hR⟩ : ∃ R, distA a (popN b) (idxN b) = R := ⟨_, rfl⟩
    rw [hR]
    have HRR := Lib.hid hR
    clear hok hR
    go_enter Tryd.func14, Tryd.ntmps14
    go_wp2_with fail
    refine (HV _).mono ?_
    rintro e w1 ⟨rfl, b3⟩
    obtain ⟨c0, c1, b3⟩ := two_kept b3
    clear HV
    have hT1 := hT.below b3
    have HCE := Lib.hid (fun W (hW : Below w1.heap.size w1 W) => show W.cell? ⟨w.heap.size, 0, none⟩ = some (.int .i64 a) ∧ W.cell? ⟨w.heap.size, 1, none⟩ = some (.int .i64 b) from
      ⟨(hW.cell (p := ⟨_, _, none⟩) (cell_block c0)).trans c0, (hW.cell (p := ⟨_, _, none⟩) (cell_block c1)).trans c1⟩)
    have HK := Lib.hid (fun W (hW : Below w1.heap.size w1 W) => (kind_any (a : Int) b W (by omega)).mono (R' := fun e w' => e = .returned (.agg #[.int .i64 (popN b), .int .i64 a]) ∧ Below w1.heap.size w1 w') fun e w' q => ⟨q.1, hW.trans (q.2.mono hW.size)⟩)
    have HG := Lib.hid (fun W (hW : Below w1.heap.size w1 W) => (graph_any (popN b) a W hph h1 h2 (hT1.below hW)).mono (R' := fun e w' => ∃ u, e = .returned u ∧ (∃ B, GraphIs w' B u (gphG a (popN b))) ∧ Below w1.heap.size w1 w') fun e w' ⟨u, q1, q2, q3⟩ => ⟨u, q1, ⟨_, q2⟩, hW.trans (q3.mono hW.size)⟩)
    have HX := Lib.hid (fun W (hW : Below w1.heap.size w1 W) => (index_any a b W h1 h2 h3).mono (R' := fun e w' => e = .returned (.int .i64 (idxN b)) ∧ Below w1.heap.size w1 w' ∧ Below W.heap.size W w') fun e w' q => ⟨q.1, hW.trans (q.2.mono hW.size), q.2⟩)
    have HI := Lib.hid (fun v W (hG : ∃ B, GraphIs W B v (gphG a (popN b))) (hW : Below w1.heap.size w1 W) => show Calls Tryd.prog 49 #[v, .int .i64 (idxN b : Nat)] W fun e w' => ∃ u, e = .returned u ∧ Ints w' w1.heap.size u R ∧ Below w1.heap.size w1 w' from by
      obtain ⟨B, hG⟩ := hG
      rw [← HRR.out]
      exact (distFrom_any v B (popN b) a (idxN b : Nat) W hG h1 h2 hix).mono fun e w' ⟨u, q1, q2, q3⟩ => ⟨u, q1, q2.mono hW.size, hW.trans (q3.mono hW.size)⟩)
    have BW := Below.refl w1.heap.size w1
    clear c0 c1 hT hT1 hph hp10 h3 hix HRR
    generalize gphG a (popN b) = G at *
    generalize popN b = p at *
    generalize idxN b = x at *
    go_wp2
    go_region_held3 (fun W => Below w1.heap.size w1 W ∧ W.cell? ⟨w.heap.size, 0, none⟩ = some (.int .i64 a) ∧ W.cell? ⟨w.heap.size, 1, none⟩ = some (.int .i64 b)) (refine ⟨?_, HCE.out _ ?_⟩ <;> (repeat (first | assumption | exact Below.refl _ _ | refine Below.drew ?_ | refine below_drewN ?_ _))) (first | (go_at_call 47; (with_reducible refine (HK.out _ ?_).mono ?_); (repeat (first | assumption | exact Below.refl _ _ | refine Below.drew ?_)); rintro e w2 ⟨rfl, b4⟩) | (go_at_call 48; (with_reducible refine (HG.out _ ?_).mono ?_); (repeat (first | assumption | exact Below.refl _ _ | refine Below.drew ?_)); rintro e w3 ⟨u, rfl, iG, b6⟩) | (go_at_call 50; (with_reducible refine (HX.out _ ?_).mono ?_); (repeat (first | assumption | exact Below.refl _ _ | refine Below.drew ?_)); rintro e w4 ⟨rfl, b8, b9⟩; (try replace iG := iG.imp fun B q => GraphIs.below q b9)) | (go_at_call 49; (with_reducible refine (HI.out _ _ ?_ ?_).mono ?_); (exact iG); (repeat (first | assumption | exact Below.refl _ _ | refine Below.drew ?_ | refine below_drewN ?_ _)); rintro e w5 ⟨v, rfl, iR, b7⟩))
    all_goals go_wp2
    all_goals go_ret2
    all_goals exact ⟨_, rfl, iR.mono b3.size, b3.trans (b7.mono b3.size)⟩
end Go.Proofs.YtblllikenjofoaaDoor

/- Lists of numbers and of states with the range of blocks in which they lie, for the laws of states. No conditions. -/
namespace Go.Proofs.YtblllikenjofoaaDoor
open Go.RowKit
set_option linter.unusedSimpArgs false
set_option linter.unusedVariables false

structure IRw (w : World) (lo hi : Nat) (v : Value) (xs : List Int) : Prop where
  ints : Ints w lo v xs
  top : Under hi v
theorem IRw.mk' {w : World} {lo : Nat} {v : Value} {xs : List Int} (h : Ints w lo v xs) : IRw w lo w.heap.size v xs := ⟨h, h.under⟩
theorem IRw.below {w w' : World} {lo hi : Nat} {v : Value} {xs : List Int} (h : IRw w lo hi v xs) (hb : Below w.heap.size w w') : IRw w' lo hi v xs := ⟨h.ints.below hb, h.top⟩
theorem IRw.within {w w' : World} {lo hi B C : Nat} {v : Value} {xs : List Int} (h : IRw w lo hi v xs) (hk : Within B C w w') (hd : hi ≤ B ∨ C ≤ lo) : IRw w' lo hi v xs :=
  ⟨h.ints.block fun g hg hlt => hk.block g hlt (by have := h.top g hg; have := h.ints.own_ge hg; omega), h.top⟩
theorem IRw.marked {w w' : World} {lo hi : Nat} {v : Value} {xs : List Int} (h : IRw w lo hi v xs) (gr : w.grownBy w' v.ownBlock) : Within lo hi w w' :=
  Within.of_grown gr fun g hg => ⟨h.ints.own_ge hg, h.top g hg⟩
theorem IRw.again {w w' : World} {lo hi : Nat} {v : Value} {xs ys : List Int} (h : IRw w lo hi v xs) (hn : Ints w' lo v ys) : IRw w' lo hi v ys := ⟨hn, h.top⟩
structure SRw (w : World) (lo hi : Nat) (v : Value) (xs : List Sta) : Prop where
  rows : Sts w lo v xs
  top : Under hi v
theorem SRw.mk' {w : World} {lo : Nat} {v : Value} {xs : List Sta} (h : Sts w lo v xs) : SRw w lo w.heap.size v xs := ⟨h, h.under⟩
theorem SRw.below {w w' : World} {lo hi : Nat} {v : Value} {xs : List Sta} (h : SRw w lo hi v xs) (hb : Below w.heap.size w w') : SRw w' lo hi v xs := ⟨h.rows.below hb, h.top⟩
theorem SRw.within {w w' : World} {lo hi B C : Nat} {v : Value} {xs : List Sta} (h : SRw w lo hi v xs) (hk : Within B C w w') (hd : hi ≤ B ∨ C ≤ lo) : SRw w' lo hi v xs :=
  ⟨h.rows.block fun g hg hlt => hk.block g hlt (by have := h.top g hg; have := h.rows.own_ge hg; omega), h.top⟩
theorem SRw.marked {w w' : World} {lo hi : Nat} {v : Value} {xs : List Sta} (h : SRw w lo hi v xs) (gr : w.grownBy w' v.ownBlock) : Within lo hi w w' :=
  Within.of_grown gr fun g hg => ⟨h.rows.own_ge hg, h.top g hg⟩
theorem SRw.again {w w' : World} {lo hi : Nat} {v : Value} {xs ys : List Sta} (h : SRw w lo hi v xs) (hn : Sts w' lo v ys) : SRw w' lo hi v ys := ⟨hn, h.top⟩
end Go.Proofs.YtblllikenjofoaaDoor

/- The walk of the law FnExactDistancesFrom: it returns true. No conditions. -/
namespace Go.Proofs.YtblllikenjofoaaDoor
open Go.RowKit
set_option linter.unusedSimpArgs false
set_option linter.unusedVariables false

set_option maxRecDepth 10000 in
set_option maxHeartbeats 2000000 in
theorem walk_DistancesFrom (h0 m0 : Int) (w : World) (h0a : -9223372036854775808 ≤ h0) (h0b : h0 ≤ 9223372036854775807) (m0a : -9223372036854775808 ≤ m0) (m0b : m0 ≤ 9223372036854775807) (hT : CtzTab w) :
    Calls Tryd.prog 7 #[.agg #[.int .i64 h0, .int .i64 m0]] w fun e w' => e = .returned (.bool true) ∧ Below w.heap.size w w' := by
  have BB := Below.refl w.heap.size w
  have HS := fun W => distancesFrom_spec h0 m0 W
  have HI := fun W (hb : Below w.heap.size w W) => distancesFrom_impl h0 m0 W m0a m0b (hT.below hb)
  have hll := distS_len h0 m0
  generalize distS h0 m0 = ra at *
  generalize stC h0 m0 = rc at *
  have al := alT w (.int .i64 h0) (.int .i64 m0) 45
  have nv := StTwo.made w (.int .i64 h0) (.int .i64 m0) 45
  replace BB := BB.trans (al.mono BB.size)
  have V1 := nv
  clear al nv
  go_enter Tryd.func7, Tryd.ntmps7
  have cV10 := V1.1
  have cV11 := V1.2
  go_wp2_with fail
  refine (toState_any h0 m0 _).mono ?_
  rintro e wd1 ⟨rfl, bb⟩
  have S1 := bb.size
  clear cV10 cV11
  replace V1 := V1.below bb
  replace BB := BB.trans (bb.mono BB.size)
  clear bb
  have LV11 := V1.lt
  have cV10 := V1.1
  have cV11 := V1.2
  go_wp2_with fail
  refine (HS _).mono ?_
  rintro e wd2 ⟨vI2, rfl, I2, bb⟩
  have S2 := bb.size
  clear cV10 cV11
  replace V1 := V1.below bb
  replace BB := BB.trans (bb.mono BB.size)
  clear bb
  have LV12 := V1.lt
  replace I2 := IRw.mk' I2
  have cV10 := V1.1
  have cV11 := V1.2
  go_wp2_with fail
  refine (toState_any h0 m0 _).mono ?_
  rintro e wd3 ⟨rfl, bb⟩
  have S3 := bb.size
  clear cV10 cV11
  replace I2 := I2.below bb
  replace V1 := V1.below bb
  replace BB := BB.trans (bb.mono BB.size)
  clear bb
  have LV13 := V1.lt
  have cV10 := V1.1
  have cV11 := V1.2
  go_wp2_with fail
  refine (HI _ BB).mono ?_
  rintro e wd4 ⟨vI4, rfl, I4, bb⟩
  have S4 := bb.size
  clear cV10 cV11
  replace I2 := I2.below bb
  replace V1 := V1.below bb
  replace BB := BB.trans (bb.mono BB.size)
  clear bb
  have LV14 := V1.lt
  replace I4 := IRw.mk' I4
  have cV10 := V1.1
  have cV11 := V1.2
  go_wp2_with fail
  refine (eqInt64S_any _ _ _ _ _ _ I4.ints I2.ints).mono ?_
  rintro e wd5 ⟨rfl, bb⟩
  have S5 := bb.size
  clear cV10 cV11
  replace I2 := I2.below bb
  replace I4 := I4.below bb
  replace V1 := V1.below bb
  replace BB := BB.trans (bb.mono BB.size)
  clear bb
  have LV15 := V1.lt
  have cV10 := V1.1
  have cV11 := V1.2
  go_wp2_with fail
  refine (markInt64S_any _ _ _ 1 _ I4.ints (by omega) (by omega)).mono ?_
  rintro e wd6 ⟨rfl, NN, gr⟩
  have S6 := gr.size
  clear cV10 cV11
  have ww := I4.marked gr
  replace NN := I4.again NN
  clear gr
  replace V1 := V1.block (ww.block _ V1.lt (.inl (by omega)))
  replace BB := ww.below BB (by omega) BB.size
  replace I2 := I2.within ww (by omega)
  replace I4 := NN
  clear NN ww
  have LV16 := V1.lt
  have cV10 := V1.1
  have cV11 := V1.2
  go_wp2_with fail
  refine (heldInt64S_any _ _ _ 1 _ I4.ints (by omega) (by omega)).mono ?_
  rintro e wd7 ⟨rfl, bb⟩
  have S7 := bb.size
  clear cV10 cV11
  replace I2 := I2.below bb
  replace I4 := I4.below bb
  replace V1 := V1.below bb
  replace BB := BB.trans (bb.mono BB.size)
  clear bb
  have LV17 := V1.lt
  have cV10 := V1.1
  have cV11 := V1.2
  go_wp2_with fail
  refine (toState_any h0 m0 _).mono ?_
  rintro e wd8 ⟨rfl, bb⟩
  have S8 := bb.size
  clear cV10 cV11
  replace I2 := I2.below bb
  replace I4 := I4.below bb
  replace V1 := V1.below bb
  replace BB := BB.trans (bb.mono BB.size)
  clear bb
  have LV18 := V1.lt
  have cV10 := V1.1
  have cV11 := V1.2
  go_wp2_with fail
  refine (HI _ BB).mono ?_
  rintro e wd9 ⟨vI9, rfl, I9, bb⟩
  have S9 := bb.size
  clear cV10 cV11
  replace I2 := I2.below bb
  replace I4 := I4.below bb
  replace V1 := V1.below bb
  replace BB := BB.trans (bb.mono BB.size)
  clear bb
  have LV19 := V1.lt
  replace I9 := IRw.mk' I9
  have cV10 := V1.1
  have cV11 := V1.2
  go_wp2_with fail
  refine (eqInt64S_any _ _ _ _ _ _ I9.ints I2.ints).mono ?_
  rintro e wd10 ⟨rfl, bb⟩
  have S10 := bb.size
  clear cV10 cV11
  replace I2 := I2.below bb
  replace I4 := I4.below bb
  replace I9 := I9.below bb
  replace V1 := V1.below bb
  replace BB := BB.trans (bb.mono BB.size)
  clear bb
  have LV110 := V1.lt
  have cV10 := V1.1
  have cV11 := V1.2
  go_wp2_with fail
  refine (heldInt64S_any _ _ _ 1 _ I4.ints (by omega) (by omega)).mono ?_
  rintro e wd11 ⟨rfl, bb⟩
  have S11 := bb.size
  clear cV10 cV11
  replace I2 := I2.below bb
  replace I4 := I4.below bb
  replace I9 := I9.below bb
  replace V1 := V1.below bb
  replace BB := BB.trans (bb.mono BB.size)
  clear bb
  have LV111 := V1.lt
  have cV10 := V1.1
  have cV11 := V1.2
  go_wp2
  go_ret
  exact ⟨rfl, BB⟩
end Go.Proofs.YtblllikenjofoaaDoor

namespace Go.Proofs.YtblllikenjofoaaDoor.fnExactDistancesFrom
open Go.ChangeShapes Go.WideShapes Go.ChangeAt Go.RowKit
open Go.ChangeMaps (open_string shut_string)
set_option linter.unusedVariables false

theorem own : ownKnob Tryd.prog.godebug = none := by kernel_rfl
theorem laidOut : laidOutB Tryd.prog = true := by kernel_rfl
theorem gTab : Tryd.prog.globalNamed "math/bits.deBruijn64tab" = some 0 := by kernel_rfl
theorem tTab : (Tryd.prog.globals[0]?).map (·.type) = some 133 := by kernel_rfl
theorem cellsE : Tryd.prog.cellsOf 5 = 1 := by kernel_rfl
theorem cellsT : Tryd.prog.cellsOf 133 = 64 := by kernel_rfl

theorem door_met (os : Os) (args : Array Value) : laidMetH Tryd.prog Rows.fnExactDistancesFromRow.laid ((World.doorLaid Tryd.prog 400 os).forCall (fun _ _ => 0) ⟨#[], args, []⟩).memory :=
  laidMetH_of_parts3 (fuel := 8) (laidMet_of_run' 8 (by kernel_rfl) (by kernel_rfl)) (by kernel_rfl) (by kernel_rfl)

theorem map_at (l : List Nat) (j : Nat) : (l.map Int.ofNat).getD j 0 = ((l.getD j 0 : Nat) : Int) := by
  simp only [List.getD, List.getElem?_map]
  cases l[j]? <;> rfl

theorem of_laid {W : World} (h : laidMetH Tryd.prog Rows.fnExactDistancesFromRow.laid W) : CtzTab W := by
  rw [MakeChecks.laidMetH_plain _ _ _ (by kernel_rfl)] at h
  obtain ⟨ps, ⟨g0, t0, cs0, f0, p0, q0, hg0, ht0, hv0, hd0, _, _⟩, _, _⟩ := h
  obtain rfl := Option.some.inj (gTab.symm.trans hg0)
  obtain rfl := Option.some.inj (tTab.symm.trans ht0)
  have e : (Rows.laid_math_bits_deBruijn64tab : DataW Unit) = Lib.tabData .u8 (Lib.deBruijn64tab.map Int.ofNat) := rfl
  rw [e] at hd0
  have ht : Lib.TabIs Tryd.prog W "math/bits.deBruijn64tab" .u8 (Lib.deBruijn64tab.map Int.ofNat) := by
    unfold Lib.TabIs
    rw [hv0, ← Lib.cells_of_tab Tryd.underlying133 Tryd.underlying5 cellsE cellsT hd0]
  intro j hj
  have := ht.cell gTab j (by simpa [Lib.deBruijn64tab] using hj)
  rw [this, map_at]

theorem walk (h0 m0 : Int) (w : World) (ha0 : -9223372036854775808 ≤ h0) (hb0 : h0 ≤ 9223372036854775807) (ma0 : -9223372036854775808 ≤ m0) (mb0 : m0 ≤ 9223372036854775807) (hT : CtzTab w) :
    Calls Tryd.prog 7 #[.agg #[.int .i64 h0, .int .i64 m0]] w fun e w' => e = .returned (.bool true) ∧ Below w.heap.size w w' :=
  walk_DistancesFrom h0 m0 w ha0 hb0 ma0 mb0 hT

set_option maxRecDepth 100000 in
theorem lifted (os : Os) (started : os.Started) (H : Type) (enc : TypeId × Value → H) :
    ReturnsInHanded {} Tryd.checked os 7 .any (fun w args => (Rows.fnExactDistancesFromSpec.pre enc Tryd.prog Tryd.f7 [] false w args ∧ laidMetH Tryd.prog Rows.fnExactDistancesFromRow.laid w) ∧ sizedMet enc Tryd.prog Tryd.f7 (OpenSpec.ofChange Rows.fnExactDistancesFromSpec) false w args)
      (Rows.fnExactDistancesFromSpec.post enc Tryd.prog Tryd.f7 false true false false) := by
  refine returnsInHanded_of_change_and (C := Tryd.checked) (X := fun w _ => laidMetH Tryd.prog Rows.fnExactDistancesFromRow.laid w) (fun _ _ _ hh h => h.of_heap hh) own started (by kernel_rfl) Tryd.func7
    (ChangeSpec.witness_shaped (enc := enc) (C := Tryd.checked) (os := os) (X := fun w _ => laidMetH Tryd.prog Rows.fnExactDistancesFromRow.laid w) false (World.doorLaid Tryd.prog 400 os) #[.agg #[.int .i64 0, .int .i64 0]] 8 rfl (World.shaped_of_RefB (by kernel_rfl) (by kernel_rfl)) (by kernel_rfl) (by kernel_rfl) (by kernel_rfl) (door_met os _)) ?_
  intro W base args ds gs before hval0 hW _ _ hL _
  have hval : ∀ (j : Nat) t v, Tryd.f7.params[j]? = some t → args[j]? = some v → Value.okWide Tryd.prog W .any base t v := hval0
  have hW' := hW
  obtain ⟨p, q, hA0, hV, rfl, hfz, hnd⟩ := hW
  have hA : DataW.TrodAll enc Tryd.prog W 0 (fun _ => true) true Tryd.f7.params.toList args.toList ds p := hA0
  rw [Tryd.params7] at hA hval
  obtain ⟨v0, vs0, d0, ds0, p0, q0, hargs, rfl, rfl, h0, r0⟩ := trodAll_cons hA
  obtain ⟨rfl, rfl, rfl⟩ := trodAll_nil r0
  obtain rfl : args = #[v0] := by cases args; simp_all
  obtain ⟨rfl, rfl⟩ := trodVars_none hV
  have k0 := h0
  have lt0 : ∀ x ∈ p0, x.block < W.heap.size := by obtain ⟨m, hm⟩ := k0; exact DataW.trod_lt m _ _ _ hm
  obtain ⟨h0', m0, rfl, wa0, wb0⟩ := open_state (hval 0 45 v0 rfl rfl) h0
  clear hA0 hval0
  refine (walk h0' m0 W wa0.1 wa0.2 wb0.1 wb0.2 (of_laid hL)).mono fun e W' ⟨he, bel⟩ => ?_
  subst he
  exact ⟨_, rfl, _, _, _, [], _, [], hW', trodAll_mk1 (shut_bool Tryd.underlying4 _), (trodAll_cons_mk (Below.trod laidOut (by kernel_rfl) (of_decide_eq_true (by kernel_rfl)) k0 bel lt0) trodAll_mk0), rfl, bel.frame _, fun h => by cases h⟩

theorem row_holds : Rows.FnExactDistancesFromSaid :=
  OpenClaim.holds_of_wide 7 Tryd.f7 rfl rfl rfl rfl rfl rfl rfl ⟨rfl, rfl, rfl, rfl, rfl⟩ rfl rfl rfl rfl rfl (by kernel_rfl) Tryd.func7 (by kernel_rfl)
    (of_decide_eq_true (by kernel_rfl)) (by unfold Func.isWrapper; first | (rw [if_pos (by decide +kernel)]; kernel_rfl) | (rw [if_neg (by decide +kernel)]; exact ⟨rfl, rfl⟩))
    (fun os started H enc _ => lifted os started H enc)

theorem proved : Rows.FnExactDistancesFromCardSaid :=
  Claim7.holds_tied_plain_at .later [] [.data] true Rows.fnExactDistancesFromCard.stood.harness Rows.fnExactDistancesFromCard.stood.looks
    row_holds (fun _ h => by cases h) (by kernel_rfl) (fun _ h => by cases h) fnExactDistancesFrom_row_tie rfl ⟨rfl, rfl⟩ (by kernel_rfl) rfl
    (fun f fn hf hfn => by
      obtain rfl : f = 7 := Option.some.inj ((show Tryd.prog.funcNamed "loop.example/g00927/laws.FnExactDistancesFrom" = some 7 by kernel_rfl).symm.trans hf) |>.symm
      obtain rfl : fn = Tryd.f7 := (Option.some.inj (Tryd.func7.symm.trans hfn)).symm
      exact ⟨by kernel_rfl, fun j t ht => by
        rw [Tryd.params7] at ht
        have hm : t ∈ [45] := by simpa using Array.mem_of_getElem? ht
        have hall : ([45].all fun u => !Tryd.prog.wantsStandIn u) = true := by kernel_rfl
        exact (show Tryd.prog.wantsStandIn t = false by simpa using List.all_eq_true.1 hall t hm)⟩)
    (by kernel_rfl)
#print axioms proved
end Go.Proofs.YtblllikenjofoaaDoor.fnExactDistancesFrom
