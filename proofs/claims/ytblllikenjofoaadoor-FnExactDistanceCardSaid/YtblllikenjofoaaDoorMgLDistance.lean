/- The law FnExactDistance returns true at every input, and leaves its arguments as they were. Conditions: none beyond the card's own tie of the library's table to its text. -/
import Derived.Test.YtblllikenjofoaaDoorGpI
import Derived.Test.YtblllikenjofoaaDoorArK
import Derived.Deep.RegionHeld3
import Derived.Test.YtblllikenjofoaaDoorArE
import Derived.Test.YtblllikenjofoaaDoorStO
import Derived.Test.YtblllikenjofoaaDoorCards
import Derived.Test.YtblllikenjofoaaDoorTie
import Derived.Lib.LaidTab
import Derived.LaidMore
import Derived.LaidLaws
import Derived.Stop.Joined
import Derived.SevenTiedAt
import Derived.ChangeArms
import Derived.ChangeVars

/- The states of one kind, the program's: index, StateIndex, StateAt. No conditions. -/
namespace Go.Proofs.YtblllikenjofoaaDoor
open Go.RowKit
set_option linter.unusedSimpArgs false
set_option linter.unusedVariables false

set_option maxRecDepth 10000 in
set_option maxHeartbeats 2000000 in
theorem sliceIndex_any (v : Value) (B h m K : Nat) (w : World) (hI : Sts w B v (mskS h (popN m) K)) (hm : m < K) (hK : K ≤ 1024) :
    Calls Tryd.prog 82 #[v, .agg #[.int .i64 h, .int .i64 m]] w fun e w' => e = .returned (.int .i64 (idxN m)) ∧ Below w.heap.size w w' := by
  obtain ⟨e1, e2⟩ := mskN_idx hm
  have hln := mskN_len (popN m) K
  have hsl := mskS_len h (popN m) K
  obtain ⟨g, cap, rfl, q1, q2, q3, q4⟩ := OwnK.shape2 hI (by omega)
  rw [hsl]
  have HC := Lib.hid (fun i (hi : i < (mskN (popN m) K).length) => show w.cell? ⟨g, i * 2, none⟩ = some (.int .i64 h) ∧ w.cell? ⟨g, i * 2 + 1, none⟩ = some (.int .i64 ((mskN (popN m) K).getD i 0 : Nat)) from by
    have := hI.twoS i (by omega)
    rw [show (mskS h (popN m) K).getD i s0 = ((h : Int), (((mskN (popN m) K).getD i 0 : Nat) : Int)) from mskS_at hi] at this
    exact this)
  have HN := Lib.hid (fun i (hi : i < idxN m) => mskN_idx_ne hm hi)
  have HE := Lib.hid e2
  clear e2 hI hsl q1 q3 q4
  generalize hn : (mskN (popN m) K).length = n at *
  clear hn
  generalize idxN m = x at *
  have X0 : Blk (w.alloc (.cells #[.int .i64 h, .int .i64 m] 25)) w.heap.size [.int .i64 h, .int .i64 m] 25 := Blk.made w #[.int .i64 h, .int .i64 m] _
  have B0 : Below w.heap.size w (w.alloc (.cells #[.int .i64 h, .int .i64 m] 25)) := (Below.refl _ w).alloc (Nat.le_refl _) _
  go_enter Tryd.func82, Tryd.ntmps82
  go_wp2
  go_loopw [8] (fun i wr => ∃ k : Nat, k ≤ x ∧ i = .int .i64 k ∧ Blk wr w.heap.size [.int .i64 h, .int .i64 m] 25 ∧ Below w.heap.size w wr) (fun i _ => x - (intOf i).toNat)
  case atStart => exact ⟨0, Nat.zero_le _, rfl, X0, B0⟩
  case round =>
    clear X0 B0
    obtain ⟨k, hk, rfl, X, hb⟩ := hrel
    have c0 := X.cell 0
    have c1 := X.cell 1
    simp only [List.getElem?_cons_zero, List.getElem?_cons_succ] at c0 c1
    obtain ⟨a0, a1⟩ := HC.out k (by omega)
    have d0 := (hb.cell (p := ⟨g, k * 2, none⟩) q2).trans a0
    have d1 := (hb.cell (p := ⟨g, k * 2 + 1, none⟩) q2).trans a1
    have hkn : k < n := by omega
    clear a0 a1
    by_cases hlt : k < x
    · have hne := HN.out k hlt
      generalize (mskN (popN m) K).getD k 0 = y at *
      have hq1 : ¬ ((m : Int) = (y : Int)) := by omega
      have hq2 : ¬ (m = y) := by omega
      have hq3 : ((m : Int) == (y : Int)) = false := beq_eq_false_iff_ne.2 hq1
      have HX := Lib.hid X
      clear HC HN HE X hne
      go_wp2
      go_region_held3 (fun W => W.cell? ⟨w.heap.size, 0, none⟩ = some (.int .i64 h) ∧ W.cell? ⟨w.heap.size, 1, none⟩ = some (.int .i64 m) ∧ W.cell? ⟨g, k * 2, none⟩ = some (.int .i64 h) ∧ W.cell? ⟨g, k * 2 + 1, none⟩ = some (.int .i64 y)) (exact ⟨c0, c1, d0, d1⟩) (fail)
      go_wp2
      go_roundw
      case rel => exact ⟨k + 1, by omega, by go_num, HX.out.below (Below.drew (Below.refl _ _)) HX.out.lt, Below.drew hb⟩
      case measure => simp [intOf]; omega
    · obtain rfl : k = x := by omega
      rw [HE.out] at d1
      clear HC HN HE X
      go_wp2
      go_region_held3 (fun W => W.cell? ⟨w.heap.size, 0, none⟩ = some (.int .i64 h) ∧ W.cell? ⟨w.heap.size, 1, none⟩ = some (.int .i64 m) ∧ W.cell? ⟨g, k * 2, none⟩ = some (.int .i64 h) ∧ W.cell? ⟨g, k * 2 + 1, none⟩ = some (.int .i64 m)) (exact ⟨c0, c1, d0, d1⟩) (fail)
      go_wp2
      go_ret
      exact ⟨rfl, Below.drew hb⟩

set_option maxRecDepth 10000 in
set_option maxHeartbeats 1000000 in
theorem index_any (h m : Nat) (w : World) (h1 : 1 ≤ h) (hh : h ≤ 10) (hm : m < 2 ^ h) :
    Calls Tryd.prog 50 #[.agg #[.int .i64 h, .int .i64 m]] w fun e w' => e = .returned (.int .i64 (idxN m)) ∧ Below w.heap.size w w' := by
  have hp10 := pow_lt_1024 hh
  obtain ⟨W0, hW0⟩ : ∃ W0, (w.alloc (.cells #[.int .i64 h, .int .i64 m] 25)) = W0 := ⟨_, rfl⟩
  have B0 : Below w.heap.size w W0 := by rw [← hW0]; exact (Below.refl _ w).alloc (Nat.le_refl _) _
  have P0 : Blk W0 w.heap.size [.int .i64 h, .int .i64 m] 25 := by rw [← hW0]; exact Blk.made w #[.int .i64 h, .int .i64 m] _
  have HCE := Lib.hid (fun W (hW : Below W0.heap.size W0 W) => show W.cell? ⟨w.heap.size, 0, none⟩ = some (.int .i64 h) ∧ W.cell? ⟨w.heap.size, 1, none⟩ = some (.int .i64 m) from
    ⟨(P0.below hW P0.lt).cell 0, (P0.below hW P0.lt).cell 1⟩)
  have HK := Lib.hid (fun W (hW : Below W0.heap.size W0 W) => (kind_any (h : Int) m W (by omega)).mono (R' := fun e w' => e = .returned (.agg #[.int .i64 (popN m), .int .i64 h]) ∧ Below W0.heap.size W0 w') fun e w' q => ⟨q.1, hW.trans (q.2.mono hW.size)⟩)
  have HS := Lib.hid (fun W (hW : Below W0.heap.size W0 W) => (states_any (popN m) h W (popN_le m) h1 hh).mono (R' := fun e w' => ∃ u, e = .returned u ∧ Sts w' W0.heap.size u (mskS h (popN m) (2 ^ h)) ∧ Below W0.heap.size W0 w') fun e w' ⟨u, q1, q2, q3⟩ => ⟨u, q1, q2.mono hW.size, hW.trans (q3.mono hW.size)⟩)
  have HX := Lib.hid (fun v B W hI (hW : Below W0.heap.size W0 W) => (sliceIndex_any v B h m (2 ^ h) W hI hm hp10).mono (R' := fun e w' => e = .returned (.int .i64 (idxN m)) ∧ Below W0.heap.size W0 w') fun e w' q => ⟨q.1, hW.trans (q.2.mono hW.size)⟩)
  clear P0 hp10 hm
  generalize mskS h (popN m) (2 ^ h) = L at *
  generalize popN m = p at *
  generalize idxN m = x at *
  have BW := Below.refl W0.heap.size W0
  go_enter Tryd.func50, Tryd.ntmps50
  go_wp2
  try rw [hW0]
  clear hW0
  go_region_held3 (fun W => Below W0.heap.size W0 W ∧ W.cell? ⟨w.heap.size, 0, none⟩ = some (.int .i64 h) ∧ W.cell? ⟨w.heap.size, 1, none⟩ = some (.int .i64 m)) (refine ⟨?_, HCE.out _ ?_⟩ <;> (repeat (first | assumption | exact Below.refl _ _ | refine Below.drew ?_ | refine below_drewN ?_ _))) (first | (go_at_call 47; (with_reducible refine (HK.out _ ?_).mono ?_); (repeat (first | assumption | exact Below.refl _ _ | refine Below.drew ?_)); rintro e w2 ⟨rfl, b4⟩) | (go_at_call 70; (with_reducible refine (HS.out _ ?_).mono ?_); (repeat (first | assumption | exact Below.refl _ _ | refine Below.drew ?_)); rintro e w3 ⟨u, rfl, i2, b6⟩) | (go_at_call 82; (have hE := HX.out _ _ _ i2 b6); (with_reducible refine hE.mono ?_); rintro e w4 ⟨rfl, b8⟩))
  all_goals go_wp2
  all_goals go_ret
  all_goals exact ⟨rfl, B0.trans (b8.mono B0.size)⟩

end Go.Proofs.YtblllikenjofoaaDoor

/- ArcsInto, the model's and the program's. Conditions: the library's table as its text lays it. -/
namespace Go.Proofs.YtblllikenjofoaaDoor
open Go.RowKit
set_option linter.unusedSimpArgs false
set_option linter.unusedVariables false

/-- the arcs into a state -/
def filtA (xs : List ArcT) (t : Int) : List ArcT := xs.filter (fun x => decide (x.2.2 = t))
theorem filtA_hit {xs : List ArcT} {t : Int} {k : Nat} (hk : k < xs.length) (h : (xs.getD k a0).2.2 = t) : filtA (xs.take (k + 1)) t = filtA (xs.take k) t ++ [xs.getD k a0] := by
  have e : xs.getD k a0 = xs[k] := by simp [hk]
  rw [e] at h ⊢
  rw [List.take_succ_eq_append_getElem hk, filtA, List.filter_append, filtA]
  simp [h]
theorem filtA_miss {xs : List ArcT} {t : Int} {k : Nat} (hk : k < xs.length) (h : (xs.getD k a0).2.2 ≠ t) : filtA (xs.take (k + 1)) t = filtA (xs.take k) t := by
  have e : xs.getD k a0 = xs[k] := by simp [hk]
  rw [e] at h
  rw [List.take_succ_eq_append_getElem hk, filtA, List.filter_append, filtA]
  simp [h]
theorem filtA_len (xs : List ArcT) (t : Int) : (filtA xs t).length ≤ xs.length := List.length_filter_le _ _

theorem append_arc2 (w0 : World) {ops : Array Oper} {rest : List Oper} {o : Oper} {a : Act} {Q : Exit → Act → World → Prop} (hgd : o.guard = none) (s x : Operand)
    (ho : o.op = .call { callee := .builtin .append, args := #[s, x], argTypes := #[35, 35] }) (B : Nat) (v : Value) (xs : List ArcT) (hs : a.eval s = v) (h : Arcs w0 B v xs) (y : ArcT) (G : Nat)
    (hx : a.eval x = .slice (some ⟨G, 0, none⟩) 1 1) (hG : G = w0.heap.size) (hlen : xs.length ≤ 1000000) (hB : B ≤ w0.heap.size)
    (hK : ∀ v' w', Arcs w' B v' (xs ++ [y]) → w0.grownBy w' v.ownBlock → wpList Tryd.prog ops Q rest (a.put o.dst v') w') :
    wpList Tryd.prog ops Q (o :: rest) a (w0.alloc (.cells #[.int .i64 y.1, .int .i64 y.2.1, .int .i64 y.2.2] 40)) := by
  subst hG
  exact append_arc w0 hgd s x ho B v xs hs h y hx hlen hB fun v' w' h1 h2 _ => hK v' w' h1 h2

set_option maxRecDepth 10000 in
set_option maxHeartbeats 2000000 in
theorem arcsInto_any (v : Value) (B p h : Nat) (t : Int) (w : World) (hG : GraphIs w B v (gphG h p)) (hp : p ≤ h) (hh : h ≤ 10) :
    Calls Tryd.prog 60 #[v, .int .i64 t] w fun e w' => ∃ u, e = .returned u ∧ Arcs w' w.heap.size u (filtA (arcG h p) t) ∧ Below w.heap.size w w' := by
  have HA := arcs_any v B p h w hG hp hh
  have hll := arcG_len h p hh
  generalize arcG h p = L at *
  clear hG
  go_enter Tryd.func60, Tryd.ntmps60
  go_wp2_with fail
  refine HA.mono ?_
  rintro e w1 ⟨u, rfl, i1, b1⟩
  clear HA
  have HC := Lib.hid (fun k (hk : k < L.length) W (hW : Below w1.heap.size w1 W) => show ∃ g cap, u = .slice (some ⟨g, 0, none⟩) L.length cap ∧ ThreeA W g (k * 3) (L.getD k a0) from by
    obtain ⟨g, cap, e, _, hg, _⟩ := i1.shape2 (by omega)
    have hc := i1
    rw [e] at hc
    exact ⟨g, cap, e, (hc.threeA k hk).below hW hg⟩)
  have H1 := Lib.hid (fun k (hk : k < L.length) => filtA_hit (t := t) hk)
  have H2 := Lib.hid (fun k (hk : k < L.length) => filtA_miss (t := t) hk)
  have H3 := Lib.hid (fun k => filtA_len (L.take k) t)
  have H4 := Lib.hid (show filtA (L.take L.length) t = filtA L t from by rw [List.take_length])
  obtain ⟨ua, uc, rfl⟩ := i1.sl
  clear i1
  have I0 : Arcs w1 w1.heap.size (.slice none 0 0) (filtA (L.take 0) t) := OwnK.nil _ _ _ _ _
  have B0 := Below.refl w1.heap.size w1
  generalize hn : L.length = n at *
  go_wp2
  go_loopw [5, 11] (fun o i wr => ∃ k : Nat, k ≤ n ∧ i = .int .i64 k ∧ Arcs wr w1.heap.size o (filtA (L.take k) t) ∧ Below w1.heap.size w1 wr) (fun _ i _ => n - (intOf i).toNat)
  case atStart => exact ⟨0, Nat.zero_le _, rfl, I0, B0⟩
  case round =>
    clear I0 B0
    obtain ⟨k, hk, rfl, hO, hb⟩ := hrel
    by_cases hlt : k < n
    · have hlt' : decide (k < n) = true := decide_eq_true hlt
      obtain ⟨g, cap, hv, d0, d1, d2⟩ := HC.out k hlt wr hb
      cases hv
      have h1 := H1.out k hlt
      have h2 := H2.out k hlt
      have h3 := H3.out k
      have hbs := hb.size
      have hl3 : (filtA (L.take k) t).length ≤ 1000000 := by rw [List.length_take] at h3; omega
      clear H1 H2 H3 HC H4
      generalize hy : L.getD k a0 = y at *
      clear hy
      obtain ⟨y0, y1, y2⟩ := y
      simp only at d0 d1 d2 h1 h2
      have bx := hb.alloc hbs (.cells #[.int .i64 y0, .int .i64 y1, .int .i64 y2] 40)
      have hO1 := hO.alloc (.cells #[.int .i64 y0, .int .i64 y1, .int .i64 y2] 40)
      clear hO hb
      by_cases he : y2 = t
      · have he' : (y2 == t) = true := by simp [he]
        have HE := Lib.hid (h1 he)
        clear h1 h2 he
        go_wp2_with (at_builtin; refine append_arc2 _ rfl _ _ rfl _ _ _ rfl hO1 ((y0, y1, y2) : ArcT) _ rfl (by simp) hl3 bx.size ?_; intro v' w3 hO3 hg3; refine Hid.out ?_)
        have hb3 := hO1.below_grown bx bx.size hg3
        rw [← HE.out] at hO3
        clear hg3 hO1 bx
        refine Lib.hid ?_
        go_wp2
        go_roundw
        case rel => exact ⟨k + 1, by omega, by go_num, hO3, hb3⟩
        case measure => simp [intOf]; omega
      · have he' : (y2 == t) = false := by simp [he]
        have HE := Lib.hid (h2 he)
        clear h1 h2 he
        go_wp2
        go_roundw
        case rel => exact ⟨k + 1, by omega, by go_num, by rw [HE.out]; exact hO1, bx⟩
        case measure => simp [intOf]; omega
    · obtain rfl : k = n := by omega
      rw [H4.out] at hO
      clear H1 H2 H3 HC H4
      go_wp2
      go_ret
      exact ⟨_, rfl, OwnK.mono hO b1.size, b1.trans (hb.mono b1.size)⟩

/-- what ArcsInto answers -/
def intoA (h m : Int) : List ArcT := if okSt h m then filtA (arcG h.toNat (popN m.toNat)) (idxN m.toNat : Nat) else []
theorem intoA_len (h m : Int) : (intoA h m).length ≤ 12000 := by
  unfold intoA
  split
  · rename_i k
    obtain ⟨a, b, rfl, rfl, h1, h2, h3⟩ := okSt_nat k
    have := arcG_len a (popN b) h2
    have := filtA_len (arcG a (popN b)) (idxN b : Nat)
    rw [Int.toNat_natCast, Int.toNat_natCast]
    omega
  · simp
/-- a state has no more props than its height -/
theorem popN_height : ∀ h, h < 11 → ∀ m, m < 2 ^ h → popN m ≤ h := by decide +kernel

set_option maxRecDepth 10000 in
set_option maxHeartbeats 4000000 in
theorem arcsInto_impl (h m : Int) (w : World) (b1 : -9223372036854775808 ≤ m) (b2 : m ≤ 9223372036854775807) (hT : CtzTab w) :
    Calls Tryd.prog 29 #[.agg #[.int .i64 h, .int .i64 m]] w fun e w' => ∃ u, e = .returned (.tuple #[u, .int .i64 (stC h m)]) ∧ Arcs w' w.heap.size u (intoA h m) ∧ Below w.heap.size w w' := by
  have HV := fun W => isValid_any h m W b1 b2
  unfold intoA
  cases hok : okSt h m with
  | false =>
    rw [stC_false hok, if_neg (by simp)]
    rw [hok] at HV
    go_enter Tryd.func29, Tryd.ntmps29
    go_wp2_with fail
    refine (HV _).mono ?_
    rintro e w1 ⟨rfl, b3⟩
    go_wp2
    go_ret2
    exact ⟨_, rfl, OwnK.nil _ _ _ _ _, by first | exact b3 | exact (two_kept b3).2.2⟩
  | true =>
    rw [stC_true hok, if_pos rfl]
    rw [hok] at HV
    obtain ⟨a, b, rfl, rfl, h1, h2, h3⟩ := okSt_nat hok
    rw [Int.toNat_natCast, Int.toNat_natCast]
    have hp10 := pow_lt_1024 h2
    have hph := popN_height a (by omega) b h3
    obtain ⟨R, hR⟩ : ∃ R, filtA (arcG a (popN b)) (idxN b : Nat) = R := ⟨_, rfl⟩
    rw [hR]
    have HRR := Lib.hid hR
    clear hok hR
    go_enter Tryd.func29, Tryd.ntmps29
    go_wp2_with fail
    refine (HV _).mono ?_
    rintro e w1 ⟨rfl, b3⟩
    obtain ⟨c0, c1, b3⟩ := two_kept b3
    clear HV
    have hT1 := hT.below b3
    have HCE := Lib.hid (fun W (hW : Below w1.heap.size w1 W) => show W.cell? ⟨w.heap.size, 0, none⟩ = some (.int .i64 a) ∧ W.cell? ⟨w.heap.size, 1, none⟩ = some (.int .i64 b) from
      ⟨(hW.cell (p := ⟨_, _, none⟩) (cell_block c0)).trans c0, (hW.cell (p := ⟨_, _, none⟩) (cell_block c1)).trans c1⟩)
    have HK := Lib.hid (fun W (hW : Below w1.heap.size w1 W) => (kind_any (a : Int) b W (by omega)).mono (R' := fun e w' => e = .returned (.agg #[.int .i64 (popN b), .int .i64 a]) ∧ Below w1.heap.size w1 w') fun e w' q => ⟨q.1, hW.trans (q.2.mono hW.size)⟩)
    have HG := Lib.hid (fun W (hW : Below w1.heap.size w1 W) => (graph_any (popN b) a W hph h1 h2 (hT1.below hW)).mono (R' := fun e w' => ∃ u, e = .returned u ∧ (∃ B, GraphIs w' B u (gphG a (popN b))) ∧ Below w1.heap.size w1 w') fun e w' ⟨u, q1, q2, q3⟩ => ⟨u, q1, ⟨_, q2⟩, hW.trans (q3.mono hW.size)⟩)
    have HX := Lib.hid (fun W (hW : Below w1.heap.size w1 W) => (index_any a b W h1 h2 h3).mono (R' := fun e w' => e = .returned (.int .i64 (idxN b)) ∧ Below w1.heap.size w1 w' ∧ Below W.heap.size W w') fun e w' q => ⟨q.1, hW.trans (q.2.mono hW.size), q.2⟩)
    have HI := Lib.hid (fun v W (hG : ∃ B, GraphIs W B v (gphG a (popN b))) (hW : Below w1.heap.size w1 W) => show Calls Tryd.prog 60 #[v, .int .i64 (idxN b : Nat)] W fun e w' => ∃ u, e = .returned u ∧ Arcs w' w1.heap.size u R ∧ Below w1.heap.size w1 w' from by
      obtain ⟨B, hG⟩ := hG
      rw [← HRR.out]
      exact (arcsInto_any v B (popN b) a (idxN b : Nat) W hG hph h2).mono fun e w' ⟨u, q1, q2, q3⟩ => ⟨u, q1, OwnK.mono q2 hW.size, hW.trans (q3.mono hW.size)⟩)
    have BW := Below.refl w1.heap.size w1
    clear c0 c1 hT hT1 hph hp10 h3 HRR
    generalize gphG a (popN b) = G at *
    generalize popN b = p at *
    generalize idxN b = x at *
    go_wp2
    go_region_held3 (fun W => Below w1.heap.size w1 W ∧ W.cell? ⟨w.heap.size, 0, none⟩ = some (.int .i64 a) ∧ W.cell? ⟨w.heap.size, 1, none⟩ = some (.int .i64 b)) (refine ⟨?_, HCE.out _ ?_⟩ <;> (repeat (first | assumption | exact Below.refl _ _ | refine Below.drew ?_ | refine below_drewN ?_ _))) (first | (go_at_call 47; (with_reducible refine (HK.out _ ?_).mono ?_); (repeat (first | assumption | exact Below.refl _ _ | refine Below.drew ?_)); rintro e w2 ⟨rfl, b4⟩) | (go_at_call 48; (with_reducible refine (HG.out _ ?_).mono ?_); (repeat (first | assumption | exact Below.refl _ _ | refine Below.drew ?_)); rintro e w3 ⟨u, rfl, iG, b6⟩) | (go_at_call 50; (with_reducible refine (HX.out _ ?_).mono ?_); (repeat (first | assumption | exact Below.refl _ _ | refine Below.drew ?_)); rintro e w4 ⟨rfl, b8, b9⟩; (try replace iG := iG.imp fun B q => GraphIs.below q b9)) | (go_at_call 60; (first | (have hE := HI.out _ _ iG b8) | (have hE := HI.out _ _ iG b6)); (with_reducible refine hE.mono ?_); rintro e w5 ⟨v, rfl, iR, b7⟩))
    all_goals go_wp2
    all_goals go_ret2
    all_goals exact ⟨_, rfl, OwnK.mono iR b3.size, b3.trans (b7.mono b3.size)⟩

set_option maxRecDepth 10000 in
set_option maxHeartbeats 4000000 in
theorem arcsInto_spec (h m : Int) (w : World) :
    Calls Tryd.prog 27 #[.agg #[.int .i64 h, .int .i64 m]] w fun e w' => ∃ u, e = .returned (.tuple #[u, .int .i64 (stC h m)]) ∧ Arcs w' w.heap.size u (intoA h m) ∧ Below w.heap.size w w' := by
  have HV := fun W => l08Ok_any h m W
  unfold intoA
  cases hok : okSt h m with
  | false =>
    rw [stC_false hok, if_neg (by simp)]
    rw [hok] at HV
    go_enter Tryd.func27, Tryd.ntmps27
    go_wp2_with fail
    refine (HV _).mono ?_
    rintro e w1 ⟨rfl, b3⟩
    go_wp2
    go_ret2
    exact ⟨_, rfl, OwnK.nil _ _ _ _ _, by first | exact b3 | exact (two_kept b3).2.2⟩
  | true =>
    rw [stC_true hok, if_pos rfl]
    rw [hok] at HV
    obtain ⟨a, b, rfl, rfl, h1, h2, h3⟩ := okSt_nat hok
    rw [Int.toNat_natCast, Int.toNat_natCast]
    have hp10 := pow_lt_1024 h2
    have HC := Lib.hid (fun W => l08Count_any b W (by omega))
    have HM := Lib.hid (fun W => l09Masks_any (popN b) a W (popN_le b) h2)
    have HF := Lib.hid (fun v B W hI => l09Find_any v B (popN b) (2 ^ a) b W hI h3 rfl hp10)
    have HA := Lib.hid (fun v B W hI => l09Arcs_any v B (popN b) a W hI h1 h2)
    have hll := arcG_len a (popN b) h2
    clear hok h3 hp10
    generalize hL : arcG a (popN b) = L at *
    clear hL
    generalize mskI (popN b) (2 ^ a) = M at *
    generalize popN b = p at *
    generalize idxN b = x at *
    go_enter Tryd.func27, Tryd.ntmps27
    go_wp2_with fail
    refine (HV _).mono ?_
    rintro e w1 ⟨rfl, b3⟩
    obtain ⟨c0, c1, b3⟩ := two_kept b3
    clear HV
    have HCE := Lib.hid (fun W (hW : Below w1.heap.size w1 W) => show W.cell? ⟨w.heap.size, 0, none⟩ = some (.int .i64 a) ∧ W.cell? ⟨w.heap.size, 1, none⟩ = some (.int .i64 b) from
      ⟨(hW.cell (p := ⟨_, _, none⟩) (cell_block c0)).trans c0, (hW.cell (p := ⟨_, _, none⟩) (cell_block c1)).trans c1⟩)
    have BW := Below.refl w1.heap.size w1
    have HC1 := Lib.hid (fun W (hW : Below w1.heap.size w1 W) => (HC.out W).mono (R' := fun e w' => e = .returned (.int .i64 p) ∧ Below w1.heap.size w1 w') fun e w' h => ⟨h.1, hW.trans (h.2.mono hW.size)⟩)
    have HM1 := Lib.hid (fun W (hW : Below w1.heap.size w1 W) => (HM.out W).mono (R' := fun e w' => ∃ u, e = .returned u ∧ Ints w' w1.heap.size u M ∧ Below w1.heap.size w1 w') fun e w' ⟨u, q1, q2, q3⟩ => ⟨u, q1, q2.mono hW.size, hW.trans (q3.mono hW.size)⟩)
    clear HC HM c0 c1
    go_wp2
    go_region_held3 (fun W => Below w1.heap.size w1 W ∧ W.cell? ⟨w.heap.size, 0, none⟩ = some (.int .i64 a) ∧ W.cell? ⟨w.heap.size, 1, none⟩ = some (.int .i64 b)) (refine ⟨?_, HCE.out _ ?_⟩ <;> (repeat (first | assumption | exact Below.refl _ _ | refine Below.drew ?_ | refine below_drewN ?_ _))) (first | (go_at_call 44; (with_reducible refine (HC1.out _ ?_).mono ?_); (repeat (first | assumption | exact Below.refl _ _ | refine Below.drew ?_)); rintro e w2 ⟨rfl, b4⟩) | (go_at_call 43; (with_reducible refine (HM1.out _ ?_).mono ?_); (repeat (first | assumption | exact Below.refl _ _ | refine Below.drew ?_)); rintro e w3 ⟨u, rfl, i2, b6⟩))
    obtain ⟨e0, e1⟩ := HCE.out _ b6
    go_wp2_with fail
    refine (HF.out _ _ _ i2).mono ?_
    rintro e w4 ⟨rfl, rfl⟩
    go_wp2_with fail
    refine (HA.out _ _ _ i2).mono ?_
    rintro e w5 ⟨u, rfl, i5, b7⟩
    have B5 := b6.trans (b7.mono b6.size)
    have HC5 := Lib.hid (fun k (hk : k < L.length) W (hW : Below w5.heap.size w5 W) => show ∃ g cap, u = .slice (some ⟨g, 0, none⟩) L.length cap ∧ ThreeA W g (k * 3) (L.getD k a0) from by
      obtain ⟨g, cap, e, _, hg, _⟩ := i5.shape2 (by omega)
      have hc := i5
      rw [e] at hc
      exact ⟨g, cap, e, (hc.threeA k hk).below hW hg⟩)
    have H1 := Lib.hid (fun k (hk : k < L.length) => filtA_hit (t := (x : Int)) hk)
    have H2 := Lib.hid (fun k (hk : k < L.length) => filtA_miss (t := (x : Int)) hk)
    have H3 := Lib.hid (fun k => filtA_len (L.take k) (x : Int))
    have H4 := Lib.hid (show filtA (L.take L.length) (x : Int) = filtA L (x : Int) from by rw [List.take_length])
    obtain ⟨ua, uc, rfl⟩ := i5.sl
    have hs5 := B5.size
    have hs1 := b3.size
    clear i5 b7 i2 b6 b4 HA HF HC1 HM1 HCE e0 e1
    have I0 : Arcs (w5.alloc (.cells #[] 40)) w5.heap.size (.slice (some ⟨w5.heap.size, 0, none⟩) 0 0) (filtA (L.take 0) (x : Int)) := OwnK.empty _ _ _ _ (Nat.le_refl _)
    have B0 := (Below.refl w5.heap.size w5).alloc (Nat.le_refl _) (.cells #[] 40)
    generalize hn : L.length = n at *
    go_wp2
    go_loopw [7, 8] (fun o i wr => ∃ k : Nat, k ≤ n ∧ i = .int .i64 k ∧ Arcs wr w5.heap.size o (filtA (L.take k) (x : Int)) ∧ Below w5.heap.size w5 wr) (fun _ i _ => n - (intOf i).toNat)
    case atStart => exact ⟨0, Nat.zero_le _, rfl, I0, B0⟩
    case round =>
      clear I0 B0
      obtain ⟨k, hk, rfl, hO, hb⟩ := hrel
      by_cases hlt : k < n
      · have hlt' : decide (k < n) = true := decide_eq_true hlt
        obtain ⟨g, cap, hv, d0, d1, d2⟩ := HC5.out k hlt wr hb
        cases hv
        have h1 := H1.out k hlt
        have h2 := H2.out k hlt
        have h3 := H3.out k
        have hbs := hb.size
        have hl3 : (filtA (L.take k) (x : Int)).length ≤ 1000000 := by rw [List.length_take] at h3; omega
        clear H1 H2 H3 HC5 H4
        generalize hy : L.getD k a0 = y at *
        clear hy
        obtain ⟨y0, y1, y2⟩ := y
        simp only at d0 d1 d2 h1 h2
        by_cases he : y2 = (x : Int)
        · have he' : (y2 == (x : Int)) = true := by simp [he]
          have HE := Lib.hid (h1 he)
          clear h1 h2 he
          go_wp2_with (at_builtin; refine append_arc2 _ rfl _ _ rfl _ _ _ rfl hO ((y0, y1, y2) : ArcT) _ rfl (by simp) hl3 hbs ?_; intro v' w6 hO3 hg3; refine Hid.out ?_)
          have hb3 := hO.below_grown hb hbs hg3
          rw [← HE.out] at hO3
          clear hg3 hO hb
          refine Lib.hid ?_
          go_wp2
          go_roundw
          case rel => exact ⟨k + 1, by omega, by go_num, hO3, hb3⟩
          case measure => simp [intOf]; omega
        · have he' : (y2 == (x : Int)) = false := by simp [he]
          have HE := Lib.hid (h2 he)
          clear h1 h2 he
          go_wp2
          go_roundw
          case rel => exact ⟨k + 1, by omega, by go_num, by rw [HE.out]; exact hO, hb⟩
          case measure => simp [intOf]; omega
      · obtain rfl : k = n := by omega
        rw [H4.out] at hO
        clear H1 H2 H3 HC5 H4
        go_wp2
        go_ret2
        exact ⟨_, rfl, OwnK.mono hO (by omega), b3.trans ((B5.trans (hb.mono hs5)).mono hs1)⟩
end Go.Proofs.YtblllikenjofoaaDoor

/- DistancesFrom, the model's and the program's. Conditions: the library's table as its text lays it. -/
namespace Go.Proofs.YtblllikenjofoaaDoor
open Go.RowKit
set_option linter.unusedSimpArgs false
set_option linter.unusedVariables false

/-- what DistancesFrom answers -/
def distS (h m : Int) : List Int := if okSt h m then distA h.toNat (popN m.toNat) (idxN m.toNat) else []
theorem distS_len (h m : Int) : (distS h m).length ≤ 1024 := by
  unfold distS
  split
  · rename_i k
    obtain ⟨a, b, rfl, rfl, h1, h2, h3⟩ := okSt_nat k
    rw [Int.toNat_natCast, Int.toNat_natCast, distA_len h1 h2 (idx_in h3 rfl).1]
    exact cntG_le a _ h2
  · simp

set_option maxRecDepth 10000 in
set_option maxHeartbeats 4000000 in
theorem l09From_any (a b : Nat) (w : World) (h1 : 1 ≤ a) (h2 : a ≤ 10) (h3 : b < 2 ^ a) :
    Calls Tryd.prog 61 #[.agg #[.int .i64 a, .int .i64 b]] w fun e w' => ∃ u, e = .returned u ∧ Ints w' w.heap.size u (distA a (popN b) (idxN b)) ∧ Below w.heap.size w w' := by
  have hp10 := pow_lt_1024 h2
  have hph := popN_height a (by omega) b h3
  have hix := (idx_in h3 rfl).1
  obtain ⟨W0, hW0⟩ : ∃ W0, (w.alloc (.cells #[.int .i64 a, .int .i64 b] 25)) = W0 := ⟨_, rfl⟩
  have B0 : Below w.heap.size w W0 := by rw [← hW0]; exact (Below.refl _ w).alloc (Nat.le_refl _) _
  have P0 : Blk W0 w.heap.size [.int .i64 a, .int .i64 b] 25 := by rw [← hW0]; exact Blk.made w #[.int .i64 a, .int .i64 b] _
  have HCE := Lib.hid (fun W (hW : Below W0.heap.size W0 W) => show W.cell? ⟨w.heap.size, 0, none⟩ = some (.int .i64 a) ∧ W.cell? ⟨w.heap.size, 1, none⟩ = some (.int .i64 b) from
    ⟨(P0.below hW P0.lt).cell 0, (P0.below hW P0.lt).cell 1⟩)
  have HC := Lib.hid (fun W (hW : Below W0.heap.size W0 W) => (l08Count_any b W (by omega)).mono (R' := fun e w' => e = .returned (.int .i64 (popN b)) ∧ Below W0.heap.size W0 w') fun e w' q => ⟨q.1, hW.trans (q.2.mono hW.size)⟩)
  have HM := Lib.hid (fun W (hW : Below W0.heap.size W0 W) => (l09Masks_any (popN b) a W (popN_le b) h2).mono (R' := fun e w' => ∃ u, e = .returned u ∧ (∃ B, Ints w' B u (mskI (popN b) (2 ^ a))) ∧ Below W0.heap.size W0 w') fun e w' ⟨u, q1, q2, q3⟩ => ⟨u, q1, ⟨_, q2⟩, hW.trans (q3.mono hW.size)⟩)
  have HA := Lib.hid (fun v W (hI : ∃ B, Ints W B v (mskI (popN b) (2 ^ a))) (hW : Below W0.heap.size W0 W) => show Calls Tryd.prog 56 #[v, .int .i64 a] W fun e w' => ∃ u, e = .returned u ∧ (∃ C, Arcs w' C u (arcG a (popN b))) ∧ (∃ B, Ints w' B v (mskI (popN b) (2 ^ a))) ∧ Below W0.heap.size W0 w' from by
    obtain ⟨B, hI⟩ := hI
    exact (l09Arcs_any v B (popN b) a W hI h1 h2).mono fun e w' ⟨u, q1, q2, q3⟩ => ⟨u, q1, ⟨_, q2⟩, ⟨B, hI.block fun g hg hlt => q3.block g hlt⟩, hW.trans (q3.mono hW.size)⟩)
  have HF := Lib.hid (fun v W (hI : ∃ B, Ints W B v (mskI (popN b) (2 ^ a))) => show Calls Tryd.prog 57 #[v, .int .i64 b] W fun e w' => e = .returned (.int .i64 (idxN b)) ∧ W = w' from by
    obtain ⟨B, hI⟩ := hI
    exact l09Find_any v B (popN b) (2 ^ a) b W hI h3 rfl hp10)
  have HD := Lib.hid (fun v u W (hI : ∃ B, Ints W B v (mskI (popN b) (2 ^ a))) (hU : ∃ C, Arcs W C u (arcG a (popN b))) (hW : Below W0.heap.size W0 W) => show Calls Tryd.prog 63 #[v, u, .int .i64 (idxN b : Nat)] W fun e w' => ∃ r, e = .returned r ∧ Ints w' W0.heap.size r (distA a (popN b) (idxN b)) ∧ Below W0.heap.size W0 w' from by
    obtain ⟨B, hI⟩ := hI
    obtain ⟨C, hU⟩ := hU
    exact (l09Far_any v u B C (popN b) a (idxN b) W hI hU h1 h2 hph hix).mono fun e w' ⟨u, q1, q2, q3⟩ => ⟨u, q1, q2.mono hW.size, hW.trans (q3.mono hW.size)⟩)
  have BW := Below.refl W0.heap.size W0
  clear hp10 hph hix P0 h3
  generalize distA a (popN b) (idxN b) = R at *
  generalize arcG a (popN b) = L at *
  generalize mskI (popN b) (2 ^ a) = M at *
  generalize popN b = p at *
  generalize idxN b = x at *
  go_enter Tryd.func61, Tryd.ntmps61
  go_wp2
  try rw [hW0]
  clear hW0
  go_region_held3 (fun W => Below W0.heap.size W0 W ∧ W.cell? ⟨w.heap.size, 0, none⟩ = some (.int .i64 a) ∧ W.cell? ⟨w.heap.size, 1, none⟩ = some (.int .i64 b)) (refine ⟨?_, HCE.out _ ?_⟩ <;> (repeat (first | assumption | exact Below.refl _ _ | refine Below.drew ?_ | refine below_drewN ?_ _))) (first | (go_at_call 44; (with_reducible refine (HC.out _ ?_).mono ?_); (repeat (first | assumption | exact Below.refl _ _ | refine Below.drew ?_)); rintro e w2 ⟨rfl, b4⟩) | (go_at_call 43; (with_reducible refine (HM.out _ ?_).mono ?_); (repeat (first | assumption | exact Below.refl _ _ | refine Below.drew ?_)); rintro e w3 ⟨u, rfl, iM, b6⟩))
  all_goals go_wp2
  all_goals go_region_held3 (fun W => Below W0.heap.size W0 W ∧ W.cell? ⟨w.heap.size, 0, none⟩ = some (.int .i64 a) ∧ W.cell? ⟨w.heap.size, 1, none⟩ = some (.int .i64 b)) (refine ⟨?_, HCE.out _ ?_⟩ <;> (repeat (first | assumption | exact Below.refl _ _ | refine Below.drew ?_ | refine below_drewN ?_ _))) (first | (go_at_call 56; (with_reducible refine (HA.out _ _ ?_ ?_).mono ?_); (exact iM); (repeat (first | assumption | exact Below.refl _ _ | refine Below.drew ?_ | refine below_drewN ?_ _)); rintro e w4 ⟨v, rfl, iA, iM2, b7⟩) | (go_at_call 57; (with_reducible refine (HF.out _ _ ?_).mono ?_); (exact iM2); rintro e w5 ⟨rfl, rfl⟩) | (go_at_call 63; (with_reducible refine (HD.out _ _ _ ?_ ?_ ?_).mono ?_); (exact iM2); (exact iA); (repeat (first | assumption | exact Below.refl _ _ | refine Below.drew ?_ | refine below_drewN ?_ _)); rintro e w6 ⟨r, rfl, iR, b8⟩))
  all_goals go_wp2
  all_goals go_ret
  all_goals exact ⟨_, rfl, iR.mono B0.size, B0.trans (b8.mono B0.size)⟩

set_option maxRecDepth 10000 in
set_option maxHeartbeats 1000000 in
theorem distancesFrom_spec (h m : Int) (w : World) :
    Calls Tryd.prog 30 #[.agg #[.int .i64 h, .int .i64 m]] w fun e w' => ∃ u, e = .returned (.tuple #[u, .int .i64 (stC h m)]) ∧ Ints w' w.heap.size u (distS h m) ∧ Below w.heap.size w w' := by
  have HV := fun W => l08Ok_any h m W
  unfold distS
  cases hok : okSt h m with
  | false =>
    rw [stC_false hok, if_neg (by simp)]
    rw [hok] at HV
    go_enter Tryd.func30, Tryd.ntmps30
    go_wp2_with fail
    refine (HV _).mono ?_
    rintro e w1 ⟨rfl, b3⟩
    go_wp2
    go_ret2
    exact ⟨_, rfl, Ints.nil _ _, by first | exact b3 | exact (two_kept b3).2.2⟩
  | true =>
    rw [stC_true hok, if_pos rfl]
    rw [hok] at HV
    obtain ⟨a, b, rfl, rfl, h1, h2, h3⟩ := okSt_nat hok
    rw [Int.toNat_natCast, Int.toNat_natCast]
    have HF := fun W => l09From_any a b W h1 h2 h3
    generalize distA a (popN b) (idxN b) = R at *
    clear hok h3
    go_enter Tryd.func30, Tryd.ntmps30
    go_wp2_with fail
    refine (HV _).mono ?_
    rintro e w1 ⟨rfl, b3⟩
    obtain ⟨c0, c1, b3⟩ := two_kept b3
    go_wp2_with fail
    refine (HF _).mono ?_
    rintro e w2 ⟨u, rfl, i2, b4⟩
    go_wp2
    go_ret2
    exact ⟨_, rfl, i2.mono b3.size, b3.trans (b4.mono b3.size)⟩

set_option maxRecDepth 10000 in
set_option maxHeartbeats 4000000 in
theorem distancesFrom_impl (h m : Int) (w : World) (b1 : -9223372036854775808 ≤ m) (b2 : m ≤ 9223372036854775807) (hT : CtzTab w) :
    Calls Tryd.prog 14 #[.agg #[.int .i64 h, .int .i64 m]] w fun e w' => ∃ u, e = .returned (.tuple #[u, .int .i64 (stC h m)]) ∧ Ints w' w.heap.size u (distS h m) ∧ Below w.heap.size w w' := by
  have HV := fun W => isValid_any h m W b1 b2
  unfold distS
  cases hok : okSt h m with
  | false =>
    rw [stC_false hok, if_neg (by simp)]
    rw [hok] at HV
    go_enter Tryd.func14, Tryd.ntmps14
    go_wp2_with fail
    refine (HV _).mono ?_
    rintro e w1 ⟨rfl, b3⟩
    go_wp2
    go_ret2
    exact ⟨_, rfl, Ints.nil _ _, by first | exact b3 | exact (two_kept b3).2.2⟩
  | true =>
    rw [stC_true hok, if_pos rfl]
    rw [hok] at HV
    obtain ⟨a, b, rfl, rfl, h1, h2, h3⟩ := okSt_nat hok
    rw [Int.toNat_natCast, Int.toNat_natCast]
    have hp10 := pow_lt_1024 h2
    have hph := popN_height a (by omega) b h3
    have hix := (idx_in h3 rfl).1
    obtain ⟨R, hR⟩ : ∃ R, distA a (popN b) (idxN b) = R := ⟨_, rfl⟩
    rw [hR]
    have HRR := Lib.hid hR
    clear hok hR
    go_enter Tryd.func14, Tryd.ntmps14
    go_wp2_with fail
    refine (HV _).mono ?_
    rintro e w1 ⟨rfl, b3⟩
    obtain ⟨c0, c1, b3⟩ := two_kept b3
    clear HV
    have hT1 := hT.below b3
    have HCE := Lib.hid (fun W (hW : Below w1.heap.size w1 W) => show W.cell? ⟨w.heap.size, 0, none⟩ = some (.int .i64 a) ∧ W.cell? ⟨w.heap.size, 1, none⟩ = some (.int .i64 b) from
      ⟨(hW.cell (p := ⟨_, _, none⟩) (cell_block c0)).trans c0, (hW.cell (p := ⟨_, _, none⟩) (cell_block c1)).trans c1⟩)
    have HK := Lib.hid (fun W (hW : Below w1.heap.size w1 W) => (kind_any (a : Int) b W (by omega)).mono (R' := fun e w' => e = .returned (.agg #[.int .i64 (popN b), .int .i64 a]) ∧ Below w1.heap.size w1 w') fun e w' q => ⟨q.1, hW.trans (q.2.mono hW.size)⟩)
    have HG := Lib.hid (fun W (hW : Below w1.heap.size w1 W) => (graph_any (popN b) a W hph h1 h2 (hT1.below hW)).mono (R' := fun e w' => ∃ u, e = .returned u ∧ (∃ B, GraphIs w' B u (gphG a (popN b))) ∧ Below w1.heap.size w1 w') fun e w' ⟨u, q1, q2, q3⟩ => ⟨u, q1, ⟨_, q2⟩, hW.trans (q3.mono hW.size)⟩)
    have HX := Lib.hid (fun W (hW : Below w1.heap.size w1 W) => (index_any a b W h1 h2 h3).mono (R' := fun e w' => e = .returned (.int .i64 (idxN b)) ∧ Below w1.heap.size w1 w' ∧ Below W.heap.size W w') fun e w' q => ⟨q.1, hW.trans (q.2.mono hW.size), q.2⟩)
    have HI := Lib.hid (fun v W (hG : ∃ B, GraphIs W B v (gphG a (popN b))) (hW : Below w1.heap.size w1 W) => show Calls Tryd.prog 49 #[v, .int .i64 (idxN b : Nat)] W fun e w' => ∃ u, e = .returned u ∧ Ints w' w1.heap.size u R ∧ Below w1.heap.size w1 w' from by
      obtain ⟨B, hG⟩ := hG
      rw [← HRR.out]
      exact (distFrom_any v B (popN b) a (idxN b : Nat) W hG h1 h2 hix).mono fun e w' ⟨u, q1, q2, q3⟩ => ⟨u, q1, q2.mono hW.size, hW.trans (q3.mono hW.size)⟩)
    have BW := Below.refl w1.heap.size w1
    clear c0 c1 hT hT1 hph hp10 h3 hix HRR
    generalize gphG a (popN b) = G at *
    generalize popN b = p at *
    generalize idxN b = x at *
    go_wp2
    go_region_held3 (fun W => Below w1.heap.size w1 W ∧ W.cell? ⟨w.heap.size, 0, none⟩ = some (.int .i64 a) ∧ W.cell? ⟨w.heap.size, 1, none⟩ = some (.int .i64 b)) (refine ⟨?_, HCE.out _ ?_⟩ <;> (repeat (first | assumption | exact Below.refl _ _ | refine Below.drew ?_ | refine below_drewN ?_ _))) (first | (go_at_call 47; (with_reducible refine (HK.out _ ?_).mono ?_); (repeat (first | assumption | exact Below.refl _ _ | refine Below.drew ?_)); rintro e w2 ⟨rfl, b4⟩) | (go_at_call 48; (with_reducible refine (HG.out _ ?_).mono ?_); (repeat (first | assumption | exact Below.refl _ _ | refine Below.drew ?_)); rintro e w3 ⟨u, rfl, iG, b6⟩) | (go_at_call 50; (with_reducible refine (HX.out _ ?_).mono ?_); (repeat (first | assumption | exact Below.refl _ _ | refine Below.drew ?_)); rintro e w4 ⟨rfl, b8, b9⟩; (try replace iG := iG.imp fun B q => GraphIs.below q b9)) | (go_at_call 49; (with_reducible refine (HI.out _ _ ?_ ?_).mono ?_); (exact iG); (repeat (first | assumption | exact Below.refl _ _ | refine Below.drew ?_ | refine below_drewN ?_ _)); rintro e w5 ⟨v, rfl, iR, b7⟩))
    all_goals go_wp2
    all_goals go_ret2
    all_goals exact ⟨_, rfl, iR.mono b3.size, b3.trans (b7.mono b3.size)⟩
end Go.Proofs.YtblllikenjofoaaDoor

/- Distance, the model's and the program's. Conditions: the library's table as its text lays it. -/
namespace Go.Proofs.YtblllikenjofoaaDoor
open Go.RowKit
set_option linter.unusedSimpArgs false
set_option linter.unusedVariables false

/-- the code of two states -/
def twoC (h m k n : Int) : Int := if okSt h m then (if okSt k n then (if h = k ∧ popN m.toNat = popN n.toNat then 0 else 6) else 1) else 1
/-- what Distance answers -/
def dstV (h m k n : Int) : Int := if twoC h m k n = 0 then (distA h.toNat (popN m.toNat) (idxN m.toNat)).getD (idxN n.toNat) 0 else 0

set_option maxRecDepth 10000 in
set_option maxHeartbeats 4000000 in
theorem l09Two_any (h m k n : Int) (w : World) :
    Calls Tryd.prog 62 #[.agg #[.int .i64 h, .int .i64 m], .agg #[.int .i64 k, .int .i64 n]] w fun e w' => e = .returned (.int .i64 (twoC h m k n)) ∧ Below w.heap.size w w' := by
  have HA := Lib.hid (fun W => l08Ok_any h m W)
  have HB := Lib.hid (fun W => l08Ok_any k n W)
  cases ha : okSt h m with
  | false =>
    rw [show twoC h m k n = 1 from by simp [twoC, ha]]
    rw [ha] at HA
    go_enter Tryd.func62, Tryd.ntmps62
    go_wp2_with fail
    refine (HA.out _).mono ?_
    rintro e w1 ⟨rfl, b1⟩
    obtain ⟨c0, c1, c2, c3, _, b1⟩ := four_kept b1
    go_wp2
    go_ret
    exact ⟨rfl, b1⟩
  | true =>
    rw [ha] at HA
    cases hb : okSt k n with
    | false =>
      rw [show twoC h m k n = 1 from by simp [twoC, ha, hb]]
      rw [hb] at HB
      go_enter Tryd.func62, Tryd.ntmps62
      go_wp2_with fail
      refine (HA.out _).mono ?_
      rintro e w1 ⟨rfl, b1⟩
      obtain ⟨c0, c1, c2, c3, _, b1⟩ := four_kept b1
      go_wp2_with fail
      refine (HB.out _).mono ?_
      rintro e w2 ⟨rfl, b2⟩
      have b3 := b1.trans (b2.mono b1.size)
      go_wp2
      go_ret
      exact ⟨rfl, b3⟩
    | true =>
      obtain ⟨R, hR⟩ : ∃ R, twoC h m k n = R := ⟨_, rfl⟩
      rw [hR]
      rw [show twoC h m k n = if h = k ∧ popN m.toNat = popN n.toNat then 0 else 6 from by simp [twoC, ha, hb]] at hR
      rw [hb] at HB
      obtain ⟨a, b, rfl, rfl, h1, h2, h3⟩ := okSt_nat ha
      obtain ⟨c, d, rfl, rfl, h4, h5, h6⟩ := okSt_nat hb
      rw [Int.toNat_natCast, Int.toNat_natCast] at hR
      have HR := Lib.hid hR
      clear hR
      have hp1 := pow_lt_1024 h2
      have hp2 := pow_lt_1024 h5
      go_enter Tryd.func62, Tryd.ntmps62
      go_wp2_with fail
      refine (HA.out _).mono ?_
      rintro e w1 ⟨rfl, b1⟩
      obtain ⟨c0, c1, c2, c3, _, b1⟩ := four_kept b1
      go_wp2_with fail
      refine (HB.out _).mono ?_
      rintro e w2 ⟨rfl, b2⟩
      have c0 := (b2.cell (p := ⟨_, _, none⟩) (cell_block c0)).trans c0
      have c1 := (b2.cell (p := ⟨_, _, none⟩) (cell_block c1)).trans c1
      have c2 := (b2.cell (p := ⟨_, _, none⟩) (cell_block c2)).trans c2
      have c3 := (b2.cell (p := ⟨_, _, none⟩) (cell_block c3)).trans c3
      have HCE := Lib.hid (fun W (hW : Below w2.heap.size w2 W) => show W.cell? ⟨w.heap.size, 0, none⟩ = some (.int .i64 a) ∧ W.cell? ⟨w.heap.size, 1, none⟩ = some (.int .i64 b) ∧ W.cell? ⟨w.heap.size + 1, 0, none⟩ = some (.int .i64 c) ∧ W.cell? ⟨w.heap.size + 1, 1, none⟩ = some (.int .i64 d) from
        ⟨(hW.cell (p := ⟨_, _, none⟩) (cell_block c0)).trans c0, (hW.cell (p := ⟨_, _, none⟩) (cell_block c1)).trans c1, (hW.cell (p := ⟨_, _, none⟩) (cell_block c2)).trans c2, (hW.cell (p := ⟨_, _, none⟩) (cell_block c3)).trans c3⟩)
      have HC := Lib.hid (fun W (hW : Below w2.heap.size w2 W) => (l08Count_any b W (by omega)).mono (R' := fun e w' => e = .returned (.int .i64 (popN b)) ∧ Below w2.heap.size w2 w') fun e w' q => ⟨q.1, hW.trans (q.2.mono hW.size)⟩)
      have HD := Lib.hid (fun W (hW : Below w2.heap.size w2 W) => (l08Count_any d W (by omega)).mono (R' := fun e w' => e = .returned (.int .i64 (popN d)) ∧ Below w2.heap.size w2 w') fun e w' q => ⟨q.1, hW.trans (q.2.mono hW.size)⟩)
      have b3 := b1.trans (b2.mono b1.size)
      have BW := Below.refl w2.heap.size w2
      clear HA HB b1 b2 c0 c1 c2 c3 h3 h6 hp1 hp2 ha hb
      obtain ⟨p, hp⟩ : ∃ p, popN b = p := ⟨_, rfl⟩
      obtain ⟨q, hq⟩ : ∃ q, popN d = q := ⟨_, rfl⟩
      rw [hp] at HC
      rw [hq] at HD
      by_cases hh : a = c
      · subst hh
        go_wp2
        go_region_held3 (fun W => Below w2.heap.size w2 W ∧ W.cell? ⟨w.heap.size, 0, none⟩ = some (.int .i64 a) ∧ W.cell? ⟨w.heap.size, 1, none⟩ = some (.int .i64 b) ∧ W.cell? ⟨w.heap.size + 1, 0, none⟩ = some (.int .i64 a) ∧ W.cell? ⟨w.heap.size + 1, 1, none⟩ = some (.int .i64 d)) (refine ⟨?_, HCE.out _ ?_⟩ <;> (repeat (first | assumption | exact Below.refl _ _ | refine Below.drew ?_ | refine below_drewN ?_ _))) (first | (go_at_call 44; (with_reducible refine (HC.out _ ?_).mono ?_); (repeat (first | assumption | exact Below.refl _ _ | refine Below.drew ?_ | refine below_drewN ?_ _)); rintro e w3 ⟨rfl, b4⟩) | (go_at_call 44; (with_reducible refine (HD.out _ ?_).mono ?_); (repeat (first | assumption | exact Below.refl _ _ | refine Below.drew ?_ | refine below_drewN ?_ _)); rintro e w4 ⟨rfl, b5⟩))
        all_goals by_cases hpq : p = q
        all_goals first
          | (have hpq' : ((p : Int) != (q : Int)) = true := by simp only [bne_iff_ne, ne_eq]; omega
             have HR2 := Lib.hid (show R = 6 from by rw [← HR.out]; simp [hp, hq, hpq])
             go_wp2
             go_ret
             exact ⟨by rw [HR2.out]; try rfl, b3.trans (b5.mono b3.size)⟩)
          | (have HR2 := Lib.hid (show R = 0 from by rw [← HR.out]; simp [hp, hq, hpq])
             have hpq' : ((p : Int) != (q : Int)) = false := by rw [hpq]; simp
             go_wp2
             go_ret
             exact ⟨by rw [HR2.out]; try rfl, b3.trans (b5.mono b3.size)⟩)
      · have hhi : ¬ (a : Int) = (c : Int) := by omega
        have hh2 : ((a : Int) != (c : Int)) = true := by simp only [bne_iff_ne, ne_eq]; omega
        have HR2 := Lib.hid (show R = 6 from by rw [← HR.out, if_neg (fun h9 => hhi h9.1)])
        go_wp2
        refine wp_region_held_drew (S := (fun W => Below w2.heap.size w2 W ∧ W.cell? ⟨w.heap.size, 0, none⟩ = some (.int .i64 a) ∧ W.cell? ⟨w.heap.size, 1, none⟩ = some (.int .i64 b) ∧ W.cell? ⟨w.heap.size + 1, 0, none⟩ = some (.int .i64 c) ∧ W.cell? ⟨w.heap.size + 1, 1, none⟩ = some (.int .i64 d))) (by kernel_rfl) ?_ (fun hHeld => ?_)
        · (try dsimp only); (refine ⟨?_, HCE.out _ ?_⟩ <;> (repeat (first | assumption | exact Below.refl _ _ | refine Below.drew ?_ | refine below_drewN ?_ _)))
        refine wpAnyH_take (i := 0) (oi := { dst := some 13, op := Go.Op.fieldAddr 25 (Go.Operand.tmp 2) 0, type := 0, pos := "l09_graphs.go:171", after := #[], guard := none }) (v := ?_) rfl (by kernel_rfl) (by kernel_rfl) (by kernel_rfl) (fun _ _ _ h => h) (Or.inl ⟨by rfl, ?_⟩) (by assumption) ?_
        rotate_left
        · (intro w hSw; (try dsimp only at hSw); go_simp); (try with_reducible rfl)
        try simp only [Act.put, List.setIfInBounds_toArray, List.set_cons_zero, List.set_cons_succ]
        refine wpAnyH_take (i := 1) (oi := { dst := some 14, op := Go.Op.load 2 (Go.Operand.tmp 13), type := 2, pos := "l09_graphs.go:171", after := #[{ on := 0, ground := Go.Ground.data }], guard := none }) (v := ?_) rfl (by kernel_rfl) (by kernel_rfl) (by kernel_rfl) (fun _ _ _ h => h) (Or.inl ⟨by rfl, ?_⟩) (by assumption) ?_
        rotate_left
        · (intro w hSw; (try dsimp only at hSw); go_simp); (try with_reducible rfl)
        try simp only [Act.put, List.setIfInBounds_toArray, List.set_cons_zero, List.set_cons_succ]
        refine wpAnyH_take (i := 2) (oi := { dst := some 15, op := Go.Op.fieldAddr 25 (Go.Operand.tmp 3) 0, type := 0, pos := "l09_graphs.go:171", after := #[], guard := none }) (v := ?_) rfl (by kernel_rfl) (by kernel_rfl) (by kernel_rfl) (fun _ _ _ h => h) (Or.inl ⟨by rfl, ?_⟩) (by assumption) ?_
        rotate_left
        · (intro w hSw; (try dsimp only at hSw); go_simp); (try with_reducible rfl)
        try simp only [Act.put, List.setIfInBounds_toArray, List.set_cons_zero, List.set_cons_succ]
        refine wpAnyH_take (i := 3) (oi := { dst := some 16, op := Go.Op.load 2 (Go.Operand.tmp 15), type := 2, pos := "l09_graphs.go:171", after := #[{ on := 2, ground := Go.Ground.data }], guard := none }) (v := ?_) rfl (by kernel_rfl) (by kernel_rfl) (by kernel_rfl) (fun _ _ _ h => h) (Or.inl ⟨by rfl, ?_⟩) (by assumption) ?_
        rotate_left
        · (intro w hSw; (try dsimp only at hSw); go_simp); (try with_reducible rfl)
        try simp only [Act.put, List.setIfInBounds_toArray, List.set_cons_zero, List.set_cons_succ]
        refine wpAnyH_take (i := 4) (oi := { dst := some 17, op := Go.Op.binOp Go.BinOp.neq 2 (Go.Operand.tmp 14) (Go.Operand.tmp 16) 2, type := 4, pos := "l09_graphs.go:171", after := #[{ on := 1, ground := Go.Ground.data }, { on := 3, ground := Go.Ground.data }], guard := none }) (v := ?_) rfl (by kernel_rfl) (by kernel_rfl) (by kernel_rfl) (fun _ _ _ h => h) (Or.inl ⟨by rfl, ?_⟩) (by assumption) ?_
        rotate_left
        · (intro w hSw; (try dsimp only at hSw); go_simp); (try with_reducible rfl)
        try simp only [Act.put, List.setIfInBounds_toArray, List.set_cons_zero, List.set_cons_succ]
        refine wpAnyH_take (i := 5) (oi := { dst := some 18, op := Go.Op.move (Go.Operand.tmp 17), type := 4, pos := "l09_graphs.go:171", after := #[{ on := 4, ground := Go.Ground.data }], guard := none }) (v := ?_) rfl (by kernel_rfl) (by kernel_rfl) (by kernel_rfl) (fun _ _ _ h => h) (Or.inl ⟨by rfl, ?_⟩) (by assumption) ?_
        rotate_left
        · (intro w hSw; (try dsimp only at hSw); go_simp); (try with_reducible rfl)
        try simp only [Act.put, List.setIfInBounds_toArray, List.set_cons_zero, List.set_cons_succ]
        refine wpAnyH_take (i := 6) (oi := { dst := some 19, op := Go.Op.fieldAddr 25 (Go.Operand.tmp 2) 1, type := 0, pos := "l09_graphs.go:171", after := #[{ on := 5, ground := Go.Ground.guard }], guard := some (5, false) }) (v := undef) rfl (by kernel_rfl) (by kernel_rfl) (by kernel_rfl) (fun _ _ _ h => h) (Or.inr ⟨by rfl, rfl⟩) (by assumption) ?_
        try simp only [Act.put, List.setIfInBounds_toArray, List.set_cons_zero, List.set_cons_succ]
        refine wpAnyH_take (i := 7) (oi := { dst := some 20, op := Go.Op.load 2 (Go.Operand.tmp 19), type := 2, pos := "l09_graphs.go:171", after := #[{ on := 6, ground := Go.Ground.data }, { on := 5, ground := Go.Ground.guard }], guard := some (5, false) }) (v := undef) rfl (by kernel_rfl) (by kernel_rfl) (by kernel_rfl) (fun _ _ _ h => h) (Or.inr ⟨by rfl, rfl⟩) (by assumption) ?_
        try simp only [Act.put, List.setIfInBounds_toArray, List.set_cons_zero, List.set_cons_succ]
        refine wpAnyH_take (i := 8) (oi := { dst := some 21, op := Go.Op.call { callee := Go.Callee.value (Go.Operand.func 44), args := #[Go.Operand.tmp 20], argTypes := #[2] }, type := 2, pos := "l09_graphs.go:171", after := #[{ on := 7, ground := Go.Ground.data }, { on := 5, ground := Go.Ground.chain }, { on := 5, ground := Go.Ground.guard }], guard := some (5, false) }) (v := undef) rfl (by kernel_rfl) (by kernel_rfl) (by kernel_rfl) (fun _ _ _ h => h) (Or.inr ⟨by rfl, rfl⟩) (by assumption) ?_
        try simp only [Act.put, List.setIfInBounds_toArray, List.set_cons_zero, List.set_cons_succ]
        refine wpAnyH_take (i := 9) (oi := { dst := some 22, op := Go.Op.fieldAddr 25 (Go.Operand.tmp 3) 1, type := 0, pos := "l09_graphs.go:171", after := #[{ on := 5, ground := Go.Ground.guard }], guard := some (5, false) }) (v := undef) rfl (by kernel_rfl) (by kernel_rfl) (by kernel_rfl) (fun _ _ _ h => h) (Or.inr ⟨by rfl, rfl⟩) (by assumption) ?_
        try simp only [Act.put, List.setIfInBounds_toArray, List.set_cons_zero, List.set_cons_succ]
        refine wpAnyH_take (i := 10) (oi := { dst := some 23, op := Go.Op.load 2 (Go.Operand.tmp 22), type := 2, pos := "l09_graphs.go:171", after := #[{ on := 9, ground := Go.Ground.data }, { on := 5, ground := Go.Ground.guard }], guard := some (5, false) }) (v := undef) rfl (by kernel_rfl) (by kernel_rfl) (by kernel_rfl) (fun _ _ _ h => h) (Or.inr ⟨by rfl, rfl⟩) (by assumption) ?_
        try simp only [Act.put, List.setIfInBounds_toArray, List.set_cons_zero, List.set_cons_succ]
        refine wpAnyH_take (i := 11) (oi := { dst := some 24, op := Go.Op.call { callee := Go.Callee.value (Go.Operand.func 44), args := #[Go.Operand.tmp 23], argTypes := #[2] }, type := 2, pos := "l09_graphs.go:171", after := #[{ on := 10, ground := Go.Ground.data }, { on := 8, ground := Go.Ground.chain }, { on := 5, ground := Go.Ground.guard }], guard := some (5, false) }) (v := undef) rfl (by kernel_rfl) (by kernel_rfl) (by kernel_rfl) (fun _ _ _ h => h) (Or.inr ⟨by rfl, rfl⟩) (by assumption) ?_
        try simp only [Act.put, List.setIfInBounds_toArray, List.set_cons_zero, List.set_cons_succ]
        refine wpAnyH_take (i := 12) (oi := { dst := some 25, op := Go.Op.binOp Go.BinOp.neq 2 (Go.Operand.tmp 21) (Go.Operand.tmp 24) 2, type := 4, pos := "l09_graphs.go:171", after := #[{ on := 8, ground := Go.Ground.data }, { on := 11, ground := Go.Ground.data }, { on := 5, ground := Go.Ground.guard }], guard := some (5, false) }) (v := undef) rfl (by kernel_rfl) (by kernel_rfl) (by kernel_rfl) (fun _ _ _ h => h) (Or.inr ⟨by rfl, rfl⟩) (by assumption) ?_
        try simp only [Act.put, List.setIfInBounds_toArray, List.set_cons_zero, List.set_cons_succ]
        refine wpAnyH_take (i := 13) (oi := { dst := some 26, op := Go.Op.pick (Go.Operand.tmp 18) (Go.Operand.const (Go.Value.bool true)) (Go.Operand.tmp 25), type := 4, pos := "l09_graphs.go:171", after := #[{ on := 5, ground := Go.Ground.data }, { on := 12, ground := Go.Ground.data }], guard := none }) (v := ?_) rfl (by kernel_rfl) (by kernel_rfl) (by kernel_rfl) (fun _ _ _ h => h) (Or.inl ⟨by rfl, ?_⟩) (by assumption) ?_
        rotate_left
        · (intro w hSw; (try dsimp only at hSw); go_simp); (try with_reducible rfl)
        try simp only [Act.put, List.setIfInBounds_toArray, List.set_cons_zero, List.set_cons_succ]
        refine wpAnyH_done (by kernel_rfl) ?_ _
        go_wp2
        go_ret
        exact ⟨by rw [HR2.out]; try rfl, by first | exact b3 | exact b3.drew | exact below_drewN b3 _⟩

/-- three variables of two cells, behind a call -/
theorem six_kept {w w1 : World} {x y u v s t : Value} {T T' T2 : TypeId} (b : Below (((w.alloc (.cells #[x, y] T)).alloc (.cells #[u, v] T')).alloc (.cells #[s, t] T2)).heap.size (((w.alloc (.cells #[x, y] T)).alloc (.cells #[u, v] T')).alloc (.cells #[s, t] T2)) w1) :
    w1.cell? ⟨w.heap.size, 0, none⟩ = some x ∧ w1.cell? ⟨w.heap.size, 1, none⟩ = some y ∧ w1.cell? ⟨w.heap.size + 1, 0, none⟩ = some u ∧ w1.cell? ⟨w.heap.size + 1, 1, none⟩ = some v ∧ w1.cell? ⟨w.heap.size + 1 + 1, 0, none⟩ = some s ∧ w1.cell? ⟨w.heap.size + 1 + 1, 1, none⟩ = some t ∧ (∀ j, w1.frozen? ⟨w.heap.size + 1 + 1, j, none⟩ = false) ∧ Below w.heap.size w w1 := by
  have B2 : Below ((w.alloc (.cells #[x, y] T)).alloc (.cells #[u, v] T')).heap.size ((w.alloc (.cells #[x, y] T)).alloc (.cells #[u, v] T')) w1 := ((Below.refl _ _).alloc (Nat.le_refl _) _).trans (b.mono (by simp))
  obtain ⟨c0, c1, c2, c3, _, b1⟩ := four_kept B2
  have e2 : w1.heap[w.heap.size + 1 + 1]? = some (.cells #[s, t] T2) := (b.block _ (by simp)).trans (by have := heap_alloc_new ((w.alloc (.cells #[x, y] T)).alloc (.cells #[u, v] T')) (.cells #[s, t] T2); simpa using this)
  exact ⟨c0, c1, c2, c3, by simp [World.cell?, e2], by simp [World.cell?, e2], fun j => by simp [World.frozen?, e2], b1⟩

set_option maxRecDepth 10000 in
set_option maxHeartbeats 4000000 in
theorem commonKind_any (h m k n : Int) (w : World) (g1 : -9223372036854775808 ≤ m) (g2 : m ≤ 9223372036854775807) (g3 : -9223372036854775808 ≤ n) (g4 : n ≤ 9223372036854775807) :
    Calls Tryd.prog 51 #[.agg #[.int .i64 h, .int .i64 m], .agg #[.int .i64 k, .int .i64 n]] w fun e w' => e = .returned (.tuple #[if twoC h m k n = 0 then .agg #[.int .i64 (popN m.toNat), .int .i64 h] else .agg #[.int .i64 0, .int .i64 0], .int .i64 (twoC h m k n)]) ∧ Below w.heap.size w w' := by
  have HA := Lib.hid (fun W => isValid_any h m W g1 g2)
  have HB := Lib.hid (fun W => isValid_any k n W g3 g4)
  cases ha : okSt h m with
  | false =>
    rw [show twoC h m k n = 1 from by simp [twoC, ha], if_neg (by decide)]
    rw [ha] at HA
    go_enter Tryd.func51, Tryd.ntmps51
    go_wp2_with fail
    refine (HA.out _).mono ?_
    rintro e w1 ⟨rfl, b1⟩
    obtain ⟨c0, c1, c2, c3, c4, c5, f0, b1⟩ := six_kept b1
    obtain ⟨r0, r1⟩ := stc_set (.int .i64 0) (.int .i64 0) c4 c5
    have f1 := f0 1
    replace f0 := f0 0
    go_wp2
    refine bodyPost_ret (v := .tuple #[.agg #[.int .i64 0, .int .i64 0], .int .i64 1]) (by simp [results, Tryd.results51, go_sem, r0, r1]) rfl ?_
    exact ⟨rfl, two_below b1 (by omega) _ _⟩
  | true =>
    rw [ha] at HA
    cases hb : okSt k n with
    | false =>
      rw [show twoC h m k n = 1 from by simp [twoC, ha, hb], if_neg (by decide)]
      rw [hb] at HB
      go_enter Tryd.func51, Tryd.ntmps51
      go_wp2_with fail
      refine (HA.out _).mono ?_
      rintro e w1 ⟨rfl, b1⟩
      obtain ⟨c0, c1, c2, c3, c4', c5', f0, b1⟩ := six_kept b1
      go_wp2_with fail
      refine (HB.out _).mono ?_
      rintro e w2 ⟨rfl, b2⟩
      have c4 := (b2.cell (p := ⟨_, _, none⟩) (cell_block c4')).trans c4'
      have c5 := (b2.cell (p := ⟨_, _, none⟩) (cell_block c5')).trans c5'
      have b3 := b1.trans (b2.mono b1.size)
      obtain ⟨r0, r1⟩ := stc_set (.int .i64 0) (.int .i64 0) c4 c5
      have f1 := (b2.frozen (p := ⟨_, _, none⟩) (cell_block c5')).trans (f0 1)
      replace f0 := (b2.frozen (p := ⟨_, _, none⟩) (cell_block c4')).trans (f0 0)
      go_wp2
      refine bodyPost_ret (v := .tuple #[.agg #[.int .i64 0, .int .i64 0], .int .i64 1]) (by simp [results, Tryd.results51, go_sem, r0, r1]) rfl ?_
      exact ⟨rfl, two_below b3 (by omega) _ _⟩
    | true =>
      obtain ⟨R, hR⟩ : ∃ R, twoC h m k n = R := ⟨_, rfl⟩
      rw [hR]
      rw [show twoC h m k n = if h = k ∧ popN m.toNat = popN n.toNat then 0 else 6 from by simp [twoC, ha, hb]] at hR
      rw [hb] at HB
      obtain ⟨a, b, rfl, rfl, h1, h2, h3⟩ := okSt_nat ha
      obtain ⟨c, d, rfl, rfl, h4, h5, h6⟩ := okSt_nat hb
      rw [Int.toNat_natCast, Int.toNat_natCast] at hR
      rw [Int.toNat_natCast]
      have HR := Lib.hid hR
      clear hR
      have hp1 := pow_lt_1024 h2
      have hp2 := pow_lt_1024 h5
      obtain ⟨p, hp⟩ : ∃ p, popN b = p := ⟨_, rfl⟩
      obtain ⟨q, hq⟩ : ∃ q, popN d = q := ⟨_, rfl⟩
      rw [hp]
      go_enter Tryd.func51, Tryd.ntmps51
      go_wp2_with fail
      refine (HA.out _).mono ?_
      rintro e w1 ⟨rfl, b1⟩
      obtain ⟨d0, d1, d2, d3, d4, d5, f0, b1⟩ := six_kept b1
      go_wp2_with fail
      refine (HB.out _).mono ?_
      rintro e w2 ⟨rfl, b2⟩
      have c0 := (b2.cell (p := ⟨_, _, none⟩) (cell_block d0)).trans d0
      have c1 := (b2.cell (p := ⟨_, _, none⟩) (cell_block d1)).trans d1
      have c2 := (b2.cell (p := ⟨_, _, none⟩) (cell_block d2)).trans d2
      have c3 := (b2.cell (p := ⟨_, _, none⟩) (cell_block d3)).trans d3
      have c4 := (b2.cell (p := ⟨_, _, none⟩) (cell_block d4)).trans d4
      have c5 := (b2.cell (p := ⟨_, _, none⟩) (cell_block d5)).trans d5
      have f4 := (b2.frozen (p := ⟨_, _, none⟩) (cell_block d4)).trans (f0 0)
      have f5 := (b2.frozen (p := ⟨_, _, none⟩) (cell_block d5)).trans (f0 1)
      have b3 := b1.trans (b2.mono b1.size)
      have HCE := Lib.hid (fun W (hW : Below w2.heap.size w2 W) => show W.cell? ⟨w.heap.size, 0, none⟩ = some (.int .i64 a) ∧ W.cell? ⟨w.heap.size, 1, none⟩ = some (.int .i64 b) ∧ W.cell? ⟨w.heap.size + 1, 0, none⟩ = some (.int .i64 c) ∧ W.cell? ⟨w.heap.size + 1, 1, none⟩ = some (.int .i64 d) from
        ⟨(hW.cell (p := ⟨_, _, none⟩) (cell_block c0)).trans c0, (hW.cell (p := ⟨_, _, none⟩) (cell_block c1)).trans c1, (hW.cell (p := ⟨_, _, none⟩) (cell_block c2)).trans c2, (hW.cell (p := ⟨_, _, none⟩) (cell_block c3)).trans c3⟩)
      have HRS := Lib.hid (fun W (hW : Below w2.heap.size w2 W) => show W.cell? ⟨w.heap.size + 1 + 1, 0, none⟩ = some (.int .i64 0) ∧ W.cell? ⟨w.heap.size + 1 + 1, 1, none⟩ = some (.int .i64 0) ∧ W.frozen? ⟨w.heap.size + 1 + 1, 0, none⟩ = false ∧ W.frozen? ⟨w.heap.size + 1 + 1, 1, none⟩ = false from
        ⟨(hW.cell (p := ⟨_, _, none⟩) (cell_block c4)).trans c4, (hW.cell (p := ⟨_, _, none⟩) (cell_block c5)).trans c5, (hW.frozen (p := ⟨_, _, none⟩) (cell_block c4)).trans f4, (hW.frozen (p := ⟨_, _, none⟩) (cell_block c5)).trans f5⟩)
      have HC := Lib.hid (fun W (hW : Below w2.heap.size w2 W) => (kind_any (a : Int) b W (by omega)).mono (R' := fun e w' => e = .returned (.agg #[.int .i64 (popN b), .int .i64 a]) ∧ Below w2.heap.size w2 w') fun e w' q => ⟨q.1, hW.trans (q.2.mono hW.size)⟩)
      have HD := Lib.hid (fun W (hW : Below w2.heap.size w2 W) => (kind_any (c : Int) d W (by omega)).mono (R' := fun e w' => e = .returned (.agg #[.int .i64 (popN d), .int .i64 c]) ∧ Below w2.heap.size w2 w') fun e w' q => ⟨q.1, hW.trans (q.2.mono hW.size)⟩)
      rw [hp] at HC
      rw [hq] at HD
      have BW := Below.refl w2.heap.size w2
      clear HA HB b1 b2 c0 c1 c2 c3 c4 c5 d0 d1 d2 d3 d4 d5 f0 f4 f5 h3 h6 hp1 hp2 ha hb
      go_wp2
      go_cut [19] (fun r wx => r = .bool (decide (¬ (p = q ∧ a = c))) ∧ Below w2.heap.size w2 wx)
      case first =>
        by_cases hq2 : p = q
        · subst hq2
          have g0 : ((p : Int) == (p : Int)) = true := by simp
          by_cases ha2 : a = c
          · subst ha2
            have g3 : ((a : Int) == (a : Int)) = true := by simp
            go_region_held3 (fun W => Below w2.heap.size w2 W ∧ W.cell? ⟨w.heap.size, 0, none⟩ = some (.int .i64 a) ∧ W.cell? ⟨w.heap.size, 1, none⟩ = some (.int .i64 b) ∧ W.cell? ⟨w.heap.size + 1, 0, none⟩ = some (.int .i64 a) ∧ W.cell? ⟨w.heap.size + 1, 1, none⟩ = some (.int .i64 d)) (refine ⟨?_, HCE.out _ ?_⟩ <;> (repeat (first | assumption | exact Below.refl _ _ | refine Below.drew ?_ | refine below_drewN ?_ _))) (first | (go_at_call 47; (with_reducible refine (HC.out _ ?_).mono ?_); (repeat (first | assumption | exact Below.refl _ _ | refine Below.drew ?_ | refine below_drewN ?_ _)); rintro e w3 ⟨rfl, b4⟩) | (go_at_call 47; (with_reducible refine (HD.out _ ?_).mono ?_); (repeat (first | assumption | exact Below.refl _ _ | refine Below.drew ?_ | refine below_drewN ?_ _)); rintro e w4 ⟨rfl, b5⟩))
            all_goals (go_wp2_with fail; go_meet)
            all_goals exact ⟨by simp, b5⟩
          · have g1 : ((a : Int) == (c : Int)) = false := by rw [eq_cast, decide_eq_false ha2]
            have g2 : ¬ ((a : Int) = (c : Int)) := by omega
            go_region_held3 (fun W => Below w2.heap.size w2 W ∧ W.cell? ⟨w.heap.size, 0, none⟩ = some (.int .i64 a) ∧ W.cell? ⟨w.heap.size, 1, none⟩ = some (.int .i64 b) ∧ W.cell? ⟨w.heap.size + 1, 0, none⟩ = some (.int .i64 c) ∧ W.cell? ⟨w.heap.size + 1, 1, none⟩ = some (.int .i64 d)) (refine ⟨?_, HCE.out _ ?_⟩ <;> (repeat (first | assumption | exact Below.refl _ _ | refine Below.drew ?_ | refine below_drewN ?_ _))) (first | (go_at_call 47; (with_reducible refine (HC.out _ ?_).mono ?_); (repeat (first | assumption | exact Below.refl _ _ | refine Below.drew ?_ | refine below_drewN ?_ _)); rintro e w3 ⟨rfl, b4⟩) | (go_at_call 47; (with_reducible refine (HD.out _ ?_).mono ?_); (repeat (first | assumption | exact Below.refl _ _ | refine Below.drew ?_ | refine below_drewN ?_ _)); rintro e w4 ⟨rfl, b5⟩))
            all_goals (go_wp2_with fail; go_meet)
            all_goals exact ⟨by simp [ha2], b5⟩
        · have g1 : ((p : Int) == (q : Int)) = false := by rw [eq_cast, decide_eq_false hq2]
          have g2 : ¬ ((p : Int) = (q : Int)) := by omega
          have g3 := eq_cast a c
          go_region_held3 (fun W => Below w2.heap.size w2 W ∧ W.cell? ⟨w.heap.size, 0, none⟩ = some (.int .i64 a) ∧ W.cell? ⟨w.heap.size, 1, none⟩ = some (.int .i64 b) ∧ W.cell? ⟨w.heap.size + 1, 0, none⟩ = some (.int .i64 c) ∧ W.cell? ⟨w.heap.size + 1, 1, none⟩ = some (.int .i64 d)) (refine ⟨?_, HCE.out _ ?_⟩ <;> (repeat (first | assumption | exact Below.refl _ _ | refine Below.drew ?_ | refine below_drewN ?_ _))) (first | (go_at_call 47; (with_reducible refine (HC.out _ ?_).mono ?_); (repeat (first | assumption | exact Below.refl _ _ | refine Below.drew ?_ | refine below_drewN ?_ _)); rintro e w3 ⟨rfl, b4⟩) | (go_at_call 47; (with_reducible refine (HD.out _ ?_).mono ?_); (repeat (first | assumption | exact Below.refl _ _ | refine Below.drew ?_ | refine below_drewN ?_ _)); rintro e w4 ⟨rfl, b5⟩))
          all_goals (go_wp2_with fail; go_meet)
          all_goals exact ⟨by simp [hq2], b5⟩
      case rest =>
        obtain ⟨rfl, b5⟩ := hcut
        obtain ⟨r2, r3, f4, f5⟩ := HRS.out _ b5
        obtain ⟨e0, e1, e2, e3⟩ := HCE.out _ b5
        have b6 := b3.trans (b5.mono b3.size)
        by_cases hc : p = q ∧ a = c
        · obtain ⟨rfl, rfl⟩ := hc
          have hR0 : R = 0 := by rw [← HR.out]; simp [hp, hq]
          subst hR0
          clear HR
          go_wp2_with fail
          refine (HC.out _ b5).mono ?_
          rintro e w3 ⟨rfl, b7⟩
          obtain ⟨r2, r3, f4, f5⟩ := HRS.out _ b7
          obtain ⟨r0, r1⟩ := stc_set (.int .i64 p) (.int .i64 a) r2 r3
          have b8 := b3.trans (b7.mono b3.size)
          go_wp2
          refine bodyPost_ret (v := .tuple #[.agg #[.int .i64 p, .int .i64 a], .int .i64 0]) (by simp [results, Tryd.results51, go_sem, r0, r1]) rfl ?_
          exact ⟨by simp, two_below b8 (by omega) _ _⟩
        · have hR6 : R = 6 := by rw [← HR.out, if_neg (fun h9 => hc ⟨hp.symm.trans (h9.2.trans hq), by have := h9.1; omega⟩)]
          subst hR6
          clear HR
          have hd : decide (¬ (p = q ∧ a = c)) = true := decide_eq_true hc
          obtain ⟨r0, r1⟩ := stc_set (.int .i64 0) (.int .i64 0) r2 r3
          go_wp2
          refine bodyPost_ret (v := .tuple #[.agg #[.int .i64 0, .int .i64 0], .int .i64 6]) (by simp [results, Tryd.results51, go_sem, r0, r1]) rfl ?_
          exact ⟨by simp, two_below b6 (by omega) _ _⟩

theorem two_zero {h m k n : Int} (hz : twoC h m k n = 0) : ∃ a b d : Nat, h = a ∧ k = a ∧ m = b ∧ n = d ∧ 1 ≤ a ∧ a ≤ 10 ∧ b < 2 ^ a ∧ d < 2 ^ a ∧ popN d = popN b := by
  unfold twoC at hz
  split at hz
  · rename_i h1
    split at hz
    · rename_i h2
      split at hz
      · rename_i h3
        obtain ⟨a, b, rfl, rfl, q1, q2, q3⟩ := okSt_nat h1
        obtain ⟨c, d, rfl, rfl, q4, q5, q6⟩ := okSt_nat h2
        obtain rfl : a = c := by have := h3.1; omega
        exact ⟨a, b, d, rfl, rfl, rfl, rfl, q1, q2, q3, q6, by simpa using h3.2.symm⟩
      · simp at hz
    · simp at hz
  · simp at hz

set_option maxRecDepth 10000 in
set_option maxHeartbeats 4000000 in
theorem distance_spec (h m k n : Int) (w : World) :
    Calls Tryd.prog 34 #[.agg #[.int .i64 h, .int .i64 m], .agg #[.int .i64 k, .int .i64 n]] w fun e w' => e = .returned (.tuple #[.int .i64 (dstV h m k n), .int .i64 (twoC h m k n)]) ∧ Below w.heap.size w w' := by
  have HT := Lib.hid (fun W => l09Two_any h m k n W)
  by_cases hz : twoC h m k n = 0
  · unfold dstV
    rw [if_pos hz, hz]
    rw [hz] at HT
    obtain ⟨a, b, d, rfl, rfl, rfl, rfl, h1, h2, h3, h4, hp⟩ := two_zero hz
    simp only [Int.toNat_natCast]
    have hp10 := pow_lt_1024 h2
    have HF := Lib.hid (fun W => l09From_any a b W h1 h2 h3)
    have hl := distA_len (p := popN b) h1 h2 (idx_in h3 rfl).1
    have hx : idxN d < (distA a (popN b) (idxN b)).length := by rw [hl]; exact (idx_in h4 hp).1
    have HC := Lib.hid (fun W => l08Count_any d W (by omega))
    have HM := Lib.hid (fun W => l09Masks_any (popN b) a W (popN_le b) h2)
    have HFi := Lib.hid (fun v W (hI : ∃ B, Ints W B v (mskI (popN b) (2 ^ a))) => show Calls Tryd.prog 57 #[v, .int .i64 d] W fun e w' => e = .returned (.int .i64 (idxN d)) ∧ W = w' from by
      obtain ⟨B, hI⟩ := hI
      exact l09Find_any v B (popN b) (2 ^ a) d W hI h4 hp hp10)
    rw [hp] at HC
    clear hl h3 h4 hp hp10 hz
    obtain ⟨V, hV⟩ : ∃ V, (distA a (popN b) (idxN b)).getD (idxN d) 0 = V := ⟨_, rfl⟩
    rw [hV]
    generalize distA a (popN b) (idxN b) = R at *
    generalize mskI (popN b) (2 ^ a) = M at *
    generalize popN b = p at *
    generalize idxN b = x at *
    generalize idxN d = y at *
    go_enter Tryd.func34, Tryd.ntmps34
    go_wp2_with fail
    refine (HT.out _).mono ?_
    rintro e w1 ⟨rfl, b1⟩
    obtain ⟨c0, c1, c2, c3, _, b1⟩ := four_kept b1
    go_wp2_with fail
    refine (HF.out _).mono ?_
    rintro e w2 ⟨u, rfl, iR, b2⟩
    obtain ⟨g, cap, rfl, _, hg, _⟩ := Ints.shape2 iR (by omega)
    have cv := iR.cell y hx
    rw [hV] at cv
    have HCE := Lib.hid (fun W (hW : Below w2.heap.size w2 W) => show W.cell? ⟨w.heap.size + 1, 0, none⟩ = some (.int .i64 a) ∧ W.cell? ⟨w.heap.size + 1, 1, none⟩ = some (.int .i64 d) ∧ W.cell? ⟨g, y, none⟩ = some (.int .i64 V) from
      ⟨((b2.trans (hW.mono b2.size)).cell (p := ⟨_, _, none⟩) (cell_block c2)).trans c2, ((b2.trans (hW.mono b2.size)).cell (p := ⟨_, _, none⟩) (cell_block c3)).trans c3, (hW.cell (p := ⟨_, _, none⟩) hg).trans cv⟩)
    have HC1 := Lib.hid (fun W (hW : Below w2.heap.size w2 W) => (HC.out W).mono (R' := fun e w' => e = .returned (.int .i64 p) ∧ Below w2.heap.size w2 w') fun e w' q => ⟨q.1, hW.trans (q.2.mono hW.size)⟩)
    have HM1 := Lib.hid (fun W (hW : Below w2.heap.size w2 W) => (HM.out W).mono (R' := fun e w' => ∃ u, e = .returned u ∧ (∃ B, Ints w' B u M) ∧ Below w2.heap.size w2 w') fun e w' ⟨u, q1, q2, q3⟩ => ⟨u, q1, ⟨_, q2⟩, hW.trans (q3.mono hW.size)⟩)
    have BW := Below.refl w2.heap.size w2
    have b3 := b1.trans (b2.mono b1.size)
    generalize R.length = nn at *
    clear HC HM HF HT iR b2 cv c0 c1 c2 c3 hV
    go_wp2
    go_region_held3 (fun W => Below w2.heap.size w2 W ∧ W.cell? ⟨w.heap.size + 1, 0, none⟩ = some (.int .i64 a) ∧ W.cell? ⟨w.heap.size + 1, 1, none⟩ = some (.int .i64 d) ∧ W.cell? ⟨g, y, none⟩ = some (.int .i64 V)) (refine ⟨?_, HCE.out _ ?_⟩ <;> (repeat (first | assumption | exact Below.refl _ _ | refine Below.drew ?_ | refine below_drewN ?_ _))) (first | (go_at_call 44; (with_reducible refine (HC1.out _ ?_).mono ?_); (repeat (first | assumption | exact Below.refl _ _ | refine Below.drew ?_ | refine below_drewN ?_ _)); rintro e w3 ⟨rfl, b4⟩) | (go_at_call 43; (with_reducible refine (HM1.out _ ?_).mono ?_); (repeat (first | assumption | exact Below.refl _ _ | refine Below.drew ?_ | refine below_drewN ?_ _)); rintro e w4 ⟨v, rfl, iM, b5⟩) | (go_at_call 57; (with_reducible refine (HFi.out _ _ ?_).mono ?_); (exact iM); rintro e w5 ⟨rfl, rfl⟩))
    all_goals go_wp2
    all_goals go_ret2
    all_goals exact ⟨rfl, b3.trans (b5.mono b3.size)⟩
  · have hz' : (twoC h m k n != 0) = true := by simp [hz]
    unfold dstV
    rw [if_neg hz]
    generalize twoC h m k n = c at *
    go_enter Tryd.func34, Tryd.ntmps34
    go_wp2_with fail
    refine (HT.out _).mono ?_
    rintro e w1 ⟨rfl, b1⟩
    obtain ⟨c0, c1, c2, c3, _, b1⟩ := four_kept b1
    go_wp2
    go_ret2
    exact ⟨rfl, b1⟩

set_option maxRecDepth 10000 in
set_option maxHeartbeats 4000000 in
theorem distance_impl (h m k n : Int) (w : World) (g1 : -9223372036854775808 ≤ m) (g2 : m ≤ 9223372036854775807) (g3 : -9223372036854775808 ≤ n) (g4 : n ≤ 9223372036854775807) (hT : CtzTab w) :
    Calls Tryd.prog 15 #[.agg #[.int .i64 h, .int .i64 m], .agg #[.int .i64 k, .int .i64 n]] w fun e w' => e = .returned (.tuple #[.int .i64 (dstV h m k n), .int .i64 (twoC h m k n)]) ∧ Below w.heap.size w w' := by
  have HT := Lib.hid (fun W => commonKind_any h m k n W g1 g2 g3 g4)
  by_cases hz : twoC h m k n = 0
  · unfold dstV
    rw [if_pos hz, hz]
    rw [hz] at HT
    simp only [if_true] at HT
    obtain ⟨a, b, d, rfl, rfl, rfl, rfl, h1, h2, h3, h4, hp⟩ := two_zero hz
    simp only [Int.toNat_natCast] at HT ⊢
    have hp10 := pow_lt_1024 h2
    have hph := popN_height a (by omega) b h3
    have hix := (idx_in h3 rfl).1
    have hl := distA_len (p := popN b) h1 h2 (idx_in h3 rfl).1
    have hx : idxN d < (distA a (popN b) (idxN b)).length := by rw [hl]; exact (idx_in h4 hp).1
    have HGr := Lib.hid (fun W (hW : CtzTab W) => graph_any (popN b) a W hph h1 h2 hW)
    have HX1 := Lib.hid (fun W => index_any a b W h1 h2 h3)
    have HX2 := Lib.hid (fun W => index_any a d W h1 h2 h4)
    have HDF := Lib.hid (fun v W (hG : ∃ B, GraphIs W B v (gphG a (popN b))) => show Calls Tryd.prog 49 #[v, .int .i64 (idxN b : Nat)] W fun e w' => ∃ u, e = .returned u ∧ Ints w' W.heap.size u (distA a (popN b) (idxN b)) ∧ Below W.heap.size W w' from by
      obtain ⟨B, hG⟩ := hG
      exact distFrom_any v B (popN b) a (idxN b : Nat) W hG h1 h2 hix)
    obtain ⟨V, hV⟩ : ∃ V, (distA a (popN b) (idxN b)).getD (idxN d) 0 = V := ⟨_, rfl⟩
    rw [hV]
    clear hl h3 h4 hp hp10 hz hix hph
    generalize distA a (popN b) (idxN b) = R at *
    generalize gphG a (popN b) = G at *
    generalize popN b = p at *
    generalize idxN b = x at *
    generalize idxN d = y at *
    go_enter Tryd.func15, Tryd.ntmps15
    go_wp2_with fail
    refine (HT.out _).mono ?_
    rintro e w1 ⟨rfl, b1⟩
    obtain ⟨c0, c1, c2, c3, _, b1⟩ := four_kept b1
    obtain ⟨W1, hW1⟩ : ∃ W1, (w1.alloc (.cells #[.int .i64 p, .int .i64 a] 70)) = W1 := ⟨_, rfl⟩
    have B1 : Below w1.heap.size w1 W1 := by rw [← hW1]; exact (Below.refl _ w1).alloc (Nat.le_refl _) _
    have P1 : Blk W1 w1.heap.size [.int .i64 p, .int .i64 a] 70 := by rw [← hW1]; exact Blk.made w1 #[.int .i64 p, .int .i64 a] _
    have B2 := b1.trans (B1.mono b1.size)
    have hT1 := hT.below B2
    have HCE := Lib.hid (fun W (hW : Below W1.heap.size W1 W) => show W.cell? ⟨w.heap.size, 0, none⟩ = some (.int .i64 a) ∧ W.cell? ⟨w.heap.size, 1, none⟩ = some (.int .i64 b) ∧ W.cell? ⟨w.heap.size + 1, 0, none⟩ = some (.int .i64 a) ∧ W.cell? ⟨w.heap.size + 1, 1, none⟩ = some (.int .i64 d) ∧ W.cell? ⟨w1.heap.size, 0, none⟩ = some (.int .i64 p) ∧ W.cell? ⟨w1.heap.size, 1, none⟩ = some (.int .i64 a) from
      ⟨((B1.trans (hW.mono B1.size)).cell (p := ⟨_, _, none⟩) (cell_block c0)).trans c0, ((B1.trans (hW.mono B1.size)).cell (p := ⟨_, _, none⟩) (cell_block c1)).trans c1, ((B1.trans (hW.mono B1.size)).cell (p := ⟨_, _, none⟩) (cell_block c2)).trans c2, ((B1.trans (hW.mono B1.size)).cell (p := ⟨_, _, none⟩) (cell_block c3)).trans c3, (P1.below hW P1.lt).cell 0, (P1.below hW P1.lt).cell 1⟩)
    have HG := Lib.hid (fun W (hW : Below W1.heap.size W1 W) => (HGr.out W (hT1.below hW)).mono (R' := fun e w' => ∃ u, e = .returned u ∧ (∃ B, GraphIs w' B u G) ∧ Below W1.heap.size W1 w') fun e w' ⟨u, q1, q2, q3⟩ => ⟨u, q1, ⟨_, q2⟩, hW.trans (q3.mono hW.size)⟩)
    have HY1 := Lib.hid (fun W (hW : Below W1.heap.size W1 W) => (HX1.out W).mono (R' := fun e w' => e = .returned (.int .i64 x) ∧ Below W1.heap.size W1 w' ∧ Below W.heap.size W w') fun e w' q => ⟨q.1, hW.trans (q.2.mono hW.size), q.2⟩)
    have HY2 := Lib.hid (fun W (hW : Below W1.heap.size W1 W) => (HX2.out W).mono (R' := fun e w' => e = .returned (.int .i64 y) ∧ Below W1.heap.size W1 w' ∧ Below W.heap.size W w') fun e w' q => ⟨q.1, hW.trans (q.2.mono hW.size), q.2⟩)
    have HI := Lib.hid (fun v W (hG : ∃ B, GraphIs W B v G) (hW : Below W1.heap.size W1 W) => (HDF.out v W hG).mono (R' := fun e w' => ∃ g cap, e = .returned (.slice (some ⟨g, 0, none⟩) R.length cap) ∧ (g < w'.heap.size ∧ w'.cell? ⟨g, y, none⟩ = some (.int .i64 V)) ∧ Below W1.heap.size W1 w') fun e w' ⟨u, q1, q2, q3⟩ => by
      obtain ⟨g, cap, rfl, _, hg, _⟩ := Ints.shape2 q2 (by omega)
      have cv := q2.cell y hx
      rw [hV] at cv
      exact ⟨g, cap, q1, ⟨hg, cv⟩, hW.trans (q3.mono hW.size)⟩)
    have BW := Below.refl W1.heap.size W1
    generalize R.length = nn at *
    clear HGr HX1 HX2 HDF hT hT1 c0 c1 c2 c3 P1 HT hV B1
    go_wp2
    try rw [hW1]
    clear hW1
    refine wp_region_held_drew (S := (fun W => Below W1.heap.size W1 W ∧ W.cell? ⟨w.heap.size, 0, none⟩ = some (.int .i64 a) ∧ W.cell? ⟨w.heap.size, 1, none⟩ = some (.int .i64 b) ∧ W.cell? ⟨w.heap.size + 1, 0, none⟩ = some (.int .i64 a) ∧ W.cell? ⟨w.heap.size + 1, 1, none⟩ = some (.int .i64 d) ∧ W.cell? ⟨w1.heap.size, 0, none⟩ = some (.int .i64 p) ∧ W.cell? ⟨w1.heap.size, 1, none⟩ = some (.int .i64 a))) (by kernel_rfl) ?_ (fun hHeld => ?_)
    · (try dsimp only); (refine ⟨?_, HCE.out _ ?_⟩ <;> (repeat (first | assumption | exact Below.refl _ _ | refine Below.drew ?_ | refine below_drewN ?_ _)))
    refine wpAnyH_take (i := 0) (oi := { dst := some 17, op := Go.Op.load 70 (Go.Operand.tmp 6), type := 70, pos := "l09_graphs.go:194", after := #[], guard := none }) (v := ?_) rfl (by kernel_rfl) (by kernel_rfl) (by kernel_rfl) (fun _ _ _ h => h) (Or.inl ⟨by rfl, ?_⟩) (by assumption) ?_
    rotate_left
    · (intro w hSw; (try dsimp only at hSw); go_simp); (try with_reducible rfl)
    try simp only [Act.put, List.setIfInBounds_toArray, List.set_cons_zero, List.set_cons_succ]
    refine wpAnyH_take (i := 2) (oi := { dst := some 19, op := Go.Op.load 25 (Go.Operand.tmp 2), type := 25, pos := "l09_graphs.go:194", after := #[], guard := none }) (v := ?_) rfl (by kernel_rfl) (by kernel_rfl) (by kernel_rfl) (fun _ _ _ h => h) (Or.inl ⟨by rfl, ?_⟩) (by assumption) ?_
    rotate_left
    · (intro w hSw; (try dsimp only at hSw); go_simp); (try with_reducible rfl)
    try simp only [Act.put, List.setIfInBounds_toArray, List.set_cons_zero, List.set_cons_succ]
    refine wpAnyH_take (i := 5) (oi := { dst := some 22, op := Go.Op.load 25 (Go.Operand.tmp 3), type := 25, pos := "l09_graphs.go:194", after := #[], guard := none }) (v := ?_) rfl (by kernel_rfl) (by kernel_rfl) (by kernel_rfl) (fun _ _ _ h => h) (Or.inl ⟨by rfl, ?_⟩) (by assumption) ?_
    rotate_left
    · (intro w hSw; (try dsimp only at hSw); go_simp); (try with_reducible rfl)
    try simp only [Act.put, List.setIfInBounds_toArray, List.set_cons_zero, List.set_cons_succ]
    refine wpAnyH_ready (rs := [1]) (by kernel_rfl) (by simp) ?_
    refine AllReadyH.cons (o := { dst := some 18, op := Go.Op.call { callee := Go.Callee.value (Go.Operand.func 48), args := #[Go.Operand.tmp 17], argTypes := #[70] }, type := 68, pos := "l09_graphs.go:194", after := #[{ on := 0, ground := Go.Ground.data }], guard := none }) rfl (fun K hK => ?_) AllReadyH.nil
    go_simp
    (refine (HG.out _ ?_).mono ?_); (repeat (first | assumption | exact Below.refl _ _ | refine Below.drew ?_ | refine below_drewN ?_ _)); rintro e w3 ⟨u, rfl, iG, b6⟩
    refine hK.out _ _ ?_ (fun hHeld2 => ?_)
    · (try dsimp only); (refine ⟨?_, HCE.out _ ?_⟩ <;> (repeat (first | assumption | exact Below.refl _ _ | refine Below.drew ?_ | refine below_drewN ?_ _)))
    clear hK K hHeld
    have hHeld := hHeld2
    clear hHeld2
    try simp only [Act.put, List.setIfInBounds_toArray, List.set_cons_zero, List.set_cons_succ]
    refine wpAnyH_ready (rs := [3]) (by kernel_rfl) (by simp) ?_
    refine AllReadyH.cons (o := { dst := some 20, op := Go.Op.call { callee := Go.Callee.value (Go.Operand.func 50), args := #[Go.Operand.tmp 19], argTypes := #[25] }, type := 2, pos := "l09_graphs.go:194", after := #[{ on := 2, ground := Go.Ground.data }, { on := 1, ground := Go.Ground.chain }], guard := none }) rfl (fun K hK => ?_) AllReadyH.nil
    go_simp
    (refine (HY1.out _ ?_).mono ?_); (repeat (first | assumption | exact Below.refl _ _ | refine Below.drew ?_ | refine below_drewN ?_ _)); rintro e w4 ⟨rfl, b8, b9⟩; replace iG := iG.imp fun B q => GraphIs.below q b9
    refine hK.out _ _ ?_ (fun hHeld2 => ?_)
    · (try dsimp only); (refine ⟨?_, HCE.out _ ?_⟩ <;> (repeat (first | assumption | exact Below.refl _ _ | refine Below.drew ?_ | refine below_drewN ?_ _)))
    clear hK K hHeld
    have hHeld := hHeld2
    clear hHeld2
    try simp only [Act.put, List.setIfInBounds_toArray, List.set_cons_zero, List.set_cons_succ]
    refine wpAnyH_ready (rs := [4]) (by kernel_rfl) (by simp) ?_
    refine AllReadyH.cons (o := { dst := some 21, op := Go.Op.call { callee := Go.Callee.value (Go.Operand.func 49), args := #[Go.Operand.tmp 18, Go.Operand.tmp 20], argTypes := #[68, 2] }, type := 28, pos := "l09_graphs.go:194", after := #[{ on := 1, ground := Go.Ground.data }, { on := 3, ground := Go.Ground.data }, { on := 3, ground := Go.Ground.chain }], guard := none }) rfl (fun K hK => ?_) AllReadyH.nil
    go_simp
    (refine (HI.out _ _ ?_ ?_).mono ?_); (exact iG); (repeat (first | assumption | exact Below.refl _ _ | refine Below.drew ?_ | refine below_drewN ?_ _)); rintro e w5 ⟨g, cap, rfl, iR, b7⟩
    refine hK.out _ _ ?_ (fun hHeld2 => ?_)
    · (try dsimp only); (refine ⟨?_, HCE.out _ ?_⟩ <;> (repeat (first | assumption | exact Below.refl _ _ | refine Below.drew ?_ | refine below_drewN ?_ _)))
    clear hK K hHeld
    have hHeld := hHeld2
    clear hHeld2
    try simp only [Act.put, List.setIfInBounds_toArray, List.set_cons_zero, List.set_cons_succ]
    refine wpAnyH_ready (rs := [6]) (by kernel_rfl) (by simp) ?_
    refine AllReadyH.cons (o := { dst := some 23, op := Go.Op.call { callee := Go.Callee.value (Go.Operand.func 50), args := #[Go.Operand.tmp 22], argTypes := #[25] }, type := 2, pos := "l09_graphs.go:194", after := #[{ on := 5, ground := Go.Ground.data }, { on := 4, ground := Go.Ground.chain }], guard := none }) rfl (fun K hK => ?_) AllReadyH.nil
    go_simp
    (refine (HY2.out _ ?_).mono ?_); (repeat (first | assumption | exact Below.refl _ _ | refine Below.drew ?_ | refine below_drewN ?_ _)); rintro e w6 ⟨rfl, b10, b11⟩; have cv := (Below.cell b11 (p := ⟨g, y, none⟩) iR.1).trans iR.2
    refine hK.out _ _ ?_ (fun hHeld2 => ?_)
    · (try dsimp only); (refine ⟨?_, HCE.out _ ?_⟩ <;> (repeat (first | assumption | exact Below.refl _ _ | refine Below.drew ?_ | refine below_drewN ?_ _)))
    clear hK K hHeld
    have hHeld := hHeld2
    clear hHeld2
    try simp only [Act.put, List.setIfInBounds_toArray, List.set_cons_zero, List.set_cons_succ]
    refine wpAnyH_take (i := 7) (oi := { dst := some 24, op := Go.Op.indexAddr 28 (Go.Operand.tmp 21) (Go.Operand.tmp 23), type := 0, pos := "l09_graphs.go:194", after := #[{ on := 4, ground := Go.Ground.data }, { on := 6, ground := Go.Ground.data }], guard := none }) (v := ?_) rfl (by kernel_rfl) (by kernel_rfl) (by kernel_rfl) (fun _ _ _ h => h) (Or.inl ⟨by rfl, ?_⟩) (by assumption) ?_
    rotate_left
    · (intro w hSw; (try dsimp only at hSw); go_simp); (try with_reducible rfl)
    try simp only [Act.put, List.setIfInBounds_toArray, List.set_cons_zero, List.set_cons_succ]
    refine wpAnyH_ready (rs := [8]) (by kernel_rfl) (by simp) ?_
    refine AllReadyH.cons (o := { dst := some 25, op := Go.Op.load 2 (Go.Operand.tmp 24), type := 2, pos := "l09_graphs.go:194", after := #[{ on := 7, ground := Go.Ground.data }], guard := none }) rfl (fun K hK => ?_) AllReadyH.nil
    go_simp
    refine hK.out _ _ ?_ (fun hHeld2 => ?_)
    · (try dsimp only); (refine ⟨?_, HCE.out _ ?_⟩ <;> (repeat (first | assumption | exact Below.refl _ _ | refine Below.drew ?_ | refine below_drewN ?_ _)))
    clear hK K hHeld
    have hHeld := hHeld2
    clear hHeld2
    try simp only [Act.put, List.setIfInBounds_toArray, List.set_cons_zero, List.set_cons_succ]
    refine wpAnyH_take (i := 9) (oi := { dst := some 4, op := Go.Op.assign (Go.Operand.tmp 25), type := 2, pos := "l09_graphs.go:194", after := #[{ on := 8, ground := Go.Ground.data }, { on := 6, ground := Go.Ground.chain }, { on := 0, ground := Go.Ground.phase }, { on := 1, ground := Go.Ground.phase }, { on := 2, ground := Go.Ground.phase }, { on := 3, ground := Go.Ground.phase }, { on := 4, ground := Go.Ground.phase }, { on := 5, ground := Go.Ground.phase }, { on := 6, ground := Go.Ground.phase }, { on := 7, ground := Go.Ground.phase }, { on := 8, ground := Go.Ground.phase }], guard := none }) (v := ?_) rfl (by kernel_rfl) (by kernel_rfl) (by kernel_rfl) (fun _ _ _ h => h) (Or.inl ⟨by rfl, ?_⟩) (by assumption) ?_
    rotate_left
    · (intro w hSw; (try dsimp only at hSw); go_simp); (try with_reducible rfl)
    try simp only [Act.put, List.setIfInBounds_toArray, List.set_cons_zero, List.set_cons_succ]
    refine wpAnyH_take (i := 10) (oi := { dst := some 5, op := Go.Op.assign (Go.Operand.const (Go.Value.int Go.IntKind.i64 0)), type := 2, pos := "l09_graphs.go:194", after := #[{ on := 9, ground := Go.Ground.chain }, { on := 0, ground := Go.Ground.phase }, { on := 1, ground := Go.Ground.phase }, { on := 2, ground := Go.Ground.phase }, { on := 3, ground := Go.Ground.phase }, { on := 4, ground := Go.Ground.phase }, { on := 5, ground := Go.Ground.phase }, { on := 6, ground := Go.Ground.phase }, { on := 7, ground := Go.Ground.phase }, { on := 8, ground := Go.Ground.phase }, { on := 9, ground := Go.Ground.phase }], guard := none }) (v := ?_) rfl (by kernel_rfl) (by kernel_rfl) (by kernel_rfl) (fun _ _ _ h => h) (Or.inl ⟨by rfl, ?_⟩) (by assumption) ?_
    rotate_left
    · (intro w hSw; (try dsimp only at hSw); go_simp); (try with_reducible rfl)
    try simp only [Act.put, List.setIfInBounds_toArray, List.set_cons_zero, List.set_cons_succ]
    refine wpAnyH_done (by kernel_rfl) ?_ _
    go_wp2
    go_ret2
    exact ⟨rfl, B2.trans (b10.mono B2.size)⟩
  · have hz' : (twoC h m k n != 0) = true := by simp [hz]
    unfold dstV
    rw [if_neg hz]
    simp only [if_neg hz] at HT
    generalize twoC h m k n = c at *
    go_enter Tryd.func15, Tryd.ntmps15
    go_wp2_with fail
    refine (HT.out _).mono ?_
    rintro e w1 ⟨rfl, b1⟩
    obtain ⟨c0, c1, c2, c3, _, b1⟩ := four_kept b1
    go_wp2
    go_ret2
    exact ⟨rfl, by first | exact b1 | exact bel_alGp b1 _⟩
end Go.Proofs.YtblllikenjofoaaDoor

/- The walk of the law FnExactDistance: it returns true. No conditions. -/
namespace Go.Proofs.YtblllikenjofoaaDoor
open Go.RowKit
set_option linter.unusedSimpArgs false
set_option linter.unusedVariables false

set_option maxRecDepth 10000 in
set_option maxHeartbeats 1000000 in
theorem walk_Distance (h0 m0 : Int) (h1 m1 : Int) (w : World) (h0a : -9223372036854775808 ≤ h0) (h0b : h0 ≤ 9223372036854775807) (m0a : -9223372036854775808 ≤ m0) (m0b : m0 ≤ 9223372036854775807) (h1a : -9223372036854775808 ≤ h1) (h1b : h1 ≤ 9223372036854775807) (m1a : -9223372036854775808 ≤ m1) (m1b : m1 ≤ 9223372036854775807) (hT : CtzTab w) :
    Calls Tryd.prog 8 #[.agg #[.int .i64 h0, .int .i64 m0], .agg #[.int .i64 h1, .int .i64 m1]] w fun e w' => e = .returned (.bool true) ∧ Below w.heap.size w w' := by
  have BB := Below.refl w.heap.size w
  have HS := fun W => distance_spec h0 m0 h1 m1 W
  have HI := fun W (hb : Below w.heap.size w W) => distance_impl h0 m0 h1 m1 W m0a m0b m1a m1b (hT.below hb)
  generalize dstV h0 m0 h1 m1 = ra at *
  generalize twoC h0 m0 h1 m1 = rc at *
  obtain ⟨W0, hW0⟩ : ∃ W0, ((w.alloc (.cells #[.int .i64 h0, .int .i64 m0] 45)).alloc (.cells #[.int .i64 h1, .int .i64 m1] 45)) = W0 := ⟨_, rfl⟩
  have B4 := four_kept (w := w) (x := .int .i64 h0) (y := .int .i64 m0) (u := .int .i64 h1) (v := .int .i64 m1) (T := 45) (T' := 45) (Below.refl _ _)
  rw [hW0] at B4
  obtain ⟨c0, c1, c2, c3, _, B0⟩ := B4
  have HCE := Lib.hid (fun W (hW : Below W0.heap.size W0 W) => show W.cell? ⟨w.heap.size, 0, none⟩ = some (.int .i64 h0) ∧ W.cell? ⟨w.heap.size, 1, none⟩ = some (.int .i64 m0) ∧ W.cell? ⟨w.heap.size + 1, 0, none⟩ = some (.int .i64 h1) ∧ W.cell? ⟨w.heap.size + 1, 1, none⟩ = some (.int .i64 m1) from
    ⟨(hW.cell (p := ⟨_, _, none⟩) (cell_block c0)).trans c0, (hW.cell (p := ⟨_, _, none⟩) (cell_block c1)).trans c1, (hW.cell (p := ⟨_, _, none⟩) (cell_block c2)).trans c2, (hW.cell (p := ⟨_, _, none⟩) (cell_block c3)).trans c3⟩)
  have HA := Lib.hid (fun W (hW : Below W0.heap.size W0 W) => (toState_any h0 m0 W).mono (R' := fun e w' => e = .returned (.agg #[.int .i64 h0, .int .i64 m0]) ∧ Below W0.heap.size W0 w') fun e w' q => ⟨q.1, hW.trans (q.2.mono hW.size)⟩)
  have HB := Lib.hid (fun W (hW : Below W0.heap.size W0 W) => (toState_any h1 m1 W).mono (R' := fun e w' => e = .returned (.agg #[.int .i64 h1, .int .i64 m1]) ∧ Below W0.heap.size W0 w') fun e w' q => ⟨q.1, hW.trans (q.2.mono hW.size)⟩)
  have HS1 := Lib.hid (fun W (hW : Below W0.heap.size W0 W) => (HS W).mono (R' := fun e w' => e = .returned (.tuple #[.int .i64 ra, .int .i64 rc]) ∧ Below W0.heap.size W0 w') fun e w' q => ⟨q.1, hW.trans (q.2.mono hW.size)⟩)
  have HI1 := Lib.hid (fun W (hW : Below W0.heap.size W0 W) => (HI W (B0.trans (hW.mono B0.size))).mono (R' := fun e w' => e = .returned (.tuple #[.int .i64 ra, .int .i64 rc]) ∧ Below W0.heap.size W0 w') fun e w' q => ⟨q.1, hW.trans (q.2.mono hW.size)⟩)
  have BW := Below.refl W0.heap.size W0
  clear HS HI c0 c1 c2 c3 hT
  go_enter Tryd.func8, Tryd.ntmps8
  go_wp2
  try rw [hW0]
  clear hW0
  go_region_held3 (fun W => Below W0.heap.size W0 W ∧ W.cell? ⟨w.heap.size, 0, none⟩ = some (.int .i64 h0) ∧ W.cell? ⟨w.heap.size, 1, none⟩ = some (.int .i64 m0) ∧ W.cell? ⟨w.heap.size + 1, 0, none⟩ = some (.int .i64 h1) ∧ W.cell? ⟨w.heap.size + 1, 1, none⟩ = some (.int .i64 m1)) (refine ⟨?_, HCE.out _ ?_⟩ <;> (repeat (first | assumption | exact Below.refl _ _ | refine Below.drew ?_ | refine below_drewN ?_ _))) (first | (go_at_call 28; (with_reducible refine (HA.out _ ?_).mono ?_); (repeat (first | assumption | exact Below.refl _ _ | refine Below.drew ?_ | refine below_drewN ?_ _)); rintro e x1 ⟨rfl, y1⟩) | (go_at_call 28; (with_reducible refine (HB.out _ ?_).mono ?_); (repeat (first | assumption | exact Below.refl _ _ | refine Below.drew ?_ | refine below_drewN ?_ _)); rintro e x2 ⟨rfl, y2⟩) | (go_at_call 34; (with_reducible refine (HS1.out _ ?_).mono ?_); (repeat (first | assumption | exact Below.refl _ _ | refine Below.drew ?_ | refine below_drewN ?_ _)); rintro e x3 ⟨rfl, y3⟩))
  all_goals go_wp2
  all_goals go_region_held3 (fun W => Below W0.heap.size W0 W ∧ W.cell? ⟨w.heap.size, 0, none⟩ = some (.int .i64 h0) ∧ W.cell? ⟨w.heap.size, 1, none⟩ = some (.int .i64 m0) ∧ W.cell? ⟨w.heap.size + 1, 0, none⟩ = some (.int .i64 h1) ∧ W.cell? ⟨w.heap.size + 1, 1, none⟩ = some (.int .i64 m1)) (refine ⟨?_, HCE.out _ ?_⟩ <;> (repeat (first | assumption | exact Below.refl _ _ | refine Below.drew ?_ | refine below_drewN ?_ _))) (first | (go_at_call 28; (with_reducible refine (HA.out _ ?_).mono ?_); (repeat (first | assumption | exact Below.refl _ _ | refine Below.drew ?_ | refine below_drewN ?_ _)); rintro e x4 ⟨rfl, y4⟩) | (go_at_call 28; (with_reducible refine (HB.out _ ?_).mono ?_); (repeat (first | assumption | exact Below.refl _ _ | refine Below.drew ?_ | refine below_drewN ?_ _)); rintro e x5 ⟨rfl, y5⟩) | (go_at_call 15; (with_reducible refine (HI1.out _ ?_).mono ?_); (repeat (first | assumption | exact Below.refl _ _ | refine Below.drew ?_ | refine below_drewN ?_ _)); rintro e x6 ⟨rfl, y6⟩))
  all_goals go_wp2
  all_goals go_ret
  all_goals exact ⟨rfl, B0.trans (y6.mono B0.size)⟩
end Go.Proofs.YtblllikenjofoaaDoor

namespace Go.Proofs.YtblllikenjofoaaDoor.fnExactDistance
open Go.ChangeShapes Go.WideShapes Go.ChangeAt Go.RowKit
open Go.ChangeMaps (open_string shut_string)
set_option linter.unusedVariables false

theorem own : ownKnob Tryd.prog.godebug = none := by kernel_rfl
theorem laidOut : laidOutB Tryd.prog = true := by kernel_rfl
theorem gTab : Tryd.prog.globalNamed "math/bits.deBruijn64tab" = some 0 := by kernel_rfl
theorem tTab : (Tryd.prog.globals[0]?).map (·.type) = some 133 := by kernel_rfl
theorem cellsE : Tryd.prog.cellsOf 5 = 1 := by kernel_rfl
theorem cellsT : Tryd.prog.cellsOf 133 = 64 := by kernel_rfl

theorem door_met (os : Os) (args : Array Value) : laidMetH Tryd.prog Rows.fnExactDistanceRow.laid ((World.doorLaid Tryd.prog 400 os).forCall (fun _ _ => 0) ⟨#[], args, []⟩).memory :=
  laidMetH_of_parts3 (fuel := 8) (laidMet_of_run' 8 (by kernel_rfl) (by kernel_rfl)) (by kernel_rfl) (by kernel_rfl)

theorem map_at (l : List Nat) (j : Nat) : (l.map Int.ofNat).getD j 0 = ((l.getD j 0 : Nat) : Int) := by
  simp only [List.getD, List.getElem?_map]
  cases l[j]? <;> rfl

theorem of_laid {W : World} (h : laidMetH Tryd.prog Rows.fnExactDistanceRow.laid W) : CtzTab W := by
  rw [MakeChecks.laidMetH_plain _ _ _ (by kernel_rfl)] at h
  obtain ⟨ps, ⟨g0, t0, cs0, f0, p0, q0, hg0, ht0, hv0, hd0, _, _⟩, _, _⟩ := h
  obtain rfl := Option.some.inj (gTab.symm.trans hg0)
  obtain rfl := Option.some.inj (tTab.symm.trans ht0)
  have e : (Rows.laid_math_bits_deBruijn64tab : DataW Unit) = Lib.tabData .u8 (Lib.deBruijn64tab.map Int.ofNat) := rfl
  rw [e] at hd0
  have ht : Lib.TabIs Tryd.prog W "math/bits.deBruijn64tab" .u8 (Lib.deBruijn64tab.map Int.ofNat) := by
    unfold Lib.TabIs
    rw [hv0, ← Lib.cells_of_tab Tryd.underlying133 Tryd.underlying5 cellsE cellsT hd0]
  intro j hj
  have := ht.cell gTab j (by simpa [Lib.deBruijn64tab] using hj)
  rw [this, map_at]

theorem walk (h0 m0 : Int) (h1 m1 : Int) (w : World) (ha0 : -9223372036854775808 ≤ h0) (hb0 : h0 ≤ 9223372036854775807) (ma0 : -9223372036854775808 ≤ m0) (mb0 : m0 ≤ 9223372036854775807) (ha1 : -9223372036854775808 ≤ h1) (hb1 : h1 ≤ 9223372036854775807) (ma1 : -9223372036854775808 ≤ m1) (mb1 : m1 ≤ 9223372036854775807) (hT : CtzTab w) :
    Calls Tryd.prog 8 #[.agg #[.int .i64 h0, .int .i64 m0], .agg #[.int .i64 h1, .int .i64 m1]] w fun e w' => e = .returned (.bool true) ∧ Below w.heap.size w w' :=
  walk_Distance h0 m0 h1 m1 w ha0 hb0 ma0 mb0 ha1 hb1 ma1 mb1 hT

set_option maxRecDepth 100000 in
theorem lifted (os : Os) (started : os.Started) (H : Type) (enc : TypeId × Value → H) :
    ReturnsInHanded {} Tryd.checked os 8 .any (fun w args => (Rows.fnExactDistanceSpec.pre enc Tryd.prog Tryd.f8 [] false w args ∧ laidMetH Tryd.prog Rows.fnExactDistanceRow.laid w) ∧ sizedMet enc Tryd.prog Tryd.f8 (OpenSpec.ofChange Rows.fnExactDistanceSpec) false w args)
      (Rows.fnExactDistanceSpec.post enc Tryd.prog Tryd.f8 false true false false) := by
  refine returnsInHanded_of_change_and (C := Tryd.checked) (X := fun w _ => laidMetH Tryd.prog Rows.fnExactDistanceRow.laid w) (fun _ _ _ hh h => h.of_heap hh) own started (by kernel_rfl) Tryd.func8
    (ChangeSpec.witness_shaped (enc := enc) (C := Tryd.checked) (os := os) (X := fun w _ => laidMetH Tryd.prog Rows.fnExactDistanceRow.laid w) false (World.doorLaid Tryd.prog 400 os) #[.agg #[.int .i64 0, .int .i64 0], .agg #[.int .i64 0, .int .i64 0]] 8 rfl (World.shaped_of_RefB (by kernel_rfl) (by kernel_rfl)) (by kernel_rfl) (by kernel_rfl) (by kernel_rfl) (door_met os _)) ?_
  intro W base args ds gs before hval0 hW _ _ hL _
  have hval : ∀ (j : Nat) t v, Tryd.f8.params[j]? = some t → args[j]? = some v → Value.okWide Tryd.prog W .any base t v := hval0
  have hW' := hW
  obtain ⟨p, q, hA0, hV, rfl, hfz, hnd⟩ := hW
  have hA : DataW.TrodAll enc Tryd.prog W 0 (fun _ => true) true Tryd.f8.params.toList args.toList ds p := hA0
  rw [Tryd.params8] at hA hval
  obtain ⟨v0, vs0, d0, ds0, p0, q0, hargs, rfl, rfl, h0, r0⟩ := trodAll_cons hA
  obtain ⟨v1, vs1, d1, ds1, p1, q1, rfl, rfl, rfl, h1, r1⟩ := trodAll_cons r0
  obtain ⟨rfl, rfl, rfl⟩ := trodAll_nil r1
  obtain rfl : args = #[v0, v1] := by cases args; simp_all
  obtain ⟨rfl, rfl⟩ := trodVars_none hV
  have k0 := h0
  have lt0 : ∀ x ∈ p0, x.block < W.heap.size := by obtain ⟨m, hm⟩ := k0; exact DataW.trod_lt m _ _ _ hm
  have k1 := h1
  have lt1 : ∀ x ∈ p1, x.block < W.heap.size := by obtain ⟨m, hm⟩ := k1; exact DataW.trod_lt m _ _ _ hm
  obtain ⟨h0', m0, rfl, wa0, wb0⟩ := open_state (hval 0 45 v0 rfl rfl) h0
  obtain ⟨h1', m1, rfl, wa1, wb1⟩ := open_state (hval 1 45 v1 rfl rfl) h1
  clear hA0 hval0
  refine (walk h0' m0 h1' m1 W wa0.1 wa0.2 wb0.1 wb0.2 wa1.1 wa1.2 wb1.1 wb1.2 (of_laid hL)).mono fun e W' ⟨he, bel⟩ => ?_
  subst he
  exact ⟨_, rfl, _, _, _, [], _, [], hW', trodAll_mk1 (shut_bool Tryd.underlying4 _), (trodAll_cons_mk (Below.trod laidOut (by kernel_rfl) (of_decide_eq_true (by kernel_rfl)) k0 bel lt0) (trodAll_cons_mk (Below.trod laidOut (by kernel_rfl) (of_decide_eq_true (by kernel_rfl)) k1 bel lt1) trodAll_mk0)), rfl, bel.frame _, fun h => by cases h⟩

theorem row_holds : Rows.FnExactDistanceSaid :=
  OpenClaim.holds_of_wide 8 Tryd.f8 rfl rfl rfl rfl rfl rfl rfl ⟨rfl, rfl, rfl, rfl, rfl⟩ rfl rfl rfl rfl rfl (by kernel_rfl) Tryd.func8 (by kernel_rfl)
    (of_decide_eq_true (by kernel_rfl)) (by unfold Func.isWrapper; first | (rw [if_pos (by decide +kernel)]; kernel_rfl) | (rw [if_neg (by decide +kernel)]; exact ⟨rfl, rfl⟩))
    (fun os started H enc _ => lifted os started H enc)

theorem proved : Rows.FnExactDistanceCardSaid :=
  Claim7.holds_tied_plain_at .later [] [.data] true Rows.fnExactDistanceCard.stood.harness Rows.fnExactDistanceCard.stood.looks
    row_holds (fun _ h => by cases h) (by kernel_rfl) (fun _ h => by cases h) fnExactDistance_row_tie rfl ⟨rfl, rfl⟩ (by kernel_rfl) rfl
    (fun f fn hf hfn => by
      obtain rfl : f = 8 := Option.some.inj ((show Tryd.prog.funcNamed "loop.example/g00927/laws.FnExactDistance" = some 8 by kernel_rfl).symm.trans hf) |>.symm
      obtain rfl : fn = Tryd.f8 := (Option.some.inj (Tryd.func8.symm.trans hfn)).symm
      exact ⟨by kernel_rfl, fun j t ht => by
        rw [Tryd.params8] at ht
        have hm : t ∈ [45, 45] := by simpa using Array.mem_of_getElem? ht
        have hall : ([45, 45].all fun u => !Tryd.prog.wantsStandIn u) = true := by kernel_rfl
        exact (show Tryd.prog.wantsStandIn t = false by simpa using List.all_eq_true.1 hall t hm)⟩)
    (by kernel_rfl)
#print axioms proved
end Go.Proofs.YtblllikenjofoaaDoor.fnExactDistance
