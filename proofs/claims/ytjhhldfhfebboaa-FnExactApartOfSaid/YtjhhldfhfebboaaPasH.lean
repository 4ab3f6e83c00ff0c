/- PassesOf, the model's, and both contracts. No conditions but sizes. -/
import Derived.Test.YtjhhldfhfebboaaPasD
import Derived.Deep.RegionHeld3
import Derived.Deep.DeepCutAuto
namespace Go.Proofs.Ytjhhldfhfebboaa
open Go.RowKit Go.Shelf
set_option linter.unusedSimpArgs false
set_option linter.unusedVariables false

theorem passL_hit {a : List Pt} {k : Nat} (h : (a.getD k p0).2 = true) : passL a (k + 1) = passL a k ++ [(k : Int)] := by
  simp only [passL, List.range_succ, List.filter_append, List.map_append]
  congr 1
  simp only [List.filter_cons, List.filter_nil, h, if_true, List.map_cons, List.map_nil]
theorem passL_miss {a : List Pt} {k : Nat} (h : (a.getD k p0).2 = false) : passL a (k + 1) = passL a k := by
  simp only [passL, List.range_succ, List.filter_append, List.map_append]
  simp only [List.filter_cons, List.filter_nil, h, Bool.false_eq_true, if_false, List.map_nil, List.append_nil]
theorem passL_len (a : List Pt) (k : Nat) : (passL a k).length ≤ k := by
  unfold passL
  rw [List.length_map]
  have := List.length_filter_le (fun i => (a.getD i p0).2) (List.range k)
  simpa using this

set_option maxRecDepth 10000 in
set_option maxHeartbeats 1000000 in
theorem l06Passes_any (g n cap B : Nat) (a : List Pt) (w : World) (h : Pas w B (.slice (some ⟨g, 0, none⟩) n cap) a) (hg : g < w.heap.size) (hn : n = a.length) (h8 : n ≤ 8) :
    Calls Try.prog 49 #[.slice (some ⟨g, 0, none⟩) n cap] w fun e w' => ∃ u, e = .returned u ∧ Ints w' w.heap.size u (passL a n) ∧ Below w.heap.size w w' := by
  have HC := Lib.hid (fun i (hi : i < n) => (h.twoP i (by omega)).2)
  have HM1 := Lib.hid (fun k => passL_hit (a := a) (k := k))
  have HM2 := Lib.hid (fun k => passL_miss (a := a) (k := k))
  have HML := Lib.hid (fun k => passL_len a k)
  have I0 : Ints (w.alloc (.cells #[] 2)) w.heap.size (.slice (some ⟨w.heap.size, 0, none⟩) 0 0) [] := by
    have := World.ownsRow_lit (e := 2) (size := 1) w #[] 0 (Nat.le_refl _) (by simp [maxLen]) rfl
    simpa [Ints] using this
  have B0 : Below w.heap.size w (w.alloc (.cells #[] 2)) := (Below.refl _ w).alloc (Nat.le_refl _) _
  clear h hn
  go_enter Try.func49, Try.ntmps49
  go_wp2
  go_loopw [3, 4] (fun v i wr => ∃ k : Nat, k ≤ n ∧ i = .int .i64 k ∧ Ints wr w.heap.size v (passL a k) ∧ Below w.heap.size w wr) (fun _ i _ => n - (intOf i).toNat)
  case atStart => exact ⟨0, Nat.zero_le _, rfl, I0, B0⟩
  case round =>
    clear I0 B0
    obtain ⟨k, hk, rfl, hi, hb⟩ := hrel
    by_cases hlt : k < n
    · have cc := (hb.cell (p := ⟨g, k * 2 + 1, none⟩) hg).trans (HC.out k hlt)
      have hlen := HML.out k
      have h1 := HM1.out k
      have h2 := HM2.out k
      have hBs := hb.size
      clear HC HM1 HM2 HML
      generalize (a.getD k p0).2 = r at *
      cases r with
      | true =>
        have HE := Lib.hid (h1 rfl)
        have hlen : (passL a k).length ≤ 1000000000 := by omega
        clear h1 h2
        go_wp2_with (at_builtin; refine append_int _ rfl _ _ rfl _ _ _ rfl hi (k : Int) rfl hlen hBs ?_; intro v' w2 hi2 hg2; refine Hid.out ?_)
        have hb2 := hi.below_grown hb hBs hg2
        rw [← HE.out] at hi2
        clear hg2 hi hb
        refine Lib.hid ?_
        go_wp2
        go_roundw
        case rel => exact ⟨k + 1, by omega, by go_num, hi2, hb2⟩
        case measure => simp [intOf]; omega
      | false =>
        have HE := Lib.hid (h2 rfl)
        clear h1 h2
        go_wp2
        go_roundw
        case rel => exact ⟨k + 1, by omega, by go_num, by rw [HE.out]; exact hi, hb⟩
        case measure => simp [intOf]; omega
    · obtain rfl : k = n := by omega
      clear HC HM1 HM2 HML
      go_wp2
      go_ret
      exact ⟨_, rfl, hi, hb⟩

/-- what PassesOf answers -/
def psA (a b : List Pt) : List Int := if okPas a b = true then passL a a.length else []
def psB (a b : List Pt) : List Int := if okPas a b = true then passL b a.length else []

/-- two lists of numbers, each in a row of its own from lo on, below hi -/
structure TwoI (w : World) (lo hi : Nat) (u v : Value) (xs ys : List Int) : Prop where
  fst : Ints w lo u xs
  snd : Ints w lo v ys
  fstU : Under hi u
  sndU : Under hi v
  apart : Apart u v
theorem TwoI.nil (w : World) (lo hi : Nat) : TwoI w lo hi (.slice none 0 0) (.slice none 0 0) [] [] :=
  ⟨Ints.nil _ _, Ints.nil _ _, fun g hg => by simp [Value.ownBlock] at hg, fun g hg => by simp [Value.ownBlock] at hg, fun g hg => by simp [Value.ownBlock] at hg⟩

set_option maxRecDepth 10000 in
set_option maxHeartbeats 1000000 in
theorem passesOf_spec (va vb : Value) (B C : Nat) (a b : List Pt) (w : World) (h : PasP w B C va vb a b) :
    Calls Try.prog 12 #[.agg #[va, vb]] w fun e w' => ∃ u v, e = .returned (.tuple #[u, v, .int .i64 (ppC a b)]) ∧ TwoI w' w.heap.size w'.heap.size u v (psA a b) (psB a b) ∧ Below w.heap.size w w' := by
  have b0 := (Below.refl w.heap.size w).alloc (Nat.le_refl _) (.cells #[va, vb] 31)
  have HO := l06Ok_any w.heap.size va vb B C a b (w.alloc (.cells #[va, vb] 31)) (h.below b0) (Blk.made w #[va, vb] _)
  cases ho : okPas a b with
  | false =>
    rw [ho] at HO
    rw [ppC_f ho, show psA a b = [] from if_neg (by rw [ho]; simp), show psB a b = [] from if_neg (by rw [ho]; simp)]
    clear h ho
    go_enter Try.func12, Try.ntmps12
    go_wp2_with fail
    refine HO.mono ?_
    rintro e w1 ⟨rfl, b1⟩
    clear HO
    go_wp2
    go_ret3
    exact ⟨_, _, rfl, TwoI.nil _ _ _, b0.trans (b1.mono b0.size)⟩
  | true =>
    rw [ho] at HO
    rw [ppC_t ho, show psA a b = passL a a.length from if_pos ho, show psB a b = passL b a.length from if_pos ho]
    have hL := okPas_L ho
    have hn := okPL_num hL
    obtain ⟨ga, ca, rfl, _, hga, _, _⟩ := h.fst.shape2 hn.1
    obtain ⟨gb, cb, rfl, _, hgb, _, _⟩ := h.snd.shape2 (by omega)
    have HA := Lib.hid (fun W (hW : Below w.heap.size w W) => l06Passes_any ga a.length ca B a W (h.fst.below hW) (by have := hW.size; omega) rfl (by omega))
    have HB := Lib.hid (fun W (hW : Below w.heap.size w W) => l06Passes_any gb b.length cb B b W (h.snd.below hW) (by have := hW.size; omega) rfl (by omega))
    have hlb : b.length = a.length := by omega
    rw [hlb] at HB HO b0 ⊢
    clear h ho hL hn hlb
    generalize a.length = n at *
    have P0 := Blk.made w #[.slice (some ⟨ga, 0, none⟩) n ca, .slice (some ⟨gb, 0, none⟩) n cb] 31
    generalize passL a n = LA at *
    generalize passL b n = LB at *
    go_enter Try.func12, Try.ntmps12
    go_wp2_with fail
    refine HO.mono ?_
    rintro e w1 ⟨rfl, b1⟩
    have P1 := P0.below b1 P0.lt
    have b1 := b0.trans (b1.mono b0.size)
    have hs1 := b1.size
    clear HO P0 b0
    have HCE := Lib.hid (fun W (hW : Below w1.heap.size w1 W) => show W.cell? ⟨w.heap.size, 0, none⟩ = some (.slice (some ⟨ga, 0, none⟩) n ca) ∧ W.cell? ⟨w.heap.size, 1, none⟩ = some (.slice (some ⟨gb, 0, none⟩) n cb) from
      ⟨(P1.below hW P1.lt).cell 0, (P1.below hW P1.lt).cell 1⟩)
    have BW := Below.refl w1.heap.size w1
    have HA1 := Lib.hid (fun W (hW : Below w1.heap.size w1 W) => (HA.out W (b1.trans (hW.mono hs1))).mono (R' := fun e w' => ∃ u, e = .returned u ∧ Ints w' W.heap.size u LA ∧ Below w1.heap.size w1 w' ∧ Below W.heap.size W w') fun e w' ⟨u, q1, q2, q3⟩ => ⟨u, q1, q2, hW.trans (q3.mono hW.size), q3⟩)
    have HB1 := Lib.hid (fun W (hW : Below w1.heap.size w1 W) => (HB.out W (b1.trans (hW.mono hs1))).mono (R' := fun e w' => ∃ u, e = .returned u ∧ Ints w' W.heap.size u LB ∧ Below w1.heap.size w1 w' ∧ Below W.heap.size W w') fun e w' ⟨u, q1, q2, q3⟩ => ⟨u, q1, q2, hW.trans (q3.mono hW.size), q3⟩)
    clear HA HB P1
    go_wp2
    go_region_held3 (fun W => Below w1.heap.size w1 W ∧ W.cell? ⟨w.heap.size, 0, none⟩ = some (.slice (some ⟨ga, 0, none⟩) n ca) ∧ W.cell? ⟨w.heap.size, 1, none⟩ = some (.slice (some ⟨gb, 0, none⟩) n cb)) (refine ⟨?_, HCE.out _ ?_⟩ <;> (repeat (first | assumption | exact Below.refl _ _ | refine Below.drew ?_ | refine below_drewN ?_ _))) (first | (go_at_call_of 49 (Value.slice (some ⟨ga, 0, none⟩) n ca); (with_reducible refine (HA1.out _ ?_).mono ?_); (repeat (first | assumption | exact Below.refl _ _ | refine Below.drew ?_)); rintro e w2 ⟨u, rfl, iA, b2, bA⟩) | (go_at_call_of 49 (Value.slice (some ⟨gb, 0, none⟩) n cb); (with_reducible refine (HB1.out _ ?_).mono ?_); (repeat (first | assumption | exact Below.refl _ _ | refine Below.drew ?_)); rintro e w3 ⟨v, rfl, iB, b3, bB⟩))
    all_goals go_wp2
    all_goals go_ret3
    all_goals exact ⟨_, _, rfl, ⟨(iA.below bB).mono hs1, iB.mono (by have := b2.size; omega), (iA.below bB).under, iB.under, fun g hg e => by have h1 := iA.under g hg; have h2 := iB.own_ge e; omega⟩, b1.trans (b3.mono hs1)⟩

set_option maxRecDepth 100000 in
theorem passesOf_bad (v : Value) (w : World)
    (hV : ∀ w', Below w.heap.size w w' → Calls Try.prog 45 #[v] w' fun e w'' => e = .returned (.bool false) ∧ Below w'.heap.size w' w'')
    (x y : Option Addr) (la ca lb cb : Nat) (hv : v = .agg #[.slice x la ca, .slice y lb cb]) :
    Calls Try.prog 14 #[v] w fun e w' => e = .returned (.tuple #[.slice none 0 0, .slice none 0 0, .int .i64 1]) ∧ Below w.heap.size w w' := by
  subst hv
  have b0 := (Below.refl w.heap.size w).alloc (Nat.le_refl _) (.cells #[.slice x la ca, .slice y lb cb] 31)
  have HL := Lib.hid hV
  clear hV
  go_enter Try.func14, Try.ntmps14
  go_wp2_with fail
  refine (HL.out _ b0).mono ?_
  rintro e w1 ⟨rfl, b1⟩
  clear HL
  go_wp2
  go_ret3
  exact ⟨by first | rfl | simp, b0.trans (b1.mono b0.size)⟩

theorem passesOf_impl (va vb : Value) (B C : Nat) (a b : List Pt) (w : World) (h : PasP w B C va vb a b) :
    Calls Try.prog 14 #[.agg #[va, vb]] w fun e w' => ∃ u v, e = .returned (.tuple #[u, v, .int .i64 (ppC a b)]) ∧ TwoI w' w.heap.size w'.heap.size u v (psA a b) (psB a b) ∧ Below w.heap.size w w' := by
  have hV := fun w' (hw : Below w.heap.size w w') => validPassing_impl va vb B C a b w' (h.below hw)
  cases ho : okPas a b with
  | false =>
    obtain ⟨x, c, rfl⟩ := h.fst.sl
    obtain ⟨y, d, rfl⟩ := h.snd.sl
    rw [ho] at hV
    rw [ppC_f ho, show psA a b = [] from if_neg (by rw [ho]; simp), show psB a b = [] from if_neg (by rw [ho]; simp)]
    exact (passesOf_bad _ w hV x y _ c _ d rfl).mono fun e w' q => ⟨_, _, q.1, TwoI.nil _ _ _, q.2⟩
  | true =>
    have hL := okPas_L ho
    have hn := okPL_num hL
    obtain ⟨ga, ca, rfl, _, hga, _, _⟩ := h.fst.shape2 hn.1
    obtain ⟨gb, cb, rfl, _, hgb, _, _⟩ := h.snd.shape2 (by omega)
    have hra := OwnK.readP h.fst hga
    have hrb := OwnK.readP h.snd hgb
    have hm : (mts a.length a b).all (fun x => okPt x.1) = true := by rw [← okPL_mem hn]; exact hL
    rw [ppC_t ho, show psA a b = passL a a.length from if_pos ho, show psB a b = passL b a.length from if_pos ho]
    rw [← hn.2.2] at hrb hV ⊢
    rw [ho] at hV
    exact (callsIn_wide.1 (passesOf_row ga gb ca cb a.length a b w hn.1 hn.2.1 hm hra hrb hV)).mono fun e w' ⟨u, v, q1, q2, q3, q4, q5⟩ => ⟨u, v, q1, ⟨q2, q3, q2.under, q3.under, q4⟩, q5⟩
end Go.Proofs.Ytjhhldfhfebboaa
