/- Multiplex, the program's: add, eachProp and count fill two maps with how many props are thrown and land at each beat; ValidMulti compares them. Conditions: beats of at most 10^7 throws. -/
import Derived.Test.YtgjmhihomklooaaIsBeat
import Derived.Maps.OwnSet
import Derived.Maps.OwnOps
namespace Go.Proofs.Ytgjmhihomklooaa
open Go.RowKit Go.Maps
set_option linter.unusedSimpArgs false
set_option linter.unusedVariables false

/-- block K is a map of the counts of xs, the next one of those of ys -/
def Two (w : World) (K n : Nat) (xs ys : List Int) : Prop :=
  w.ownsMap Try.prog 2 (plainElem Try.prog 2) K n (cntD (H := Unit) xs) ∧ w.ownsMap Try.prog 2 (plainElem Try.prog 2) (K + 1) n (cntD (H := Unit) ys)
theorem Two.keep {w w' : World} {K n : Nat} {xs ys : List Int} (h : Two w K n xs ys) (hb : Below w.heap.size w w') : Two w' K n xs ys := by
  have hg : w.grownBy w' none := ⟨hb.os, hb.tape, hb.output, hb.size, fun k hk _ => hb.block k hk⟩
  exact ⟨h.1.kept hg (by simp), h.2.kept hg (by simp)⟩

set_option maxRecDepth 10000 in
theorem add_any (K n : Nat) (xs ys : List Int) (t l : Int) (w : World) (h : Two w K n xs ys) (hn : n ≤ 100000) (hx : xs.length ≤ 100000) (hy : ys.length ≤ 100000) (ht : 0 ≤ t ∧ t ≤ 100000) (hl : 0 ≤ l ∧ l ≤ 100000) :
    Calls Try.prog 123 #[.agg #[.map (some K), .map (some (K + 1))], .int .i64 t, .int .i64 l] w fun e w' => e = .returned (.tuple #[]) ∧ Two w' K (n + 1) (xs ++ [t]) (ys ++ [l]) ∧ Within K (K + 2) w w' := by
  have k1 : keyOf Try.prog 2 (.int .i64 t) = some (.int .i64 t) := keyOf_int_mk Try.underlying2 (WalkArith.wf_i64 (by omega))
  have k2 : keyOf Try.prog 2 (.int .i64 l) = some (.int .i64 l) := keyOf_int_mk Try.underlying2 (WalkArith.wf_i64 (by omega))
  obtain ⟨h1, h2⟩ := h
  have a1 := cntD_at0 (H := Unit) xs t
  have a2 := cntD_at0 (H := Unit) ys l
  have s1 := cntD_snoc (H := Unit) xs t
  have s2 := cntD_snoc (H := Unit) ys l
  have c1 : xs.count t ≤ 100000 := Nat.le_trans List.count_le_length hx
  have c2 : ys.count l ≤ 100000 := Nat.le_trans List.count_le_length hy
  have hK := h1.lt
  have hK2 := h2.lt
  unfold Two
  rw [s1, s2]
  generalize (cntD xs : DataW Unit) = D1 at *
  generalize (cntD ys : DataW Unit) = D2 at *
  generalize xs.count t = cx at *
  generalize ys.count l = cy at *
  clear s1 s2 hx hy
  have A1 := Lib.hid a1
  have A2 := Lib.hid a2
  clear a1 a2
  have hb0 : Within K (K + 2) w (w.alloc (.cells #[.map (some K), .map (some (K + 1))] 91)) := Within.of_below ((Below.refl _ _).alloc (Nat.le_refl _) _) _ _
  go_enter Try.func123, Try.ntmps123
  go_wp2_with (at_lookup; refine wpList_lookup_own_int _ rfl _ _ 89 rfl 2 2 .i64 law64 Try.underlying89 Try.underlying2 (zero64 _) K n _ rfl (h1.alloc _) _ _ rfl k1 ?_; intro c hat hwc; refine Hid.out ?_)
  have hc : c = (cx : Int) := by
    have := hat.symm.trans A1.out
    simpa using this
  subst hc
  clear hat hwc A1
  refine Lib.hid ?_
  go_wp2_with (at_mapUpdate; refine wpList_mapUpdate_own _ rfl _ _ _ 89 rfl 2 2 law64 Try.underlying89 _ K n _ rfl (h1.alloc _) (by unfold maxLen; omega) _ _ _ rfl rfl k1 (.lit (.int .i64 ((cx : Int) + 1))) [] (plainElem_int Try.underlying2 (WalkArith.wf_i64 (by omega))) ?_; intro w1 hown1 hg1; refine Hid.out ?_)
  have hb1 := hb0.trans (Within.of_grown (B := K) (C := K + 2) hg1 (fun g e => by cases e; omega))
  have h21 := (h2.alloc (.cells #[.map (some K), .map (some (K + 1))] 91)).kept hg1 (by simp)
  have hcell : w1.cell? ⟨w.heap.size, 1, none⟩ = some (.map (some (K + 1))) := by
    have e1 : w1.heap[w.heap.size]? = (w.alloc (.cells #[.map (some K), .map (some (K + 1))] 91)).heap[w.heap.size]? := hg1.block _ (by simp) (by simp; omega)
    have e0 : (w.alloc (.cells #[.map (some K), .map (some (K + 1))] 91)).heap[w.heap.size]? = some (.cells #[.map (some K), .map (some (K + 1))] 91) := by show (w.heap.push _)[w.heap.size]? = _; exact Array.getElem?_push_size
    rw [e0] at e1
    simp [World.cell?, e1]
  clear hg1 hb0 h1 h2
  refine Lib.hid ?_
  go_wp2_with (at_lookup; refine wpList_lookup_own_int _ rfl _ _ 89 rfl 2 2 .i64 law64 Try.underlying89 Try.underlying2 (zero64 _) (K + 1) n _ rfl h21 _ _ rfl k2 ?_; intro c hat hwc; refine Hid.out ?_)
  have hc : c = (cy : Int) := by
    have := hat.symm.trans A2.out
    simpa using this
  subst hc
  clear hat hwc A2
  refine Lib.hid ?_
  go_wp2_with (at_mapUpdate; refine wpList_mapUpdate_own _ rfl _ _ _ 89 rfl 2 2 law64 Try.underlying89 _ (K + 1) n _ rfl h21 (by unfold maxLen; omega) _ _ _ rfl rfl k2 (.lit (.int .i64 ((cy : Int) + 1))) [] (plainElem_int Try.underlying2 (WalkArith.wf_i64 (by omega))) ?_; intro w2 hown2 hg2; refine Hid.out ?_)
  have hb2 := hb1.trans (Within.of_grown (B := K) (C := K + 2) hg2 (fun g e => by cases e; omega))
  have h12 := hown1.kept hg2 (by simp)
  clear hg2 hb1 h21 hown1
  refine Lib.hid ?_
  go_wp2
  go_end0
  exact ⟨rfl, ⟨h12, hown2⟩, hb2⟩
theorem Within.cell {B C : Nat} {w w' : World} (h : Within B C w w') {p : Addr} (hp : p.block < B) (hl : p.block < w.heap.size) : w'.cell? p = w.cell? p := by
  have := h.block p.block hl (.inl hp)
  simp only [World.cell?, this]

/-- the two maps of a list of props -/
def TwoP (w : World) (K : Nat) (ps : List (Int × Int)) : Prop := Two w K ps.length (ps.map Prod.fst) (ps.map Prod.snd)
theorem TwoP.snoc {w : World} {K : Nat} {ps : List (Int × Int)} {t l : Int} (h : Two w K (ps.length + 1) (ps.map Prod.fst ++ [t]) (ps.map Prod.snd ++ [l])) : TwoP w K (ps ++ [(t, l)]) := by
  unfold TwoP
  simpa using h

set_option maxRecDepth 10000 in
set_option maxHeartbeats 1000000 in
theorem eachProp_row (g cap n K : Nat) (pss : List (List Int)) (w : World) (hn : n = pss.length) (hn2 : n ≤ 12) (hg : g < K) (hK : K < w.heap.size) (h : TwoP w K [])
    (hrow : ∀ i, i < n → ∃ gb cb m, m = (pss.getD i []).length ∧ m ≤ 4 ∧ w.cell? ⟨g, i, none⟩ = some (.slice (some ⟨gb, 0, none⟩) m cb) ∧ gb < K ∧ ∀ k, k < m → w.cell? ⟨gb, k, none⟩ = some (.int .i64 ((pss.getD i []).getD k 0)) ∧ 0 ≤ (pss.getD i []).getD k 0 ∧ (pss.getD i []).getD k 0 ≤ 15) :
    Calls Try.prog 122 #[.slice (some ⟨g, 0, none⟩) n cap, .func (.func 123) #[.agg #[.map (some K), .map (some (K + 1))]] #[]] w fun e w' =>
      e = .returned (.tuple #[]) ∧ TwoP w' K (propsTo pss n) ∧ Within K (K + 2) w w' := by
  have HLEN := Lib.hid (fun k (hk : k ≤ n) => propsTo_len (pss := pss) (m := 4) (fun i hi => by
    obtain ⟨gb, cb, m, h1, h2, _⟩ := hrow i (by omega)
    omega) k (by omega))
  have HST : Hid (∀ k, propsTo pss (k + 1) = propsTo pss k ++ propsR n k (pss.getD k [])) := fun k => by rw [hn]; rfl
  have HROW := Lib.hid hrow
  clear hrow hn
  go_enter Try.func122, Try.ntmps122
  go_wp2
  go_loopw [10] (fun i wr => ∃ k : Nat, k ≤ n ∧ i = .int .i64 k ∧ TwoP wr K (propsTo pss k) ∧ Within K (K + 2) w wr) (fun i _ => n - (intOf i).toNat)
  case atStart => exact ⟨0, Nat.zero_le _, rfl, h, Within.refl _ _ _⟩
  case round =>
    obtain ⟨i, hi, rfl, ht, hb⟩ := hrel
    by_cases hlt : i < n
    · obtain ⟨gb, cb, m, hm, hm4, hc, hgb, hx⟩ := HROW.out i hlt
      have hc1 : wr.cell? ⟨g, i, none⟩ = some (.slice (some ⟨gb, 0, none⟩) m cb) := (hb.cell (p := ⟨g, i, none⟩) hg (by show g < w.heap.size; omega)).trans hc
      have hs := HST.out i
      have hl := HLEN.out i hi
      generalize propsTo pss i = ps at *
      have HS := Lib.hid hs
      clear hs
      generalize pss.getD i [] = b at *
      have HX := Lib.hid hx
      have HM := Lib.hid hm
      have h0 : ps ++ propsR n i (b.take 0) = ps := by rw [List.take_zero, propsR_nil, List.append_nil]
      have HZ := Lib.hid h0
      clear hx hc hm h0
      go_wp2
      go_loopw [17] (fun c wr => ∃ k : Nat, k ≤ m ∧ c = .int .i64 k ∧ TwoP wr K (ps ++ propsR n i (b.take k)) ∧ Within K (K + 2) w wr) (fun c _ => m - (intOf c).toNat)
      case atStart => exact ⟨0, Nat.zero_le _, rfl, by rw [HZ.out]; exact ht, hb⟩
      case round =>
        obtain ⟨k, hk, rfl, htk, hbk⟩ := hrel
        by_cases hkm : k < m
        · obtain ⟨hx1, hx2, hx3⟩ := HX.out k hkm
          have hcx : wr.cell? ⟨gb, k, none⟩ = some (.int .i64 (b.getD k 0)) := (hbk.cell (p := ⟨gb, k, none⟩) hgb (by show gb < w.heap.size; omega)).trans hx1
          have hst := propsR_take n i (b := b) k (by rw [← HM.out]; exact hkm)
          obtain ⟨q', hq'⟩ : ∃ q', propsR n i (b.take (k + 1)) = q' := ⟨_, rfl⟩
          rw [hq'] at hst
          have HQ := Lib.hid hq'
          clear hq'
          have hlk := propsR_len n i (b.take k)
          have hlk2 : (b.take k).length ≤ 4 := by simp; omega
          generalize propsR n i (b.take k) = q at *
          generalize b.getD k 0 = x at *
          by_cases hx0 : x = 0
          · rw [if_pos hx0, List.append_nil] at hst
            subst hx0
            have HST2 := Lib.hid hst
            clear hst hx1
            go_wp2
            go_roundw
            case rel => exact ⟨k + 1, by omega, by go_num, by rw [HQ.out, HST2.out]; exact htk, hbk⟩
            case measure => simp [intOf]; omega
          · rw [if_neg hx0] at hst
            have hx0' : (x == 0) = false := by simpa using hx0
            have HST2 := Lib.hid hst
            have e0 := Int.emod_nonneg ((i : Int) + x) (show (n : Int) ≠ 0 by omega)
            have e1 := Int.emod_lt_of_pos ((i : Int) + x) (show 0 < (n : Int) by omega)
            have hps : (ps ++ q).length ≤ 100000 := by rw [List.length_append]; omega
            have HM2 := modulo_any ((i : Int) + x) (n : Int) wr (by omega) (by omega) (by omega) (by omega)
            have HA := add_any K (ps ++ q).length ((ps ++ q).map Prod.fst) ((ps ++ q).map Prod.snd) (i : Int) (((i : Int) + x) % (n : Int)) wr htk hps (by simpa using hps) (by simpa using hps) (by omega) (by omega)
            generalize ((i : Int) + x) % (n : Int) = y at *
            clear hst hx1 hps
            go_wp2_with fail
            refine HM2.mono ?_
            rintro e w' ⟨rfl, rfl⟩
            clear HM2
            go_wp2_with fail
            refine HA.mono ?_
            rintro e w1 ⟨rfl, t1, b1⟩
            have b2 := hbk.trans b1
            have t2 : TwoP w1 K (ps ++ q') := by
              rw [HST2.out, ← List.append_assoc]
              exact TwoP.snoc t1
            clear HA t1 b1 htk hbk
            go_wp2
            go_roundw
            case rel => exact ⟨k + 1, by omega, by go_num, by rw [HQ.out]; exact t2, b2⟩
            case measure => simp [intOf]; omega
        · obtain rfl : k = m := by omega
          have ht2 : TwoP wr K (propsTo pss (i + 1)) := by
            rw [HS.out]
            rw [HM.out, List.take_length] at htk
            exact htk
          clear htk
          go_wp2
          go_roundw
          case rel => exact ⟨i + 1, by omega, by go_num, ht2, hbk⟩
          case measure => simp [intOf]; omega
    · obtain rfl : i = n := by omega
      go_wp2
      go_end0
      exact ⟨rfl, ht, hb⟩
end Go.Proofs.Ytgjmhihomklooaa
