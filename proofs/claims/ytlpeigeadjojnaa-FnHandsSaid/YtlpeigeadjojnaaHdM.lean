/- IsAmbidextrous: what it answers, and the model's. No conditions. -/
import Derived.Test.YtlpeigeadjojnaaHdX
import Derived.Test.YtlpeigeadjojnaaRot
import Derived.Test.YtlpeigeadjojnaaSame
namespace Go.Proofs.Ytlpeigeadjojnaa
open Go.RowKit
set_option linter.unusedSimpArgs false
set_option linter.unusedVariables false

theorem list_extH {p q : List Int} (hl : p.length = q.length) (h : ∀ i, i < p.length → p.getD i 0 = q.getD i 0) : p = q := by
  apply List.ext_getElem hl
  intro i h1 h2
  have := h i h1
  simpa [h1, h2] using this
/-- the values that a hand throws at its beats among the first k -/
def vlK (p o : List Int) (h : Int) : Nat → List Int
  | 0 => []
  | k + 1 => if atL o (k : Int) = h then vlK p o h k ++ [atL p (k : Int)] else vlK p o h k
theorem vlK_yes {p o : List Int} {h : Int} {k : Nat} (e : atL o (k : Int) = h) : vlK p o h (k + 1) = vlK p o h k ++ [atL p (k : Int)] := by rw [vlK, if_pos e]
theorem vlK_no {p o : List Int} {h : Int} {k : Nat} (e : ¬ atL o (k : Int) = h) : vlK p o h (k + 1) = vlK p o h k := by rw [vlK, if_neg e]
theorem vlK_len (p o : List Int) (h : Int) : ∀ k, (vlK p o h k).length ≤ k
  | 0 => by simp [vlK]
  | k + 1 => by
    have := vlK_len p o h k
    by_cases e : atL o (k : Int) = h
    · rw [vlK_yes e]; simp; omega
    · rw [vlK_no e]; omega
theorem vlK_mono (p o : List Int) (h : Int) {j : Nat} : ∀ {k : Nat}, j ≤ k → (vlK p o h j).length ≤ (vlK p o h k).length
  | 0, hj => by obtain rfl : j = 0 := by omega
                exact Nat.le_refl _
  | k + 1, hj => by
    by_cases e : j = k + 1
    · subst e; exact Nat.le_refl _
    · have := vlK_mono p o h (j := j) (k := k) (by omega)
      by_cases e2 : atL o (k : Int) = h
      · rw [vlK_yes e2]; simp; omega
      · rw [vlK_no e2]; exact this
def vlH (p o : List Int) (h : Int) : List Int := vlK p o h (cpN p o)
theorem vlH_pos {p o : List Int} (hq : okPO p o = true) (h : Int) (h0 : 0 ≤ h) (h1 : h < cntH o) : 1 ≤ (vlH p o h).length := by
  obtain ⟨hp, ho⟩ := okPO_parts hq
  obtain ⟨k, hk, he⟩ := okH_has ho h h0 h1
  have lp := okPat_len hp
  have lo := okH_len ho
  have hc : o.length ≤ cpN p o := Nat.le_of_dvd (Nat.lcm_pos (by omega) (by omega)) (Nat.dvd_lcm_right _ _)
  have e : atL o (k : Int) = h := by
    rw [← he]
    unfold atL
    rw [Int.emod_eq_of_lt (by omega) (by omega), Int.toNat_natCast]
  have h2 := vlK_mono p o h (j := k + 1) (k := cpN p o) (by omega)
  rw [vlK_yes e] at h2
  unfold vlH
  simp at h2
  omega
/-- a list is another one that begins later -/
def trnB (a b : List Int) : Bool := decide (a.length = b.length) && (List.range a.length).any fun s => decide (rotL a (s : Int) = b)
theorem trnB_len {a b : List Int} (h : ¬ a.length = b.length) : trnB a b = false := by rw [trnB, decide_eq_false h, Bool.false_and]
theorem trnB_yes {a b : List Int} (s : Nat) (h : s < a.length) (e : rotL a (s : Int) = b) : trnB a b = true := by
  have hl : a.length = b.length := by rw [← e, rotL_len]
  rw [trnB, decide_eq_true hl, Bool.true_and, List.any_eq_true]
  exact ⟨s, List.mem_range.2 h, decide_eq_true e⟩
theorem trnB_no {a b : List Int} (h : ∀ s, s < a.length → ¬ rotL a (s : Int) = b) : trnB a b = false := by
  rw [← Bool.not_eq_true]
  intro ht
  rw [trnB, Bool.and_eq_true, List.any_eq_true] at ht
  obtain ⟨_, s, hs, e⟩ := ht
  exact h s (List.mem_range.1 hs) (of_decide_eq_true e)
theorem trnB_self {a : List Int} (h : 1 ≤ a.length) : trnB a a = true := by
  refine trnB_yes 0 (by omega) (list_extH (rotL_len _ _) fun i hi => ?_)
  rw [rotL_len] at hi
  rw [rotL_getD a _ i hi]
  unfold atL
  rw [show ((i : Int) + ((0 : Nat) : Int)) % (a.length : Int) = (i : Int) by rw [show ((i : Int) + ((0 : Nat) : Int)) = (i : Int) by simp, Int.emod_eq_of_lt (by omega) (by omega)], Int.toNat_natCast]
/-- the first i elements are those of a list that begins later -/
def eqK (a b : List Int) (s i : Nat) : Bool := (List.range i).all fun j => atL a ((j : Int) + (s : Int)) == b.getD j 0
theorem eqK_zero (a b : List Int) (s : Nat) : eqK a b s 0 = true := rfl
theorem eqK_step (a b : List Int) (s i : Nat) : eqK a b s (i + 1) = (eqK a b s i && (atL a ((i : Int) + (s : Int)) == b.getD i 0)) := by simp [eqK, List.range_succ, List.all_append]
theorem eqK_all {a b : List Int} (s : Nat) (hl : a.length = b.length) : eqK a b s a.length = decide (rotL a (s : Int) = b) := by
  rw [Bool.eq_iff_iff, decide_eq_true_eq, eqK, List.all_eq_true]
  constructor
  · intro h
    refine list_extH (by rw [rotL_len]; exact hl) fun i hi => ?_
    rw [rotL_len] at hi
    rw [rotL_getD a _ i hi]
    have := h i (List.mem_range.2 hi)
    simpa using this
  · intro h i hi
    have hi := List.mem_range.1 hi
    rw [← h, rotL_getD a _ i hi]
    simp
def ambA (p o : List Int) : Bool := okPO p o && (List.range (cntH o).toNat).all fun h => trnB (vlH p o 0) (vlH p o (h : Int))
theorem ambA_false {p o : List Int} (h : okPO p o = false) : ambA p o = false := by rw [ambA, h, Bool.false_and]
theorem ambA_no {p o : List Int} (k : Nat) (hk : (k : Int) < cntH o) (h : trnB (vlH p o 0) (vlH p o (k : Int)) = false) : ambA p o = false := by
  rw [← Bool.not_eq_true]
  intro ht
  rw [ambA, Bool.and_eq_true, List.all_eq_true] at ht
  have := ht.2 k (List.mem_range.2 (by omega))
  rw [h] at this
  cases this
theorem ambA_yes {p o : List Int} (hq : okPO p o = true) (h : ∀ k : Nat, (k : Int) < cntH o → trnB (vlH p o 0) (vlH p o (k : Int)) = true) : ambA p o = true := by
  rw [ambA, hq, Bool.true_and, List.all_eq_true]
  intro k hk
  exact h k (by have := List.mem_range.1 hk; omega)

set_option maxRecDepth 10000 in
set_option maxHeartbeats 1000000 in
theorem l14Values_any (v u : Value) (B C : Nat) (p o : List Int) (hd : Int) (w : World) (h : Ints w B v p) (k : Ints w C u o) (hq : okPO p o = true) :
    Calls Try.prog 51 #[v, u, .int .i64 hd] w fun e w' => ∃ x, e = .returned x ∧ Ints w' w.heap.size x (vlH p o hd) ∧ Below w.heap.size w w' := by
  obtain ⟨hp, ho⟩ := okPO_parts hq
  obtain ⟨lp1, lp2⟩ := okPat_len hp
  obtain ⟨lo1, lo2⟩ := okH_len ho
  obtain ⟨cp1, cp2⟩ := cpN_bound hq
  have HCP := Lib.hid (fun W (hW : Below w.heap.size w W) => l14Common_any v u B C p o W (h.below hW) (k.below hW) lp1 lp2 lo1 lo2)
  have HAT := Lib.hid (fun (b : Int) W (hW : Below w.heap.size w W) (h1 : 0 ≤ b) (h2 : b ≤ 1000) => l02At_any v B p b W (h.below hW) lp1 (by omega) (by omega) (by omega))
  have HHA := Lib.hid (fun (b : Int) W (hW : Below w.heap.size w W) (h1 : 0 ≤ b) (h2 : b ≤ 1000) => l14At_any u C o b W (k.below hW) lo1 (by omega) (by omega) (by omega))
  have HY := Lib.hid (fun (k : Nat) (e : atL o (k : Int) = hd) => vlK_yes (p := p) e)
  have HNO := Lib.hid (fun (k : Nat) (e : ¬ atL o (k : Int) = hd) => vlK_no (p := p) e)
  have HL := Lib.hid (fun k => vlK_len p o hd k)
  have HE : Hid (vlK p o hd (cpN p o) = vlH p o hd) := Lib.hid rfl
  obtain ⟨va, vc, rfl⟩ := ints_slH h
  obtain ⟨ua, uc, rfl⟩ := ints_slH k
  clear h k hq hp ho lp1 lp2 lo1 lo2
  generalize cpN p o = n at *
  have hE : Ints (w.alloc (.cells #[] 2)) w.heap.size (.slice (some ⟨w.heap.size, 0, none⟩) 0 0) (vlK p o hd 0) := World.ownsRow_lit w #[] 0 (Nat.le_refl _) (by simp [maxLen]) rfl
  have BE : Below w.heap.size w (w.alloc (.cells #[] 2)) := (Below.refl _ _).alloc (Nat.le_refl _) _
  go_enter Try.func51, Try.ntmps51
  go_wp2
  go_loopw [7, 8] (fun x i wr => ∃ k : Nat, k ≤ n ∧ i = .int .i64 k ∧ Ints wr w.heap.size x (vlK p o hd k) ∧ Below w.heap.size w wr) (fun _ i _ => n - (intOf i).toNat)
  case atStart => exact ⟨0, Nat.zero_le _, rfl, hE, BE⟩
  case round =>
    obtain ⟨k, hk, rfl, hi, hb⟩ := hrel
    clear hE BE
    have HC := HCP.out wr hb
    by_cases hlt : k < n
    · have HA := HAT.out (k : Int) wr hb (by omega) (by omega)
      have H1 := HHA.out (k : Int) wr hb (by omega) (by omega)
      have hl := HL.out k
      by_cases h0 : atL o (k : Int) = hd
      · have hst := Lib.hid (HY.out k h0)
        have hbs := hb.size
        rw [h0] at H1
        clear HCP HAT HHA HY HNO HL h0
        generalize atL p (k : Int) = t at *
        go_wp2_with fail
        refine HC.mono ?_
        rintro e w1 ⟨rfl, rfl⟩
        go_wp2_with fail
        refine H1.mono ?_
        rintro e w1 ⟨rfl, rfl⟩
        go_wp2_with fail
        refine HA.mono ?_
        rintro e w1 ⟨rfl, rfl⟩
        clear HC HA H1
        go_wp2_with (at_builtin; refine append_int _ rfl _ _ rfl _ _ _ rfl hi t rfl (by omega) hbs ?_; intro v' w3 hi3 hg3; refine Hid.out ?_)
        have hb3 := hi.below_grown hb hbs hg3
        rw [← hst.out] at hi3
        clear hg3 hi hb
        refine Lib.hid ?_
        go_wp2
        go_roundw
        case rel => exact ⟨k + 1, by omega, by go_num, hi3, hb3⟩
        case measure => simp [intOf]; omega
      · have hst := Lib.hid (HNO.out k h0)
        have hne : (atL o (k : Int) == hd) = false := by simpa using h0
        clear HCP HAT HHA HY HNO HL h0 HA
        generalize atL o (k : Int) = t at *
        go_wp2_with fail
        refine HC.mono ?_
        rintro e w1 ⟨rfl, rfl⟩
        go_wp2_with fail
        refine H1.mono ?_
        rintro e w1 ⟨rfl, rfl⟩
        go_wp2
        go_roundw
        case rel => exact ⟨k + 1, by omega, by go_num, by rw [hst.out]; exact hi, hb⟩
        case measure => simp [intOf]; omega
    · obtain rfl : k = n := by omega
      clear HCP HAT HHA HY HNO HL
      go_wp2_with fail
      refine HC.mono ?_
      rintro e w1 ⟨rfl, rfl⟩
      rw [HE.out] at hi
      go_wp2
      go_ret
      exact ⟨_, rfl, hi, hb⟩

set_option maxRecDepth 10000 in
set_option maxHeartbeats 2000000 in
theorem l14Turned_any (v u : Value) (B C : Nat) (a b : List Int) (w : World) (h : Ints w B v a) (k : Ints w C u b) (h1 : 1 ≤ a.length) (h2 : a.length ≤ 1000) (h3 : b.length ≤ 1000) :
    Calls Try.prog 53 #[v, u] w fun e w' => e = .returned (.bool (trnB a b)) ∧ Below w.heap.size w w' := by
  obtain ⟨g, cap, rfl, _, hg, _, _⟩ := h.shape2 h1
  by_cases hl : a.length = b.length
  · obtain ⟨g2, cap2, rfl, _, hg2, _, _⟩ := k.shape2 (by omega)
    have HA := Lib.hid (fun W (hW : Below w.heap.size w W) j (hj : j < a.length) => (h.below hW).cell j hj)
    have HB := Lib.hid (fun W (hW : Below w.heap.size w W) j (hj : j < a.length) => (k.below hW).cell j (by omega))
    have HAT := Lib.hid (fun (j : Nat) => show a.getD ((j : Int) % (a.length : Int)).toNat 0 = atL a (j : Int) from rfl)
    have HM := Lib.hid (fun (j : Nat) => show ∃ i : Nat, i < a.length ∧ ((j : Int) % (a.length : Int)) = (i : Int) from by
      have e0 := Int.emod_nonneg (j : Int) (show (a.length : Int) ≠ 0 by omega)
      have e1 := Int.emod_lt_of_pos (j : Int) (show 0 < (a.length : Int) by omega)
      exact ⟨((j : Int) % (a.length : Int)).toNat, by omega, by omega⟩)
    have HS := Lib.hid (fun s i => eqK_step a b s i)
    have HALL := Lib.hid (fun s => eqK_all (a := a) (b := b) s hl)
    have HY := Lib.hid (fun s (hs : s < a.length) (e : decide (rotL a (s : Int) = b) = true) => trnB_yes s hs (of_decide_eq_true e))
    have HNO := Lib.hid (fun (e : ∀ s, s < a.length → decide (rotL a (s : Int) = b) = false) => trnB_no (a := a) (b := b) fun s hs => of_decide_eq_false (e s hs))
    rw [← hl]
    clear h k h3 hl
    generalize hn : a.length = n at *
    clear hn
    go_enter Try.func53, Try.ntmps53
    go_wp2
    go_loopw [6, 7, 8] (fun s _ _ wr => ∃ k : Nat, k ≤ n ∧ s = .int .i64 k ∧ Hid (∀ j, j < k → decide (rotL a (j : Int) = b) = false) ∧ Below w.heap.size w wr) (fun s _ _ _ => n - (intOf s).toNat)
    case atStart => exact ⟨0, Nat.zero_le _, rfl, Lib.hid fun j hj => by omega, Below.refl _ _⟩
    case round =>
      obtain ⟨s, hs, rfl, hno, hb⟩ := hrel
      by_cases hlt : s < n
      · go_wp2
        go_loopw [7, 8] (fun t i wx => ∃ i' : Nat, i' ≤ n ∧ i = .int .i64 i' ∧ t = .bool (eqK a b s i') ∧ Below w.heap.size w wx) (fun _ i _ => n - (intOf i).toNat)
        case atStart => exact ⟨0, Nat.zero_le _, rfl, rfl, hb⟩
        case round =>
          obtain ⟨i, hi, rfl, rfl, hbx⟩ := hrel
          by_cases hlt2 : i < n
          · have hst := HS.out s i
            cases hq : eqK a b s i with
            | false =>
              rw [hq, Bool.false_and] at hst
              have HST := Lib.hid hst
              clear HA HB HAT HM HS HALL HY HNO hst hno hq hb
              go_wp2
              go_quiet (fail)
              go_wp2
              go_roundw
              case rel => exact ⟨i + 1, by omega, by go_num, by rw [HST.out]; first | done | rfl, below_drewN hbx _⟩
              case measure => simp [intOf]; omega
            | true =>
              rw [hq, Bool.true_and] at hst
              obtain ⟨m, hm1, hm2⟩ := HM.out (i + s)
              have hat := HAT.out (i + s)
              rw [hm2, Int.toNat_natCast] at hat
              have ca := HA.out wr hbx m hm1
              have cb := HB.out wr hbx i hlt2
              rw [hat] at ca
              have hm3 : ((i : Int) + (s : Int)) % (n : Int) = (m : Int) := by rw [← hm2]; congr 1
              rw [show ((i + s : Nat) : Int) = (i : Int) + (s : Int) by simp] at ca
              have HST := Lib.hid hst
              clear HA HB HAT HM HS HALL HY HNO hst hno hq hb hat hm2
              generalize atL a ((i : Int) + (s : Int)) = y1 at *
              generalize b.getD i 0 = y2 at *
              go_wp2
              go_quiet (fail)
              go_wp2
              go_roundw
              case rel => exact ⟨i + 1, by omega, by go_num, by rw [HST.out]; first | done | rfl, below_drewN hbx _⟩
              case measure => simp [intOf]; omega
          · obtain rfl : i = n := by omega
            have hal := HALL.out s
            cases hq : eqK a b s i with
            | true =>
              rw [hq] at hal
              have E := Lib.hid (HY.out s hlt hal.symm)
              clear HA HB HAT HM HS HALL HY HNO hal hno hq hb
              go_wp2
              go_ret
              exact ⟨by rw [E.out]; first | done | rfl, hbx⟩
            | false =>
              rw [hq] at hal
              have E : Hid (∀ j, j < s + 1 → decide (rotL a (j : Int) = b) = false) := Lib.hid fun j hj => by
                by_cases e : j = s
                · subst e; exact hal.symm
                · exact hno.out j (by omega)
              clear HA HB HAT HM HS HALL HY HNO hal hno hq hb
              go_wp2
              go_roundw
              case rel => exact ⟨s + 1, by omega, by go_num, E, hbx⟩
              case measure => simp [intOf]; omega
      · obtain rfl : s = n := by omega
        have E := Lib.hid (HNO.out hno.out)
        clear HA HB HAT HM HS HALL HY HNO hno
        go_wp2
        go_ret
        exact ⟨by rw [E.out]; first | done | rfl, hb⟩
  · rw [trnB_len hl]
    obtain ⟨ua, uc, rfl⟩ := ints_slH k
    have hne : ((a.length : Int) == (b.length : Int)) = false := by simp; omega
    clear h k
    generalize a.length = n at *
    generalize b.length = m at *
    go_enter Try.func53, Try.ntmps53
    go_wp2
    refine wp_loop_rounds 1 ?_
    rw [rounds_succ]
    go_wp2
    go_ret
    exact ⟨rfl, Below.refl _ _⟩

set_option maxRecDepth 10000 in
set_option maxHeartbeats 1000000 in
theorem isAmbidextrous_spec (v u : Value) (B C : Nat) (p o : List Int) (w : World) (h : Ints w B v p) (k : Ints w C u o) :
    Calls Try.prog 17 #[v, u] w fun e w' => e = .returned (.bool (ambA p o)) ∧ Below w.heap.size w w' := by
  have HP := l02Ok_any v B p w h
  have HO := fun W (hW : Below w.heap.size w W) => l14Ok_any u C o W (k.below hW)
  cases hp : okPat p with
  | false =>
    rw [ambA_false (show okPO p o = false by rw [okPO, hp, Bool.false_and])]
    rw [hp] at HP
    clear h k
    go_enter Try.func17, Try.ntmps17
    go_wp2_with fail
    refine HP.mono ?_
    rintro e w1 ⟨rfl, b1⟩
    go_wp2
    go_ret
    exact ⟨rfl, b1⟩
  | true =>
    rw [hp] at HP
    cases ho : okH o with
    | false =>
      rw [ambA_false (show okPO p o = false by rw [okPO, hp, ho]; rfl)]
      clear h k
      go_enter Try.func17, Try.ntmps17
      go_wp2_with fail
      refine HP.mono ?_
      rintro e w1 ⟨rfl, b1⟩
      go_wp2_with fail
      refine (HO _ b1).mono ?_
      rintro e w1 ⟨rfl, rfl⟩
      rw [ho]
      go_wp2
      go_ret
      exact ⟨rfl, b1⟩
    | true =>
      have hq : okPO p o = true := by rw [okPO, hp, ho]; rfl
      obtain ⟨lo1, lo2⟩ := okH_len ho
      obtain ⟨c1, c4⟩ := okH_cnt ho
      obtain ⟨cp1, cp2⟩ := cpN_bound hq
      obtain ⟨g, cap, rfl, _, hg, _, _⟩ := k.shape2 lo1
      have HN := Lib.hid (fun W (hW : Below w.heap.size w W) => l14Count_row g o.length cap C o W (k.below hW) rfl (by omega) (fun k hk => by have := okH_at ho k hk; omega))
      have HV := Lib.hid (fun (hd : Int) W (hW : Below w.heap.size w W) => l14Values_any v _ B C p o hd W (h.below hW) (k.below hW) hq)
      have hv0 := vlH_pos hq 0 (by omega) (by omega)
      have HVL := Lib.hid (fun hd => show (vlH p o hd).length ≤ 144 from by have := vlK_len p o hd (cpN p o); unfold vlH; omega)
      have HT := Lib.hid (fun W (x y : Value) (B1 C1 : Nat) (hd : Int) (hx : Ints W B1 x (vlH p o 0)) (hy : Ints W C1 y (vlH p o hd)) => l14Turned_any x y B1 C1 _ _ W hx hy hv0 (by have := HVL.out 0; omega) (by have := HVL.out hd; omega))
      have HS0 : Hid (trnB (vlH p o 0) (vlH p o ((0 : Nat) : Int)) = true) := Lib.hid (trnB_self hv0)
      have HNO := Lib.hid (fun (k : Nat) (hk : (k : Int) < cntH o) (hf : trnB (vlH p o 0) (vlH p o (k : Int)) = false) => ambA_no k hk hf)
      have HY := Lib.hid (fun (hf : ∀ k : Nat, (k : Int) < cntH o → trnB (vlH p o 0) (vlH p o (k : Int)) = true) => ambA_yes hq hf)
      have HO1 := HO
      rw [ho] at HO1
      clear h k hq hp HVL
      generalize cntH o = c at *
      go_enter Try.func17, Try.ntmps17
      go_wp2_with fail
      refine HP.mono ?_
      rintro e w1 ⟨rfl, b1⟩
      go_wp2_with fail
      refine (HO1 _ b1).mono ?_
      rintro e w1' ⟨rfl, rfl⟩
      have HV0 := HV.out 0 _ b1
      clear HP HO HO1
      go_wp2_with fail
      refine HV0.mono ?_
      rintro e w2 ⟨x0, rfl, i0, b2⟩
      have B2 := b1.trans (b2.mono b1.size)
      have I0 := Lib.hid (fun W (hW : Below w2.heap.size w2 W) => i0.below hW)
      clear HV0 i0 b1 b2
      go_wp2
      go_loopw [6] (fun hh wr => ∃ k : Nat, 1 ≤ k ∧ (k : Int) ≤ c ∧ hh = .int .i64 k ∧ Hid (∀ j : Nat, j < k → trnB (vlH p o 0) (vlH p o (j : Int)) = true) ∧ Below w2.heap.size w2 wr) (fun hh _ => (c - intOf hh).toNat)
      case atStart => exact ⟨1, by omega, by omega, rfl, Lib.hid (fun j hj => by (obtain rfl : j = 0 := by omega); exact HS0.out), Below.refl _ _⟩
      case round =>
        obtain ⟨k, hk1, hk, rfl, hall, hb⟩ := hrel
        have hbw := B2.trans (hb.mono B2.size)
        have HNN := HN.out wr hbw
        by_cases hlt : (k : Int) < c
        · have HVK := HV.out (k : Int) wr hbw
          have HI0 := I0.out wr hb
          have HTK := Lib.hid (fun W (hW : Below wr.heap.size wr W) y (hy : Ints W wr.heap.size y (vlH p o (k : Int))) => HT.out W x0 y _ _ (k : Int) (HI0.below hW) hy)
          cases ht : trnB (vlH p o 0) (vlH p o (k : Int)) with
          | true =>
            have E : Hid (∀ j : Nat, j < k + 1 → trnB (vlH p o 0) (vlH p o (j : Int)) = true) := Lib.hid fun j hj => by
              by_cases e : j = k
              · subst e; exact ht
              · exact hall.out j (by omega)
            rw [ht] at HTK
            clear HN HV HT HS0 HNO HY hall ht I0 HI0
            go_wp2_with fail
            refine HNN.mono ?_
            rintro e w3 ⟨rfl, rfl⟩
            go_wp2_with fail
            refine HVK.mono ?_
            rintro e w4 ⟨y, rfl, iy, b4⟩
            have HTT := HTK.out w4 b4 y iy
            clear HTK HVK HNN iy
            go_wp2_with fail
            refine HTT.mono ?_
            rintro e w5 ⟨rfl, b5⟩
            have hb5 := hb.trans ((b4.trans (b5.mono b4.size)).mono hb.size)
            go_wp2
            go_roundw
            case rel => exact ⟨k + 1, by omega, by omega, by go_num, E, hb5⟩
            case measure => simp [intOf]; omega
          | false =>
            have E := Lib.hid (HNO.out k hlt ht)
            rw [ht] at HTK
            clear HN HV HT HS0 HNO HY hall ht I0 HI0
            go_wp2_with fail
            refine HNN.mono ?_
            rintro e w3 ⟨rfl, rfl⟩
            go_wp2_with fail
            refine HVK.mono ?_
            rintro e w4 ⟨y, rfl, iy, b4⟩
            have HTT := HTK.out w4 b4 y iy
            clear HTK HVK HNN iy
            go_wp2_with fail
            refine HTT.mono ?_
            rintro e w5 ⟨rfl, b5⟩
            have hb5 := hbw.trans ((b4.trans (b5.mono b4.size)).mono hbw.size)
            go_wp2
            go_ret
            exact ⟨by rw [E.out]; first | done | rfl, hb5⟩
        · have E := Lib.hid (HY.out fun j hj => hall.out j (by omega))
          clear HN HV HT HS0 HNO HY hall I0
          go_wp2_with fail
          refine HNN.mono ?_
          rintro e w3 ⟨rfl, rfl⟩
          go_wp2
          go_ret
          exact ⟨by rw [E.out]; first | done | rfl, hbw⟩
end Go.Proofs.Ytlpeigeadjojnaa
