/- IsAmbidextrous, the program's. No conditions. -/
import Derived.Test.YtlpeigeadjojnaaHdM
import Derived.Test.YtlpeigeadjojnaaGrid
import Derived.Deep.RegionWith
import Derived.Deep.RegionHeld3
import Derived.Deep.RegionHeldLaw
import Derived.Deep.RegionLawGrows
import Derived.Deep.AppendLies
namespace Go.Proofs.Ytlpeigeadjojnaa
open Go.RowKit
set_option linter.unusedSimpArgs false
set_option linter.unusedVariables false

theorem equalTH_core (a b : Option Addr) (g g' cap cap' n : Nat) (f h : Nat → Int) (r : Bool) (w : World) (hm : n ≤ 9223372036854775807) (ha : n = 0 ∨ a = some ⟨g, 0, none⟩) (hb : n = 0 ∨ b = some ⟨g', 0, none⟩)
    (hc : ∀ i, i < n → w.cell? ⟨g, i, none⟩ = some (.int .i64 (f i))) (hc' : ∀ i, i < n → w.cell? ⟨g', i, none⟩ = some (.int .i64 (h i))) (hg : n = 0 ∨ g < w.heap.size) (hg' : n = 0 ∨ g' < w.heap.size)
    (hr1 : ∀ k, k < n → f k ≠ h k → r = false) (hr2 : (∀ i, i < n → f i = h i) → r = true) :
    Calls Try.prog 72 #[.slice a n cap, .slice b n cap'] w fun e w' => e = .returned (.bool r) ∧ Below w.heap.size w w' := by
  have hnn : ((n : Int) != (n : Int)) = false := by simp
  by_cases hn : n = 0
  · subst hn
    obtain rfl := hr2 fun i hi => by omega
    clear hr1 hr2 hc hc'
    go_enter Try.func72, Try.ntmps72
    go_wp2
    refine wp_loop_rounds 1 ?_
    rw [rounds_succ]
    go_wp2
    go_ret
    exact ⟨rfl, Below.refl _ _⟩
  · obtain rfl := ha.resolve_left hn
    obtain rfl := hb.resolve_left hn
    have hg := hg.resolve_left hn
    have hg' := hg'.resolve_left hn
    have HR1 := Lib.hid hr1
    have HR2 := Lib.hid hr2
    clear hr1 hr2 ha hb
    go_enter Try.func72, Try.ntmps72
    go_wp2
    go_loopw [13] (fun i wr => ∃ k : Nat, k ≤ n ∧ i = .int .i64 k ∧ Hid (∀ i, i < k → f i = h i) ∧ Below w.heap.size w wr) (fun i _ => n - (intOf i).toNat)
    case atStart => exact ⟨0, Nat.zero_le _, rfl, fun i hi => by omega, Below.refl _ _⟩
    case round =>
      obtain ⟨k, hk, rfl, heq, hB⟩ := hrel
      by_cases hlt : k < n
      · have c1 := (hB.cell (p := ⟨g, k, none⟩) hg).trans (hc k hlt)
        have c2 := (hB.cell (p := ⟨g', k, none⟩) hg').trans (hc' k hlt)
        have hR := Lib.hid (HR1.out k hlt)
        clear hc hc'
        by_cases he : f k = h k
        · have HE := Lib.hid he
          obtain ⟨x, hx⟩ : ∃ x, x = f k := ⟨_, rfl⟩
          rw [← he, ← hx] at c2
          rw [← hx] at c1
          clear he hx
          have he' : (x != x) = false := by simp
          go_wp2
          go_quiet (fail)
          go_wp2
          go_roundw
          case rel =>
            refine ⟨k + 1, by omega, by go_num, ?_, below_drewN hB _⟩
            intro i hi
            by_cases e : i = k
            · subst e; exact HE.out
            · exact heq.out i (by omega)
          case measure => simp [intOf]; omega
        · obtain rfl := hR.out he
          have he' : (f k != h k) = true := by simpa using he
          go_wp2
          go_quiet (fail)
          go_wp2
          go_ret
          exact ⟨rfl, below_drewN hB _⟩
      · obtain rfl : k = n := by omega
        obtain rfl := HR2.out heq.out
        clear hc hc'
        go_wp2
        go_ret
        exact ⟨rfl, hB⟩

theorem equalTH_diff (a b : Option Addr) (n m cap cap' : Nat) (w : World) (hm : n ≤ 9223372036854775807) (hm' : m ≤ 9223372036854775807) (hne : n ≠ m) :
    Calls Try.prog 72 #[.slice a n cap, .slice b m cap'] w fun e w' => e = .returned (.bool false) ∧ Below w.heap.size w w' := by
  have hl' : ((n : Int) != (m : Int)) = true := by simp; omega
  go_enter Try.func72, Try.ntmps72
  go_wp2
  go_ret
  exact ⟨rfl, Below.refl _ _⟩

theorem equalTH_any (v u : Value) (B C : Nat) (p q : List Int) (w : World) (h : Ints w B v p) (h' : Ints w C u q) :
    Calls Try.prog 72 #[v, u] w fun e w' => e = .returned (.bool (decide (p = q))) ∧ Below w.heap.size w w' := by
  have hm := h.len
  have hm' := h'.len
  obtain ⟨a, g, cap, rfl, ha, hg, hc⟩ := h.open
  obtain ⟨b, g', cap', rfl, hb, hg', hc'⟩ := h'.open
  by_cases hl : p.length = q.length
  · rw [← hl] at hb hg' hc' ⊢
    refine equalTH_core a b g g' cap cap' p.length _ _ _ w hm ha hb hc hc' hg hg' (fun k hk hne => ?_) (fun he => ?_)
    · simp only [decide_eq_false_iff_not]
      rintro rfl
      exact hne rfl
    · simp only [decide_eq_true_eq]
      exact list_extH hl he
  · have hd : decide (p = q) = false := by
      simp only [decide_eq_false_iff_not]
      rintro rfl
      exact hl rfl
    rw [hd]
    exact equalTH_diff a b _ _ cap cap' w hm hm' hl

theorem isRotationOf_any (v u : Value) (B C : Nat) (l a : List Int) (w : World) (h : Ints w B v l) (k : Ints w C u a) (h1 : 1 ≤ a.length) (h2 : a.length ≤ 1000) :
    Calls Try.prog 48 #[v, u] w fun e w' => e = .returned (.bool (trnB a l)) ∧ Below w.heap.size w w' := by
  obtain ⟨g, cap, rfl, _, _, _, _⟩ := k.shape2 h1
  have HR := Lib.hid (fun (s : Nat) W (hW : Below w.heap.size w W) (hs : s < a.length) => rotated_any _ C a (s : Int) W (k.below hW) h1 h2 (by omega) (by omega))
  have HE := Lib.hid (fun (s : Nat) W (hW : Below w.heap.size w W) x (D : Nat) (hx : Ints W D x (rotL a (s : Int))) => equalTH_any v x B D l (rotL a (s : Int)) W (h.below hW) hx)
  have HY := Lib.hid (fun (s : Nat) (hs : s < a.length) (e : l = rotL a (s : Int)) => trnB_yes s hs e.symm)
  have HNO := Lib.hid (fun (e : ∀ s, s < a.length → ¬ l = rotL a (s : Int)) => trnB_no (a := a) (b := l) fun s hs q => e s hs q.symm)
  clear h k
  generalize hn : a.length = n at *
  clear hn
  go_enter Try.func48, Try.ntmps48
  go_wp2_with fail
  refine (period_any _ _ _ _).mono ?_
  rintro e w' ⟨rfl, hww⟩
  obtain rfl := hww.symm
  go_wp2
  go_loopw [5, 8] (fun _ i wr => ∃ k : Nat, k ≤ n ∧ i = .int .i64 k ∧ Hid (∀ s, s < k → ¬ l = rotL a (s : Int)) ∧ Below w.heap.size w wr) (fun _ i _ => n - (intOf i).toNat)
  case atStart => exact ⟨0, Nat.zero_le _, rfl, Lib.hid fun s hs => by omega, Below.refl _ _⟩
  case round =>
    obtain ⟨k, hk, rfl, hno, hb⟩ := hrel
    by_cases hlt : k < n
    · have HRK := HR.out k wr hb hlt
      have HEK := Lib.hid (fun W (hW : Below wr.heap.size wr W) x (hx : Ints W wr.heap.size x (rotL a (k : Int))) => HE.out k W (hb.trans (hW.mono hb.size)) x _ hx)
      by_cases he : l = rotL a (k : Int)
      · have E := Lib.hid (HY.out k hlt he)
        rw [decide_eq_true he] at HEK
        clear HR HE HY HNO hno he
        go_wp2_with fail
        refine HRK.mono ?_
        rintro e w1 ⟨x, rfl, ix, b1⟩
        have HEE := HEK.out w1 b1 x ix
        clear HRK HEK ix
        go_wp2_with fail
        refine HEE.mono ?_
        rintro e w2 ⟨rfl, b2⟩
        have hb2 := hb.trans ((b1.trans (b2.mono b1.size)).mono hb.size)
        go_wp2
        go_ret
        exact ⟨by rw [E.out]; first | done | rfl, hb2⟩
      · have E : Hid (∀ s, s < k + 1 → ¬ l = rotL a (s : Int)) := Lib.hid fun s hs => by
          by_cases e : s = k
          · subst e; exact he
          · exact hno.out s (by omega)
        rw [decide_eq_false he] at HEK
        clear HR HE HY HNO hno he
        go_wp2_with fail
        refine HRK.mono ?_
        rintro e w1 ⟨x, rfl, ix, b1⟩
        have HEE := HEK.out w1 b1 x ix
        clear HRK HEK ix
        go_wp2_with fail
        refine HEE.mono ?_
        rintro e w2 ⟨rfl, b2⟩
        have hb2 := hb.trans ((b1.trans (b2.mono b1.size)).mono hb.size)
        go_wp2
        go_roundw
        case rel => exact ⟨k + 1, by omega, by go_num, E, hb2⟩
        case measure => simp [intOf]; omega
    · obtain rfl : k = n := by omega
      have E := Lib.hid (HNO.out hno.out)
      clear HR HE HY HNO hno
      go_wp2
      go_ret
      exact ⟨by rw [E.out]; first | done | rfl, hb⟩

/-! ### lists that grow -/
theorem grid_made {E : TypeId} {w w' : World} {c C : Nat} (h : w'.ownsRow w.heap.size E 1 (.slice (some ⟨w.heap.size, 0, none⟩) c c) c (madeCells (Value.slice none 0 0).cells (c * 1)).toList) (hC : w.heap.size < C) :
    Grid E w' w.heap.size C (.slice (some ⟨w.heap.size, 0, none⟩) c c) (List.replicate c []) := by
  have e9 := h
  rw [Nat.mul_one] at e9
  have e8 : (madeCells (Value.slice none 0 0).cells c).toList = List.replicate c (Value.slice none 0 0) := toList_madeCells_one _ _
  rw [e8] at e9
  have hz : ∀ i : Nat, (List.replicate c (none : Hd)).getD i none = none := fun i => by simp [List.getElem?_replicate]; split <;> rfl
  refine ⟨List.replicate c none, by simp, ?_, fun g hg => by simp [Value.ownBlock] at hg; omega, fun i hi => ?_, fun i j g hi hj h1 h2 => ?_⟩
  · unfold Own
    rw [List.length_replicate, List.map_replicate]
    exact e9
  · rw [hz]
    have hi' : i < c := by simpa using hi
    rw [show (List.replicate c ([] : List Int)).getD i [] = [] by simp [List.getElem?_replicate]; split <;> rfl]
    exact ⟨Ints.nil _ _, fun g hg => by simp [hdV, Value.ownBlock] at hg⟩
  · rw [hz] at h1
    simp [hdV, Value.ownBlock] at h1
/-- a row has grown, in its place or in a new block, and its head is put back -/
theorem Grid.grew {E : TypeId} {w w' : World} {B C C' g n cap nb : Nat} {pss : List (List Int)} (hE : E ≠ 2) (h : Grid E w B C (.slice (some ⟨g, 0, none⟩) n cap) pss) (i : Nat) (hi : i < pss.length) {u : Value} (hc : w.cell? ⟨g, i, none⟩ = some u)
    {d : Hd} {p : List Int} (hn : Ints w' B (hdV d) p) (gr : w.grownBy w' u.ownBlock) (hat : (hdV d).ownBlock = u.ownBlock ∨ (hdV d).ownBlock = some nb) (hnb : C ≤ nb) (hC : C ≤ C') (hC2 : w'.heap.size ≤ C') :
    Grid E (w'.setCell ⟨g, i, none⟩ (hdV d)) B C' (.slice (some ⟨g, 0, none⟩) n cap) (pss.set i p) := by
  obtain ⟨hs, hl, ho, hu, hr, ha⟩ := h
  have hcu := ho.cell none i (by omega)
  rw [hc] at hcu
  obtain rfl := Option.some.inj hcu
  have hri := hr i hi
  have ho1 : Own E hdV w' B (.slice (some ⟨g, 0, none⟩) n cap) hs := ho.block fun g' hg' hlt => gr.block g' hlt fun e => own_ne_row hE ho hri.1 hg' e.symm
  have hgB : ∀ {x : Value} {q : List Int} {D : Nat}, Ints w' D x q → Ints (w'.setCell ⟨g, i, none⟩ (hdV d)) D x q := fun {x q D} hq => hq.block fun g' hg' hlt =>
    Below.heap_setCell _ _ _ _ (fun e => own_ne_row hE ho1 hq (g := g') (by simp [Value.ownBlock]; exact e.symm) hg')
  have hud : OwnUnder C' (hdV d) := fun g' hg' => by
    rcases hat with e | e
    · rw [e] at hg'
      have := hri.2 g' hg'
      omega
    · have := hn.ownUnder g' hg'
      omega
  refine ⟨hs.set i d, by simp [hl], ho1.set i d, hu.mono hC, fun j hj => ?_, fun j k g' hj hk hj1 hk1 => ?_⟩
  · have hj' : j < pss.length := by simpa using hj
    by_cases e : i = j
    · subst e
      rw [show (pss.set i p).getD i [] = p by simp [hi], show (hs.set i d).getD i none = d by simp [hl, hi]]
      exact ⟨hgB hn, hud⟩
    · rw [show (pss.set i p).getD j [] = pss.getD j [] by simp [List.getElem?_set_ne e], show (hs.set i d).getD j none = hs.getD j none by simp [List.getElem?_set_ne e]]
      refine ⟨hgB ((hr j hj').1.block fun g' hg' hlt => gr.block g' hlt fun e' => e (ha i j g' hi hj' e'.symm hg')), (hr j hj').2.mono hC⟩
  · have hj' : j < pss.length := by simpa using hj
    have hk' : k < pss.length := by simpa using hk
    have hnew : ∀ q, q < pss.length → ¬ i = q → (hdV d).ownBlock = some g' → (hdV (hs.getD q none)).ownBlock = some g' → False := fun q hq hne h1 h2 => by
      rcases hat with e | e
      · rw [e] at h1
        exact hne (ha i q g' hi hq h1 h2)
      · rw [e] at h1
        have := (hr q hq).2 g' h2
        simp at h1
        omega
    by_cases e : i = j
    · by_cases e' : i = k
      · omega
      · exfalso
        subst e
        rw [show (hs.set i d).getD i none = d by simp [hl, hi]] at hj1
        rw [show (hs.set i d).getD k none = hs.getD k none by simp [List.getElem?_set_ne e']] at hk1
        exact hnew k hk' e' hj1 hk1
    · by_cases e' : i = k
      · exfalso
        subst e'
        rw [show (hs.set i d).getD i none = d by simp [hl, hi]] at hk1
        rw [show (hs.set i d).getD j none = hs.getD j none by simp [List.getElem?_set_ne e]] at hj1
        exact hnew j hj' e hk1 hj1
      · rw [show (hs.set i d).getD j none = hs.getD j none by simp [List.getElem?_set_ne e]] at hj1
        rw [show (hs.set i d).getD k none = hs.getD k none by simp [List.getElem?_set_ne e']] at hk1
        exact ha j k g' hj' hk' hj1 hk1
/-- 'append(own, y)' at a step of a region that draws its order, and where the new row lies -/
theorem step_append_thrH (w : World) {ops : Array Oper} {o : Oper} {a : Act} {K : Act → World → Prop} {Q : Exit → Act → World → Prop} {E : Prop} (hgd : o.guard = none) (s x : Operand)
    (ho : o.op = .call { callee := .builtin .append, args := #[s, x], argTypes := #[39, 39] }) (B : Nat) (v : Value) (xs : List Int) (hs : a.eval s = v) (h : Ints w B v xs) (G cx : Nat) (y : Int)
    (hx : a.eval x = .slice (some ⟨G, 0, none⟩) 1 cx) (hcell : w.cell? ⟨G, 0, none⟩ = some (.int .i64 y)) (hlen : xs.length ≤ 1000000) (hB : B ≤ w.heap.size)
    (hK : ∀ g cap l w', Ints w' B (.slice (some ⟨g, 0, none⟩) l cap) (xs ++ [y]) → w.grownBy w' v.ownBlock → (v.ownBlock = some g ∨ g = w.heap.size) → K (a.put o.dst (.slice (some ⟨g, 0, none⟩) l cap)) w') :
    if Region.wanted o (yielded ops a.tmps) = true then Oper.wp Try.prog o a w K Q else E := by
  obtain ⟨i0, hi, hz0, hz1, hz2⟩ := info_parts Try.info64
  refine step_append_lies w hgd s x 39 ho B 2 i0 (.int .i64 0) 1 8 Try.underlying39 hi hz0 hz1 hz2 rfl (by decide) v xs.length _ hs h ⟨G, 0, none⟩ 1 cx [.int .i64 y] hx (by simp) ?_ ?_ (by omega) (by unfold maxLen; omega) (by omega) hB w.heap.size rfl ?_
  · intro j u hj
    match j, hj with
    | 0, hj => simp at hj; subst hj; simpa [Addr.add] using hcell
  · intro u hu; simp at hu; subst hu; rfl
  · intro g cap w' h1 h2 h3 _
    refine hK g cap (xs.length + 1) w' ?_ h2 h3
    unfold Ints
    simpa using h1
theorem Try.infoTL : (Try.prog.info? 39).map (fun i => (i.zero, i.size, i.bytes)) = some (some (.slice none 0 0), 1, 24) := by kernel_rfl

/-- the lists of all hands behind k beats -/
def rwT (p o : List Int) (c k : Nat) : List (List Int) := (List.range c).map fun h : Nat => vlK p o (h : Int) k
theorem rwT_len (p o : List Int) (c k : Nat) : (rwT p o c k).length = c := by simp [rwT]
theorem rwT_zero (p o : List Int) (c : Nat) : rwT p o c 0 = List.replicate c [] := by
  apply List.ext_getElem
  · simp [rwT]
  · intro i h1 h2
    simp [rwT, vlK]
theorem rwT_at (p o : List Int) (c k i : Nat) (hi : i < c) : (rwT p o c k).getD i [] = vlK p o (i : Int) k := by simp [rwT, hi]
theorem rwT_step {p o : List Int} {c k i : Nat} (hi : i < c) (e : atL o (k : Int) = (i : Int)) : (rwT p o c k).set i (vlK p o (i : Int) k ++ [atL p (k : Int)]) = rwT p o c (k + 1) := by
  apply List.ext_getElem
  · simp [rwT]
  · intro j h1 h2
    rw [List.getElem_set]
    by_cases q : i = j
    · subst q
      rw [if_pos rfl]
      simp [rwT, vlK_yes e]
    · rw [if_neg q]
      have : ¬ atL o (k : Int) = (j : Int) := by omega
      simp [rwT, vlK_no this]

set_option maxRecDepth 10000 in
set_option maxHeartbeats 2000000 in
theorem throwsAtTurns_any (v u : Value) (B C : Nat) (p o : List Int) (w : World) (h : Ints w B v p) (k : Ints w C u o) (hq : okPO p o = true) (c : Nat) (hc : cntH o = (c : Int)) :
    Calls Try.prog 46 #[.agg #[v, u]] w fun e w' => ∃ g D, e = .returned (.slice (some ⟨g, 0, none⟩) c c) ∧ Grid 39 w' w.heap.size D (.slice (some ⟨g, 0, none⟩) c c) (rwT p o c (cpN p o)) ∧ Below w.heap.size w w' := by
  obtain ⟨i0, hi0, hz0, hz1, hz2⟩ := info_parts Try.infoTL
  obtain ⟨hp, ho⟩ := okPO_parts hq
  obtain ⟨lp1, lp2⟩ := okPat_len hp
  obtain ⟨lo1, lo2⟩ := okH_len ho
  obtain ⟨c1, c4⟩ := okH_cnt ho
  obtain ⟨cp1, cp2⟩ := cpN_bound hq
  have HH := fun W (hW : Below w.heap.size w W) => hands_any u C o W (k.below hW) (okH_parts ho).2.1 lo1 lo2
  have HCP := fun W (hW : Below w.heap.size w W) => commonPeriodH_any v u B C p o W (h.below hW) (k.below hW) lp1 lp2 lo1 lo2
  have HAT := Lib.hid (fun (b : Int) W (hW : Below w.heap.size w W) (h1 : 0 ≤ b) (h2 : b ≤ 1000) => at_any v B p b W (h.below hW) lp1 (by omega) (by omega) (by omega))
  have HHA := Lib.hid (fun (b : Int) W (hW : Below w.heap.size w W) (h1 : 0 ≤ b) (h2 : b ≤ 1000) => hoAt_any u C o b W (k.below hW) lo1 (by omega) (by omega) (by omega))
  have HAO := Lib.hid (fun (b : Nat) => show ∃ i : Nat, atL o (b : Int) = (i : Int) ∧ i < c from by
    have := atO_rng ho (b : Int)
    exact ⟨(atL o (b : Int)).toNat, by omega, by omega⟩)
  have HST := Lib.hid (fun (k i : Nat) (hi : i < c) (e : atL o (k : Int) = (i : Int)) => rwT_step (p := p) hi e)
  have HRA := Lib.hid (fun (k i : Nat) (hi : i < c) => rwT_at p o c k i hi)
  have HRL := Lib.hid (fun (k : Nat) => rwT_len p o c k)
  have HVL := Lib.hid (fun (k : Nat) (hd : Int) => vlK_len p o hd k)
  rw [hc] at HH c1 c4
  obtain ⟨va, vc, rfl⟩ := ints_slH h
  obtain ⟨ua, uc, rfl⟩ := ints_slH k
  have b0 := (Below.refl w.heap.size w).alloc (Nat.le_refl _) (.cells #[.slice va p.length vc, .slice ua o.length uc] 42)
  have q0 := Blk.made w #[.slice va p.length vc, .slice ua o.length uc] 42
  clear h k hq hp ho lp1 lp2 lo1 lo2 hc
  generalize hn : cpN p o = n at *
  clear hn
  have HH0 := HH _ b0
  go_enter Try.func46, Try.ntmps46
  go_wp2_with fail
  refine HH0.mono ?_
  rintro e w1' ⟨rfl, rfl⟩
  obtain ⟨w1, hw1⟩ : ∃ w1, w.alloc (.cells #[.slice va p.length vc, .slice ua o.length uc] 42) = w1 := ⟨_, rfl⟩
  have sz1 : w.heap.size < w1.heap.size := by rw [← hw1]; simp
  rw [hw1] at b0 q0 ⊢
  clear hw1 HH0 HH
  go_wp2_with (at_make; refine wpList_make_full _ rfl _ _ 59 rfl w1.heap.size 39 i0 (.slice none 0 0) 1 Try.underlying59 hi0 hz0 hz1 _ _ _ _ c rfl rfl rfl rfl (by rw [hz2]; omega) (by unfold maxLen; omega) (Nat.le_refl _) ?_; intro w3 hown hgr; refine Hid.out ?_)
  have b3 : Below w1.heap.size w1 w3 := (Below.refl _ _).grown hgr (Nat.le_refl _) (by simp)
  have hlt3 : w1.heap.size < w3.heap.size := by
    rcases hown.2 with ⟨e, _⟩ | ⟨g', cap', cur, e, _, hh, _⟩
    · simp at e
    · simp at e
      obtain ⟨rfl, _⟩ := e
      exact (Array.getElem?_eq_some_iff.1 hh).1
  have hG := grid_made hown hlt3
  rw [← rwT_zero p o c] at hG
  have q3 := q0.below b3 q0.lt
  have B3 := b0.trans (b3.mono b0.size)
  have ch0 := q3.cell 0
  have ch1 := q3.cell 1
  simp only [List.getElem?_cons_zero, List.getElem?_cons_succ] at ch0 ch1
  have HCC := HCP _ B3
  clear hown hgr hi0 hz0 hz1 hz2 b3 b0 q0 HCP
  refine Lib.hid ?_
  go_wp2_with fail
  refine HCC.mono ?_
  rintro e w4 ⟨rfl, b4⟩
  have hG4 := (hG.below b4).widen (Nat.le_refl _) b4.size
  have q4 := q3.below b4 q3.lt
  have B4 := B3.trans (b4.mono B3.size)
  clear HCC hG q3 B3 b4 ch0 ch1
  go_wp2
  go_loopw [4, 5, 12] (fun _ _ i wr => ∃ k : Nat, k ≤ n ∧ i = .int .i64 k ∧ Grid 39 wr w1.heap.size wr.heap.size (.slice (some ⟨w1.heap.size, 0, none⟩) c c) (rwT p o c k) ∧ Blk wr w.heap.size [.slice va p.length vc, .slice ua o.length uc] 42 ∧ Below w.heap.size w wr) (fun _ _ i _ => n - (intOf i).toNat)
  case atStart => exact ⟨0, Nat.zero_le _, rfl, hG4, q4, B4⟩
  case round =>
    obtain ⟨k, hk, rfl, hg, hqb, hb⟩ := hrel
    clear hG4 q4 B4
    by_cases hlt : k < n
    · have H1 := HHA.out (k : Int) wr hb (by omega) (by omega)
      have HA := Lib.hid (fun W (hW : Below wr.heap.size wr W) => HAT.out (k : Int) W (hb.trans (hW.mono hb.size)) (by omega) (by omega))
      obtain ⟨i, hi1, hi2⟩ := HAO.out k
      rw [hi1] at H1
      have hst := HST.out k i hi2 hi1
      obtain ⟨u, hcu, hui, huu⟩ := hg.row i (by rw [HRL.out]; exact hi2)
      rw [HRA.out k i hi2] at hui
      have hvl := HVL.out k (i : Int)
      have c0 := hqb.cell 0
      have c1' := hqb.cell 1
      simp only [List.getElem?_cons_zero, List.getElem?_cons_succ] at c0 c1'
      have hw1 : w1.heap.size < wr.heap.size := by
        rcases hg.shape with ⟨e, _⟩ | ⟨g', cap', e, _, hh, _⟩
        · simp at e
        · simp at e
          obtain ⟨rfl, _⟩ := e
          exact hh
      have hE : 39 ≠ 2 := by decide
      have hne : ¬ some w1.heap.size = u.ownBlock := fun e => by
        obtain ⟨hs, hl, ho, hu, hr, ha⟩ := hg
        exact own_ne_row hE ho hui (g := w1.heap.size) rfl e.symm
      have hrl := HRL.out k
      have HKEEP := Lib.hid (fun (X W4 : World) (gr : X.grownBy W4 u.ownBlock) (hX : Below wr.heap.size wr X) => show W4.cell? ⟨w1.heap.size, i, none⟩ = some u ∧ W4.frozen? ⟨w1.heap.size, i, none⟩ = false from by
        have e : W4.heap[w1.heap.size]? = wr.heap[w1.heap.size]? := (gr.block _ (Nat.lt_of_lt_of_le hw1 hX.size) hne).trans (hX.block _ hw1)
        have hf := hg.free i
        exact ⟨by rw [← hcu]; simp [World.cell?, e], by rw [← hf]; simp [World.frozen?, e]⟩)
      have HFIN := Lib.hid (fun (X W4 : World) (g4 l4 c4 : Nat) (hX : Below wr.heap.size wr X) (i4 : Ints W4 w1.heap.size (.slice (some ⟨g4, 0, none⟩) l4 c4) (vlK p o (i : Int) k ++ [atL p (k : Int)])) (gr : X.grownBy W4 u.ownBlock) (hat : u.ownBlock = some g4 ∨ g4 = X.heap.size) => show
          Grid 39 (W4.setCell ⟨w1.heap.size, i, none⟩ (.slice (some ⟨g4, 0, none⟩) l4 c4)) w1.heap.size (W4.setCell ⟨w1.heap.size, i, none⟩ (.slice (some ⟨g4, 0, none⟩) l4 c4)).heap.size (.slice (some ⟨w1.heap.size, 0, none⟩) c c) (rwT p o c (k + 1)) ∧
          Blk (W4.setCell ⟨w1.heap.size, i, none⟩ (.slice (some ⟨g4, 0, none⟩) l4 c4)) w.heap.size [.slice va p.length vc, .slice ua o.length uc] 42 ∧ Below w.heap.size w (W4.setCell ⟨w1.heap.size, i, none⟩ (.slice (some ⟨g4, 0, none⟩) l4 c4)) from by
        have hgX := hg.below hX
        have hcX : X.cell? ⟨w1.heap.size, i, none⟩ = some u := (hX.cell (p := ⟨w1.heap.size, i, none⟩) hw1).trans hcu
        have hs4 := gr.size
        have hsX := hX.size
        have hbs := hb.size
        have hsc : (W4.setCell ⟨w1.heap.size, i, none⟩ (.slice (some ⟨g4, 0, none⟩) l4 c4)).heap.size = W4.heap.size := by simp
        have hg1 := Grid.grew (C' := (W4.setCell ⟨w1.heap.size, i, none⟩ (.slice (some ⟨g4, 0, none⟩) l4 c4)).heap.size) (nb := X.heap.size) hE hgX i (by rw [hrl]; exact hi2) hcX (d := some (g4, l4, c4)) i4 gr (by
          rcases hat with e | e
          · exact .inl (by rw [e]; rfl)
          · exact .inr (by rw [e]; rfl)) hX.size (by omega) (by omega)
        have hog : ∀ j, u.ownBlock = some j → w1.heap.size ≤ j := fun j hj => hui.own_ge hj
        refine ⟨?_, ?_, ?_⟩
        · have e := hst
          rw [← e]
          exact hg1
        · refine ((hqb.below hX hqb.lt).block (gr.block _ (by have := hqb.lt; omega) fun e => ?_)).other (by show w.heap.size ≠ w1.heap.size; omega) _
          have := hog _ e.symm
          omega
        · exact ((hb.trans (hX.mono hb.size)).grown gr (by omega) (fun j hj => by have := hog j hj; omega)).setCell (by show w.heap.size ≤ w1.heap.size; omega) _)
      clear HHA HAT HAO HST HRA HRL HVL hg hqb huu hi1 hst hne hrl
      generalize atL p (k : Int) = t at *
      go_wp2_with fail
      refine H1.mono ?_
      rintro e w5 ⟨rfl, rfl⟩
      clear H1
      go_wp2
      go_region_law (first | (refine step_append_thrH _ rfl _ _ rfl w1.heap.size u _ rfl (Ints.alloc (Ints.below hui (Below.drew (Below.refl _ _))) _) _ _ t rfl (by first | (simp; done) | exact (Blk.made _ _ _).cell 0) (by omega) (by simp; omega) ?_; intro g4 c4 l4 w4 i4 gr4 at4; obtain ⟨ck4, fk4⟩ := HKEEP.out _ _ gr4 (Below.alloc (Below.drew (Below.refl _ _)) (Nat.le_refl _) _); have hfin4 := Lib.hid (HFIN.out _ _ g4 l4 c4 (Below.alloc (Below.drew (Below.refl _ _)) (Nat.le_refl _) _) i4 gr4 at4)) | (go_simp; go_at_call 62; (with_reducible refine (HA.out _ ?_).mono ?_); (repeat (first | exact Below.refl _ _ | refine Below.drew ?_ | refine below_drewN ?_ _)); rintro e w2 ⟨rfl, rfl⟩))
      all_goals (
        (try simp only [Act.put, List.setIfInBounds_toArray, List.set_cons_zero, List.set_cons_succ])
        go_wp2
        go_roundw
        case rel => exact ⟨k + 1, by omega, by go_num, hfin4.out.1, hfin4.out.2.1, hfin4.out.2.2⟩
        case measure => simp [intOf]; omega)
    · obtain rfl : k = n := by omega
      clear HHA HAT HAO HST HRA HRL HVL
      go_wp2
      go_ret
      exact ⟨_, _, rfl, hg.widen (by omega) (Nat.le_refl _), hb⟩
end Go.Proofs.Ytlpeigeadjojnaa
