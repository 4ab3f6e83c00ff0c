/- The orbits of a pattern, the model's: l13Orbits answers the list of the orbits. Condition: a pattern. -/
import Derived.Test.YtlpeigeadjojnabOrA
import Derived.Test.YtlpeigeadjojnabOwn
import Derived.Test.YtlpeigeadjojnabGridsB
import Derived.Test.YtlpeigeadjojnabSpec02b
namespace Go.Proofs.Ytlpeigeadjojnab
open Go.RowKit
set_option linter.unusedSimpArgs false
set_option linter.unusedVariables false

/-- a row of truth values of a call's own -/
def Bls2 (w : World) (B : Nat) (v : Value) (xs : List Bool) : Prop := Own 4 Value.bool w B v xs
theorem Try.infoBl2 : (Try.prog.info? 4).map (fun i => (i.zero, i.size, i.bytes)) = some (some (.bool false), 1, 1) := by kernel_rfl

/-- which throws have been met: those of orbits that begin below k, and the first m of the orbit of k -/
def seenF (p : List Int) (k m : Nat) (j : Nat) : Bool := decide (lst p j < k) || ((List.range m).map (itr p k)).contains j
def seenL (p : List Int) (k m : Nat) : List Bool := (List.range p.length).map (seenF p k m)
theorem seenL_len (p : List Int) (k m : Nat) : (seenL p k m).length = p.length := by simp [seenL]
theorem seenL_at (p : List Int) (k m j : Nat) (hj : j < p.length) : (seenL p k m).getD j false = seenF p k m j := by simp [seenL, hj]
theorem seenF_zero (p : List Int) (k j : Nat) : seenF p k 0 j = decide (lst p j < k) := by simp [seenF]
theorem seenL_first (p : List Int) : seenL p 0 0 = List.replicate p.length false := by
  apply List.ext_getElem
  · simp [seenL]
  · intro i h1 h2
    simp [seenL, seenF]
theorem seenL_set {p : List Int} (k m : Nat) (hj : itr p k m < p.length) : (seenL p k m).set (itr p k m) true = seenL p k (m + 1) := by
  apply List.ext_getElem
  · simp [seenL]
  · intro i h1 h2
    simp only [seenL, List.getElem_set, List.getElem_map, List.getElem_range]
    by_cases e : itr p k m = i
    · rw [if_pos e]
      simp [seenF, List.range_succ, e]
    · rw [if_neg e]
      have e' : ¬ i = itr p k m := fun h => e h.symm
      simp [seenF, List.range_succ, e']
/-- while one has not come back, the next throw has not been met -/
theorem seenF_on {p : List Int} (hok : okPat p = true) {k m : Nat} (hk : k < p.length) (hf : lst p k = k) (hm : m < per p k) : seenF p k m (itr p k m) = false := by
  have ho : Orb p k (itr p k m) := ⟨m, rfl⟩
  have hl := lst_orb hok hk ho
  rw [hf] at hl
  have : ¬ itr p k m ∈ (List.range m).map (itr p k) := by
    intro h
    obtain ⟨a, ha, he⟩ := List.mem_map.1 h
    rw [List.mem_range] at ha
    have := itr_back hok hk a (m - a) (by rw [show a + (m - a) = m from by omega]; exact he.symm)
    exact (per_spec hok hk).2.2.2 _ (by omega) (by omega) this
  simp only [seenF, hl, Nat.lt_irrefl, decide_false, Bool.false_or]
  rw [← Bool.not_eq_true, List.contains_iff_mem]
  exact this
theorem seenF_back {p : List Int} (hok : okPat p = true) {k : Nat} (hk : k < p.length) : seenF p k (per p k) (itr p k (per p k)) = true := by
  obtain ⟨q1, _, q3, _⟩ := per_spec hok hk
  rw [q3]
  have : k ∈ (List.range (per p k)).map (itr p k) := List.mem_map.2 ⟨0, List.mem_range.2 q1, rfl⟩
  simp only [seenF, Bool.or_eq_true]
  exact .inr (List.contains_iff_mem.2 this)
theorem seenL_all {p : List Int} (hok : okPat p = true) {k : Nat} (hk : k < p.length) (hf : lst p k = k) : seenL p k (per p k) = seenL p (k + 1) 0 := by
  apply List.ext_getElem
  · simp [seenL]
  · intro i h1 h2
    have hi : i < p.length := by simpa [seenL] using h1
    simp only [seenL, List.getElem_map, List.getElem_range, seenF_zero]
    have hw := wayL_mem hok hk i
    have he := lst_eq hok hk hi
    rw [hf] at he
    unfold wayL at hw
    rw [Bool.eq_iff_iff]
    simp only [seenF, Bool.or_eq_true, decide_eq_true_eq, List.contains_iff_mem]
    rw [hw, ← he]
    omega
theorem seenL_skip {p : List Int} (hok : okPat p = true) {k : Nat} (hk : k < p.length) (hf : lst p k ≠ k) : seenL p k 0 = seenL p (k + 1) 0 := by
  apply List.ext_getElem
  · simp [seenL]
  · intro i h1 h2
    have hi : i < p.length := by simpa [seenL] using h1
    simp only [seenL, List.getElem_map, List.getElem_range, seenF_zero]
    rw [Bool.eq_iff_iff]
    simp only [decide_eq_true_eq]
    have : lst p i ≠ k := by
      intro e
      have := lst_lst hok hi
      rw [e] at this
      exact hf this
    omega
theorem seenF_skip {p : List Int} (hok : okPat p = true) {k : Nat} (hk : k < p.length) : seenF p k 0 k = decide (lst p k ≠ k) := by
  have := (lst_spec hok hk).2.2.1
  rw [seenF_zero, Bool.eq_iff_iff]
  simp only [decide_eq_true_eq]
  omega
/-- the orbits whose first throw is below k -/
def orbK (p : List Int) (k : Nat) : List (List Int) := (fstL p k).map fun i => ints (wayL p i)
theorem orbK_all (p : List Int) : orbK p p.length = orbs p := rfl
theorem orbK_yes {p : List Int} {k : Nat} (h : lst p k = k) : orbK p (k + 1) = orbK p k ++ [ints (wayL p k)] := by simp [orbK, fstL_yes h]
theorem orbK_no {p : List Int} {k : Nat} (h : lst p k ≠ k) : orbK p (k + 1) = orbK p k := by simp [orbK, fstL_no h]
theorem orbK_len (p : List Int) (k : Nat) : (orbK p k).length ≤ k := by
  have := fstL_len p k
  simpa [orbK] using this
/-- the first m throws of a way -/
def wayK (p : List Int) (i m : Nat) : List Int := ints ((List.range m).map (itr p i))
theorem wayK_zero (p : List Int) (i : Nat) : wayK p i 0 = [] := rfl
theorem wayK_snoc (p : List Int) (i m : Nat) : wayK p i (m + 1) = wayK p i m ++ [((itr p i m : Nat) : Int)] := by simp [wayK, List.range_succ, ints]
theorem wayK_all (p : List Int) (i : Nat) : wayK p i (per p i) = ints (wayL p i) := rfl
theorem wayK_len (p : List Int) (i m : Nat) : (wayK p i m).length = m := by simp [wayK, ints]

def slLen : Value → Nat
  | .slice _ n _ => n
  | _ => 0
theorem Ints.slLen {w : World} {B : Nat} {v : Value} {xs : List Int} (h : Ints w B v xs) : slLen v = xs.length := by
  rcases h.shape with ⟨rfl, rfl⟩ | ⟨g, cap, rfl, _⟩ <;> rfl
theorem Ints.sl3 {w : World} {B : Nat} {v : Value} {xs : List Int} (h : Ints w B v xs) : ∃ a n c, v = .slice a n c := by
  rcases h.shape with ⟨rfl, rfl⟩ | ⟨g, cap, rfl, _⟩ <;> exact ⟨_, _, _, rfl⟩
/-- a cell of another block is written -/
theorem Ints.setElse {w : World} {B : Nat} {v : Value} {xs : List Int} (h : Ints w B v xs) (g j : Nat) (x : Value) (hg : g < B) : Ints (w.setCell ⟨g, j, none⟩ x) B v xs :=
  h.block fun g' hg' _ => Below.heap_setCell _ _ _ _ (by have := h.own_ge hg'; simp; omega)
theorem Grid.setElse {E : TypeId} {w : World} {B C : Nat} {v : Value} {pss : List (List Int)} (h : Grid E w B C v pss) (g j : Nat) (x : Value) (hg : g < B) : Grid E (w.setCell ⟨g, j, none⟩ x) B C v pss :=
  h.keep fun k _ h1 _ => Below.heap_setCell _ _ _ _ (by simp; omega)

/-- 'append(out, row)', the row a new one -/
theorem append_grid (w0 : World) {ops : Array Oper} {rest : List Oper} {o : Oper} {a : Act} {Q : Exit → Act → World → Prop} (hgd : o.guard = none) (s x : Operand)
    (ho : o.op = .call { callee := .builtin .append, args := #[s, x], argTypes := #[31, 31] }) (B C : Nat) (v : Value) (pss : List (List Int)) (hs : a.eval s = v) (h : Grid 22 w0 B C v pss) (u : Value) (p : List Int)
    (hx : a.eval x = .slice (some ⟨w0.heap.size, 0, none⟩) 1 1) (hn : Ints w0 C u p) (hlen : pss.length ≤ 1000000) (hBC : B ≤ C) (hC : C ≤ w0.heap.size)
    (hK : ∀ v' w', Grid 22 w' B w'.heap.size v' (pss ++ [p]) → Within B C w0 w' → wpList Try.prog ops Q rest (a.put o.dst v') w') :
    wpList Try.prog ops Q (o :: rest) a (w0.alloc (.cells #[u] 22)) := by
  obtain ⟨d, rfl⟩ := hn.hd
  obtain ⟨hs', hl, hO, hu, hr, ha⟩ := h
  refine append_one (f := hdV) w0 hgd 31 Try.underlying31 Try.infoR rfl (by decide) hdV_one s x ho hs hO d hx (by omega) (by omega) ?_
  intro v' w' hO' gr
  have hG := Grid.joined (E := 22) (by decide) hl hO hr ha hn hBC hO' gr (Nat.le_trans hC gr.size) (Nat.le_refl _)
  exact hK v' w' hG (Within.of_grown gr fun k hk => ⟨hO.own_ge hk, hu k hk⟩)

set_option maxRecDepth 10000 in
set_option maxHeartbeats 1000000 in
theorem l13Orbits_any (v : Value) (B : Nat) (p : List Int) (w : World) (h : Ints w B v p) (hok : okPat p = true) :
    Calls Try.prog 19 #[v] w fun e w' => ∃ u, e = .returned u ∧ Grid 22 w' w.heap.size w'.heap.size u (orbs p) ∧ Below w.heap.size w w' := by
  obtain ⟨i0, hi0, hz0, hz1, hz2⟩ := info_parts Try.infoBl2
  obtain ⟨l1, l2⟩ := okPat_len hok
  have HPA := Lib.hid (fun j (hj : j < p.length) => okPat_at hok j hj)
  have HCE := Lib.hid (fun W (hW : Below w.heap.size w W) j (hj : j < p.length) => show ∃ g cap, v = .slice (some ⟨g, 0, none⟩) p.length cap ∧ W.cell? ⟨g, j, none⟩ = some (.int .i64 (p.getD j 0)) from by
    have hW := h.below hW
    rcases h.shape with ⟨rfl, rfl⟩ | ⟨g, cap, rfl, _, _, _⟩
    · simp at hj
    · exact ⟨g, cap, rfl, hW.cell j hj⟩)
  obtain ⟨g, cap, rfl⟩ : ∃ g cap, v = .slice (some ⟨g, 0, none⟩) p.length cap := by
    obtain ⟨g, cap, e, _⟩ := HCE.out w (Below.refl _ _) 0 (by omega)
    exact ⟨g, cap, e⟩
  have HC := Lib.hid (fun W (hW : Below w.heap.size w W) j (hj : j < p.length) => show W.cell? ⟨g, j, none⟩ = some (.int .i64 (p.getD j 0)) from by
    obtain ⟨g', cap', e, hc⟩ := HCE.out W hW j hj
    cases e
    exact hc)
  have HSK := Lib.hid (fun k (hk : k < p.length) => seenF_skip hok hk)
  have HSA := Lib.hid (fun k m j (hj : j < p.length) => seenL_at p k m j hj)
  have HSL := Lib.hid (fun k m => seenL_len p k m)
  have HSS := Lib.hid (fun k m (hk : k < p.length) => seenL_set (p := p) k m (itr_lt hok hk m))
  have HON := Lib.hid (fun k m (hk : k < p.length) (hf : lst p k = k) (hm : m < per p k) => seenF_on hok hk hf hm)
  have HBK := Lib.hid (fun k (hk : k < p.length) => seenF_back hok hk)
  have HAL := Lib.hid (fun k (hk : k < p.length) (hf : lst p k = k) => seenL_all hok hk hf)
  have HNO := Lib.hid (fun k (hk : k < p.length) (hf : lst p k ≠ k) => seenL_skip hok hk hf)
  have HOY := Lib.hid (fun k (hf : lst p k = k) => orbK_yes hf)
  have HOX := Lib.hid (fun k (hf : lst p k ≠ k) => orbK_no hf)
  have HOL := Lib.hid (orbK_len p)
  have HPE := Lib.hid (fun k (hk : k < p.length) => (per_spec hok hk).2.1)
  have HIL := Lib.hid (fun k m (hk : k < p.length) => itr_lt hok hk m)
  have HIN := Lib.hid (fun k m => show ((itr p k (m + 1) : Nat) : Int) = (((itr p k m : Nat) : Int) + p.getD (itr p k m) 0) % (p.length : Int) from nxt_cast hok _)
  have HWS := Lib.hid (wayK_snoc p)
  have HWL := Lib.hid (wayK_len p)
  have HWA := Lib.hid (wayK_all p)
  have hOA := orbK_all p
  have hSF := seenL_first p
  clear HCE h hok
  rw [← hOA]
  have hO0 : orbK p 0 = [] := rfl
  generalize p.length = n at *
  clear hOA
  go_enter Try.func19, Try.ntmps19
  go_wp2_with (at_make; refine wpList_make_full _ rfl _ _ 37 rfl w.heap.size 4 i0 (.bool false) 1 Try.underlying37 hi0 hz0 hz1 _ _ _ _ n rfl rfl rfl rfl (by rw [hz2]; omega) (by unfold maxLen; omega) (Nat.le_refl _) ?_)
  intro w1 hown hgr
  have hS : Bls2 w1 w.heap.size (.slice (some ⟨w.heap.size, 0, none⟩) n n) (seenL p 0 0) := by
    rw [hSF]
    unfold Bls2 Own
    simpa [toList_madeCells_one] using hown
  have b1 : Below w.heap.size w w1 := (Below.refl _ _).grown hgr (Nat.le_refl _) (by simp)
  have hs1 : w.heap.size + 1 ≤ w1.heap.size := by
    have := hS.under w.heap.size rfl
    omega
  have hG : Grid 22 (w1.alloc (.cells #[] 22)) (w.heap.size + 1) (w1.alloc (.cells #[] 22)).heap.size (.slice (some ⟨w1.heap.size, 0, none⟩) 0 0) (orbK p 0) := by
    rw [hO0]
    exact Grid.empty _ _ hs1 (by simp)
  have hS := hS.alloc (.cells #[] 22)
  have b1 := b1.alloc (by omega) (.cells #[] 22)
  have hs2 : w.heap.size + 1 ≤ (w1.alloc (.cells #[] 22)).heap.size := by simp; omega
  clear hown hgr hi0 hz0 hz1 hz2 hSF hO0 hs1
  go_wp2
  go_loopw [5, 6, 7, 8] (fun v i _ _ wr => ∃ k : Nat, k ≤ n ∧ i = .int .i64 k ∧ Bls2 wr w.heap.size (.slice (some ⟨w.heap.size, 0, none⟩) n n) (seenL p k 0) ∧ Grid 22 wr (w.heap.size + 1) wr.heap.size v (orbK p k) ∧ Below w.heap.size w wr ∧ w.heap.size + 1 ≤ wr.heap.size) (fun _ i _ _ _ => n - (intOf i).toNat)
  case atStart => exact ⟨0, Nat.zero_le _, rfl, hS, hG, b1, hs2⟩
  case round =>
    obtain ⟨k, hk, rfl, hr, hg, hb, hs⟩ := hrel
    clear hS hG b1 hs2
    by_cases hlt : k < n
    · have c1 := hr.cell false k (by rw [HSL.out]; exact hlt)
      rw [HSA.out k 0 k hlt, HSK.out k hlt] at c1
      by_cases hf : lst p k = k
      · rw [decide_eq_false (by simpa using hf)] at c1
        have hE : Ints (wr.alloc (.cells #[] 2)) wr.heap.size (.slice (some ⟨wr.heap.size, 0, none⟩) 0 0) (wayK p k 0) := by
          rw [wayK_zero]
          exact World.ownsRow_lit wr #[] 0 (Nat.le_refl _) (by simp [maxLen]) rfl
        have hr1 := hr.alloc (.cells #[] 2)
        have hg1 : Grid 22 (wr.alloc (.cells #[] 2)) (w.heap.size + 1) wr.heap.size u5 (orbK p k) := hg.below ((Below.refl _ _).alloc (Nat.le_refl _) _)
        have hb1 := hb.alloc (by omega) (.cells #[] 2)
        have hz1 : wr.heap.size ≤ (wr.alloc (.cells #[] 2)).heap.size := by simp
        have HSA' := Lib.hid (fun m j hj => HSA.out k m j hj)
        have HSS' := Lib.hid (fun m => HSS.out k m hlt)
        have HON' := Lib.hid (fun m hm => HON.out k m hlt hf hm)
        have HBK' := Lib.hid (HBK.out k hlt)
        have HIN' := Lib.hid (fun m => HIN.out k m)
        have HIL' := Lib.hid (fun m => HIL.out k m hlt)
        have HAL' := Lib.hid (HAL.out k hlt hf)
        have HOY' := Lib.hid (HOY.out k hf)
        have HWS' := Lib.hid (HWS.out k)
        have HWL' := Lib.hid (HWL.out k)
        have HWA' := Lib.hid (HWA.out k)
        have hpe := HPE.out k hlt
        have hol := HOL.out k
        obtain ⟨C, hC⟩ : ∃ C, wr.heap.size = C := ⟨_, rfl⟩
        have HCD := Lib.hid hC
        rw [hC] at hE hg1 hz1 hs
        clear hr hg hb hC HSK HSA HSS HON HBK HAL HNO HOY HOX HOL HPE HIL HIN HWS HWL HWA hf
        go_wp2
        go_loopw [7, 8] (fun o j wx => ∃ m : Nat, m ≤ per p k ∧ j = .int .i64 (itr p k m : Nat) ∧ Bls2 wx w.heap.size (.slice (some ⟨w.heap.size, 0, none⟩) n n) (seenL p k m) ∧ Ints wx C o (wayK p k m) ∧ Grid 22 wx (w.heap.size + 1) C u5 (orbK p k) ∧ Below w.heap.size w wx ∧ C ≤ wx.heap.size) (fun o _ _ => n - slLen o)
        case atStart => exact ⟨0, Nat.zero_le _, rfl, hr1, by rw [← HCD.out] at hE ⊢; exact hE, hg1, hb1, by rw [← HCD.out] at hz1 ⊢; exact hz1⟩
        case round =>
          obtain ⟨m, hm, rfl, hr, hi, hg, hb, hz⟩ := hrel
          clear hE hr1 hg1 hb1 hz1
          have hil := HIL'.out m
          have c2 := hr.cell false (itr p k m) (by rw [HSL.out]; exact hil)
          rw [HSA'.out m _ hil] at c2
          by_cases hmp : m < per p k
          · rw [HON'.out m hmp] at c2
            have hfree := hr.free (itr p k m)
            have hr2 := hr.set (itr p k m) true
            rw [HSS'.out m] at hr2
            have hi2 := hi.setElse w.heap.size (itr p k m) (.bool true) (by omega)
            have hg2 := hg.setElse w.heap.size (itr p k m) (.bool true) (by omega)
            have hb2 := hb.setCell (p := ⟨w.heap.size, itr p k m, none⟩) (Nat.le_refl _) (.bool true)
            have hz2 : C ≤ (wr.setCell ⟨w.heap.size, itr p k m, none⟩ (.bool true)).heap.size := by simpa using hz
            have hlen := HWL'.out m
            have hsl : slLen u7 = m := by rw [hi.slLen, hlen]
            have HP' := Lib.hid (fun W (hW : Below w.heap.size w W) => HC.out W hW _ hil)
            have hpb := HPA.out _ hil
            have HN' := Lib.hid (HIN'.out m)
            have HW' := Lib.hid (HWS'.out m)
            have HSZ := Lib.hid hsl
            clear hr hi hg hb hsl HSA' HSS' HON' HBK' HIN' HIL' HAL' HOY' HWS' HWL' HWA' HPA HC
            generalize itr p k m = q at *
            generalize p.getD q 0 = x at *
            go_wp2_with (at_builtin; refine append_int _ rfl _ _ rfl _ _ _ rfl hi2 (q : Int) (by rw [World.size_setCell]; rfl) (by omega) hz2 ?_; intro v' w3 hi3 hg3; refine Hid.out ?_)
            have hr3 : Bls2 w3 w.heap.size (.slice (some ⟨w.heap.size, 0, none⟩) n n) (seenL p k (m + 1)) := hr2.block fun j hj hlt => hg3.block j hlt fun e => by
              have := hi2.own_ge e.symm
              simp [Value.ownBlock] at hj
              omega
            have hgr3 : Grid 22 w3 (w.heap.size + 1) C u5 (orbK p k) := hg2.keep fun j hlt h1 h2 => hg3.block j hlt fun e => by
              have := hi2.own_ge e.symm
              omega
            have hb3 : Below w.heap.size w w3 := marked_below hb2 hi2 (by omega) hg3
            have hz3 : C ≤ w3.heap.size := Nat.le_trans hz2 hg3.size
            have c3 := HP'.out w3 hb3
            rw [← HW'.out] at hi3
            clear hg3 hi2 hg2 hb2 hr2 HP'
            refine Lib.hid ?_
            go_wp2
            go_roundw
            case rel => exact ⟨m + 1, by omega, by rw [HN'.out], hr3, hi3, hgr3, hb3, hz3⟩
            case measure => rw [hi3.slLen, HSZ.out, HW'.out, List.length_append, hlen]; simp; omega
          · obtain rfl : m = per p k := by omega
            rw [HBK'.out] at c2
            have hn' : Ints wr C u7 (ints (wayL p k)) := by rw [← HWA'.out]; exact hi
            obtain ⟨ya, yn, yc, rfl⟩ := hi.sl3
            have HR := Lib.hid hr
            have hNC : w.heap.size + 1 ≤ C := by omega
            have hol2 : (orbK p k).length ≤ 1000000 := by omega
            have HI := Lib.hid hn'
            clear hi hr HSA' HSS' HON' HBK' HIN' HIL' HWS' HWL' HWA' HPA HC hm hmp
            generalize per p k = M at *
            go_wp2_with (at_builtin; refine append_grid _ rfl _ _ rfl _ _ _ _ rfl hg _ _ rfl HI.out hol2 hNC hz ?_; intro v' w3 hg3 hk3; refine Hid.out ?_)
            have hr3 : Bls2 w3 w.heap.size (.slice (some ⟨w.heap.size, 0, none⟩) n n) (seenL p (k + 1) 0) := by
              have := HR.out
              rw [HAL'.out] at this
              exact this.block fun j hj hlt => hk3.block j hlt (by simp [Value.ownBlock] at hj; omega)
            have hb3 : Below w.heap.size w w3 := hk3.below hb (by omega) hb.size
            have hz3 : w.heap.size + 1 ≤ w3.heap.size := Nat.le_trans (by omega) hk3.size
            rw [← HOY'.out] at hg3
            clear hk3 hg hb HR HI hn'
            refine Lib.hid ?_
            go_wp2
            go_roundw
            case rel => exact ⟨k + 1, by omega, by go_num, hr3, hg3, hb3, hz3⟩
            case measure => simp [intOf]; omega
      · rw [decide_eq_true hf] at c1
        have e1 := Lib.hid (HNO.out k hlt hf)
        have e2 := Lib.hid (HOX.out k hf)
        have HR := Lib.hid hr
        have HG := Lib.hid hg
        clear hr hg HC HSK HSA HSL HSS HON HBK HAL HNO HOY HOX HOL HPE HIL HIN HWS HWL HWA HPA hf
        go_wp2
        go_roundw
        case rel => exact ⟨k + 1, by omega, by go_num, by rw [← e1.out]; exact HR.out, by rw [e2.out]; exact HG.out, hb, hs⟩
        case measure => simp [intOf]; omega
    · obtain rfl : k = n := by omega
      clear HC HSK HSA HSL HSS HON HBK HAL HNO HOY HOX HOL HPE HIL HIN HWS HWL HWA HPA
      go_wp2
      go_ret
      exact ⟨_, rfl, hg.widen (by omega) (Nat.le_refl _), hb⟩
end Go.Proofs.Ytlpeigeadjojnab
