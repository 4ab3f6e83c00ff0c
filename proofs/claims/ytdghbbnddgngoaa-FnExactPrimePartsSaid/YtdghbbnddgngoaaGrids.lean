/- The laws' own helpers on slices of slices of numbers: szInt64SS, toInt64SS, eqInt64SS, markInt64SS, heldInt64SS. Conditions: bounds on lengths. -/
import Derived.Test.YtdghbbnddgngoaaGrid
import Derived.Test.YtdghbbnddgngoaaInts
import Derived.Deep.RegionHeld3
import Derived.Deep.DeepCutAuto
namespace Go.Proofs.Ytdghbbnddgngoaa
open Go.RowKit
set_option linter.unusedSimpArgs false
set_option linter.unusedVariables false

/-- rows that came in -/
def IsRows (w : World) (a : Option Addr) (len cap : Nat) (A : Nat → Option Addr) (L C : Nat → Nat) (Z : Nat → List Int) : Prop :=
  (a = none ∧ len = 0 ∧ cap = 0) ∨ ∃ x, a = some x ∧ len ≤ cap ∧ cap ≤ maxLen ∧ ∀ r, r < cap → w.cell? (x.add r) = some (.slice (A r) (L r) (C r)) ∧ IsRow .i64 w (A r) (L r) (C r) (Z r)
/-- what they hold -/
def rowsL (len : Nat) (L : Nat → Nat) (Z : Nat → List Int) : List (List Int) := (List.range len).map fun r => (Z r).take (L r)
theorem rowsL_len (len : Nat) (L : Nat → Nat) (Z : Nat → List Int) : (rowsL len L Z).length = len := by simp [rowsL]
theorem rowsL_at (len : Nat) (L : Nat → Nat) (Z : Nat → List Int) (r : Nat) (h : r < len) : (rowsL len L Z).getD r [] = (Z r).take (L r) := by simp [rowsL, h]

/-- how many numbers rows hold -/
def totL (pss : List (List Int)) : Nat := (pss.map List.length).sum
theorem totL_take (pss : List (List Int)) (i : Nat) (h : i < pss.length) : totL (pss.take (i + 1)) = totL (pss.take i) + (pss.getD i []).length := by
  unfold totL
  rw [List.take_succ_eq_append_getElem h, List.map_append, List.sum_append]
  simp [h]
theorem totL_take_le (pss : List (List Int)) (i : Nat) : totL (pss.take i) ≤ totL pss := by
  have h : totL pss = totL (pss.take i) + totL (pss.drop i) := by
    unfold totL
    rw [← List.sum_append, ← List.map_append, List.take_append_drop]
  omega
/-- rows of marks from k on -/
def upsG : Int → List (List Int) → List (List Int)
  | _, [] => []
  | k, p :: r => ups k p.length :: upsG (k + p.length) r
theorem upsG_len : ∀ (k : Int) (pss : List (List Int)), (upsG k pss).length = pss.length
  | _, [] => rfl
  | k, p :: r => by simp [upsG, upsG_len]
theorem upsG_snoc : ∀ (k : Int) (pss : List (List Int)) (p : List Int), upsG k (pss ++ [p]) = upsG k pss ++ [ups (k + (totL pss : Int)) p.length]
  | k, [], p => by simp [upsG, totL]
  | k, q :: r, p => by
    rw [List.cons_append, upsG, upsG_snoc (k + q.length) r p, upsG]
    have e : k + (q.length : Int) + (totL r : Int) = k + (totL (q :: r) : Int) := by simp [totL]; omega
    rw [e, List.cons_append]
theorem upsG_at (k : Int) (pss : List (List Int)) (i : Nat) (h : i < pss.length) : (upsG k pss).getD i [] = ups (k + (totL (pss.take i) : Int)) (pss.getD i []).length := by
  induction pss generalizing k i with
  | nil => simp at h
  | cons p r ih =>
    cases i with
    | zero => simp [upsG, totL]
    | succ i =>
      have := ih (k + p.length) i (by simpa using h)
      rw [show (upsG k (p :: r)).getD (i + 1) [] = (upsG (k + p.length) r).getD i [] by simp [upsG], this]
      have e : k + (p.length : Int) + (totL (r.take i) : Int) = k + (totL ((p :: r).take (i + 1)) : Int) := by simp [totL]; omega
      rw [e]
      simp
theorem upsG_step (k : Int) (pss : List (List Int)) (i : Nat) (h : i < pss.length) :
    (upsG k (pss.take i) ++ pss.drop i).set i (ups (k + (totL (pss.take i) : Int)) (pss.getD i []).length) = upsG k (pss.take (i + 1)) ++ pss.drop (i + 1) := by
  have hl : (upsG k (pss.take i)).length = i := by rw [upsG_len]; simp; omega
  rw [List.take_succ_eq_append_getElem h, upsG_snoc, List.set_append_right _ _ (by omega), hl, Nat.sub_self, List.drop_eq_getElem_cons h, List.set_cons_zero, List.append_assoc]
  simp [h]
theorem upsG_cur (k : Int) (pss : List (List Int)) (i : Nat) (h : i < pss.length) : (upsG k (pss.take i) ++ pss.drop i).getD i [] = pss.getD i [] := by
  have hl : (upsG k (pss.take i)).length = i := by rw [upsG_len]; simp; omega
  rw [List.getD_eq_getElem?_getD, List.getElem?_append_right (by omega), hl, Nat.sub_self, List.drop_eq_getElem_cons h]
  simp [h]

theorem eqInt64SS_any (v u : Value) (E : TypeId) (B B' C C' : Nat) (pss : List (List Int)) (w : World) (h : Grid E w B C v pss) (h' : Grid E w B' C' u pss) :
    Calls Try.prog 27 #[v, u] w fun e w' => e = .returned (.bool true) ∧ Below w.heap.size w w' := by
  have hsh := h.shape
  have hsh' := h'.shape
  by_cases hz : pss = []
  · subst hz
    have hz : ∀ {x : Value}, ((x = .slice none 0 0 ∧ ([] : List (List Int)) = []) ∨ ∃ g cap, x = .slice (some ⟨g, 0, none⟩) ([] : List (List Int)).length cap ∧ True) → ∃ a cap, x = .slice a 0 cap := by
      rintro x (⟨rfl, _⟩ | ⟨g, cap, rfl, _⟩)
      · exact ⟨_, _, rfl⟩
      · exact ⟨_, _, rfl⟩
    obtain ⟨a, cap, rfl⟩ : ∃ a cap, v = .slice a 0 cap := by
      rcases hsh with ⟨rfl, _⟩ | ⟨g, cap, rfl, _⟩ <;> exact ⟨_, _, rfl⟩
    obtain ⟨a', cap', rfl⟩ : ∃ a cap, u = .slice a 0 cap := by
      rcases hsh' with ⟨rfl, _⟩ | ⟨g, cap, rfl, _⟩ <;> exact ⟨_, _, rfl⟩
    clear hsh hsh' h h' hz
    go_enter Try.func27, Try.ntmps27
    go_wp2
    refine wp_loop_rounds 1 ?_
    rw [rounds_succ]
    go_wp2
    go_ret
    exact ⟨rfl, Below.refl _ _⟩
  · obtain ⟨g, cap, rfl, _, hg, _, hm⟩ := hsh.resolve_left fun e => hz e.2
    obtain ⟨g', cap', rfl, _, hg', _, _⟩ := hsh'.resolve_left fun e => hz e.2
    clear hsh hsh'
    have hlen := h.len
    obtain ⟨n, hn⟩ : ∃ n, n = pss.length := ⟨_, rfl⟩
    rw [← hn] at h h' hlen ⊢
    have HN := Lib.hid hn
    clear hn
    go_enter Try.func27, Try.ntmps27
    go_wp2
    go_loopw [5] (fun i wr => ∃ k : Nat, k ≤ n ∧ i = .int .i64 k ∧ Below w.heap.size w wr) (fun i _ => n - (intOf i).toNat)
    case atStart => exact ⟨0, Nat.zero_le _, rfl, Below.refl _ _⟩
    case round =>
      obtain ⟨k, hk, rfl, hb⟩ := hrel
      by_cases hlt : k < n
      · obtain ⟨x, hx, i1, _⟩ := h.row k (by rw [← HN.out]; exact hlt)
        obtain ⟨y, hy, i2, _⟩ := h'.row k (by rw [← HN.out]; exact hlt)
        have hcall : ∀ W, Below w.heap.size w W → Calls Try.prog 28 #[x, y] W fun e w' => e = .returned (.bool true) ∧ Below w.heap.size w w' ∧ w'.cell? ⟨g, k, none⟩ = some x ∧ w'.cell? ⟨g', k, none⟩ = some y := fun W hW => by
          refine (eqInt64S_any x y _ _ _ W (i1.below hW) (i2.below hW)).mono ?_
          rintro e w1 ⟨rfl, hb1⟩
          have hb2 := hW.trans (hb1.mono hW.size)
          exact ⟨rfl, hb2, by rw [hb2.cell hg]; exact hx, by rw [hb2.cell hg']; exact hy⟩
        have hx1 : wr.cell? ⟨g, k, none⟩ = some x := by rw [hb.cell hg]; exact hx
        have hy1 : wr.cell? ⟨g', k, none⟩ = some y := by rw [hb.cell hg']; exact hy
        have HC := Lib.hid hcall
        clear hcall hx hy i1 i2 h h'
        go_wp2
        go_region_held3 (fun W => Below w.heap.size w W ∧ W.cell? ⟨g, k, none⟩ = some x ∧ W.cell? ⟨g', k, none⟩ = some y) (first | exact ⟨by assumption, by assumption, by assumption⟩ | exact ⟨Below.drew (by assumption), by assumption, by assumption⟩) (first | (go_at_call 28; (with_reducible refine (HC.out _ ?_).mono ?_); (first | assumption | exact Below.drew (by assumption)); rintro e w1 ⟨rfl, hb1, hx1, hy1⟩))
        go_wp2
        go_roundw
        case rel => exact ⟨k + 1, by omega, by go_num, by assumption⟩
        case measure => simp [intOf]; omega
      · obtain rfl : k = n := by omega
        go_wp2
        go_ret
        exact ⟨rfl, hb⟩

theorem markInt64SS_any (v : Value) (E : TypeId) (hE : E ≠ 2) (B C : Nat) (pss : List (List Int)) (k0 : Int) (w : World) (h : Grid E w B C v pss) (hk0 : 0 ≤ k0) (hk1 : k0 + totL pss ≤ 100000000000) :
    Calls Try.prog 30 #[v, .int .i64 k0] w fun e w' => e = .returned (.int .i64 (k0 + totL pss)) ∧ Grid E w' B C v (upsG k0 pss) ∧ Within B C w w' := by
  have hsh := h.shape
  by_cases hz : pss = []
  · subst hz
    obtain ⟨a, cap, rfl⟩ : ∃ a cap, v = .slice a 0 cap := by
      rcases hsh with ⟨rfl, _⟩ | ⟨g, cap, rfl, _⟩ <;> exact ⟨_, _, rfl⟩
    have h0 : upsG k0 [] = [] := rfl
    have h1 : k0 + (totL [] : Int) = k0 := by simp [totL]
    rw [h0, h1]
    clear hsh h0 h1
    go_enter Try.func30, Try.ntmps30
    go_wp2
    refine wp_loop_rounds 1 ?_
    rw [rounds_succ]
    go_wp2
    go_ret
    exact ⟨rfl, h, Within.refl _ _ _⟩
  · obtain ⟨g, cap, rfl, _, hg, _, hm⟩ := hsh.resolve_left fun e => hz e.2
    clear hsh
    have hlen := h.len
    obtain ⟨n, hn⟩ : ∃ n, n = pss.length := ⟨_, rfl⟩
    have hs : Grid E w B C (.slice (some ⟨g, 0, none⟩) n cap) (upsG k0 (pss.take 0) ++ pss.drop 0) := by rw [hn]; simpa [upsG] using h
    have ht0 : totL (pss.take 0) = 0 := rfl
    rw [← hn] at hlen ⊢
    have HN := Lib.hid hn
    have hK : ∀ i, totL (pss.take i) ≤ totL pss := totL_take_le pss
    clear hn h
    go_enter Try.func30, Try.ntmps30
    go_wp2
    go_loopw [1, 5] (fun c i wr => ∃ k c0 : Nat, k ≤ n ∧ i = .int .i64 k ∧ c = .int .i64 (k0 + c0) ∧ Hid (c0 = totL (pss.take k)) ∧ Grid E wr B C (.slice (some ⟨g, 0, none⟩) n cap) (upsG k0 (pss.take k) ++ pss.drop k) ∧ Within B C w wr)
      (fun _ i _ => n - (intOf i).toNat)
    case atStart => exact ⟨0, 0, Nat.zero_le _, rfl, by simp, ht0.symm, hs, Within.refl _ _ _⟩
    case round =>
      obtain ⟨k, c0, hk, rfl, rfl, hc0, hr, hW⟩ := hrel
      by_cases hlt : k < n
      · have hkp : k < pss.length := by rw [← HN.out]; exact hlt
        have hlk : k < (upsG k0 (pss.take k) ++ pss.drop k).length := by simp [upsG_len]; omega
        obtain ⟨x, hx, i1, ix⟩ := hr.row k hlk
        rw [upsG_cur k0 pss k hkp] at i1
        have hst := totL_take pss k hkp
        have hle := hK (k + 1)
        have hc := hc0.out
        have hcall := markInt64S_any x B (pss.getD k []) (k0 + c0) wr i1 (by omega) (by omega)
        have hb2 : c0 + (pss.getD k []).length ≤ 100000000000 := by omega
        have hgo : ∀ w1, Ints w1 B x (ups (k0 + c0) (pss.getD k []).length) → wr.grownBy w1 x.ownBlock → Grid E w1 B C (.slice (some ⟨g, 0, none⟩) n cap) (upsG k0 (pss.take (k + 1)) ++ pss.drop (k + 1)) ∧ Within B C wr w1 := fun w1 hi hgr => by
          have := hr.wrote hE k hlk hx hi hgr
          rw [hc, upsG_step k0 pss k hkp] at this
          exact this
        have HGO := Lib.hid hgo
        have HST := Lib.hid (show c0 + (pss.getD k []).length = totL (pss.take (k + 1)) by omega)
        generalize (pss.getD k []).length = m at *
        generalize hup : ups (k0 + c0) m = um at *
        clear hgo hst hle hc i1 hlk hkp hs hK ht0
        go_wp2_with fail
        refine hcall.mono ?_
        rintro e w1 ⟨rfl, hi1, hgr⟩
        obtain ⟨g1, g2⟩ := HGO.out w1 hi1 hgr
        have g3 := hW.trans g2
        clear hi1 hgr g2 hr hW
        go_wp2
        go_roundw
        case rel => exact ⟨k + 1, c0 + m, by omega, by go_num, by go_num, HST, g1, g3⟩
        case measure => simp [intOf]; omega
      · obtain rfl : k = n := by omega
        have hc := hc0.out
        have e1 : pss.take k = pss := List.take_of_length_le (by rw [← HN.out]; exact Nat.le_refl _)
        have e2 : pss.drop k = [] := List.drop_eq_nil_of_le (by rw [← HN.out]; exact Nat.le_refl _)
        rw [e1] at hc hr
        rw [e2, List.append_nil] at hr
        subst hc
        clear hs hK ht0 e1 e2
        go_wp2
        go_ret
        exact ⟨rfl, hr, hW⟩

theorem heldInt64SS_any (v : Value) (E : TypeId) (B C : Nat) (pss : List (List Int)) (k0 : Int) (w : World) (h : Grid E w B C v (upsG k0 pss)) (hk0 : 0 ≤ k0) (hk1 : k0 + totL pss ≤ 100000000000) :
    Calls Try.prog 31 #[v, .int .i64 k0] w fun e w' => e = .returned (.int .i64 (k0 + totL pss)) ∧ Below w.heap.size w w' := by
  have hsh := h.shape
  by_cases hz : pss = []
  · subst hz
    obtain ⟨a, cap, rfl⟩ : ∃ a cap, v = .slice a 0 cap := by
      rcases hsh with ⟨rfl, _⟩ | ⟨g, cap, rfl, _⟩ <;> exact ⟨_, _, rfl⟩
    have h1 : k0 + (totL [] : Int) = k0 := by simp [totL]
    rw [h1]
    clear hsh h1 h
    go_enter Try.func31, Try.ntmps31
    go_wp2
    refine wp_loop_rounds 1 ?_
    rw [rounds_succ]
    go_wp2
    go_ret
    exact ⟨rfl, Below.refl _ _⟩
  · have hln : (upsG k0 pss).length = pss.length := upsG_len k0 pss
    obtain ⟨g, cap, rfl, _, hg, _, hm⟩ := hsh.resolve_left fun e => hz (by have e2 := e.2; cases pss with
      | nil => rfl
      | cons p r => simp [upsG] at e2)
    clear hsh
    have hlen := h.len
    rw [hln] at h hlen ⊢
    obtain ⟨n, hn⟩ : ∃ n, n = pss.length := ⟨_, rfl⟩
    have hrow := fun i (hi : i < pss.length) => h.row i (by rw [hln]; exact hi)
    have hat := fun i (hi : i < pss.length) => upsG_at k0 pss i hi
    have ht0 : totL (pss.take 0) = 0 := rfl
    have hK : ∀ i, totL (pss.take i) ≤ totL pss := totL_take_le pss
    rw [← hn] at hlen ⊢
    have HN := Lib.hid hn
    clear hn h hln
    go_enter Try.func31, Try.ntmps31
    go_wp2
    go_loopw [1, 5] (fun c i wr => ∃ k c0 : Nat, k ≤ n ∧ i = .int .i64 k ∧ c = .int .i64 (k0 + c0) ∧ Hid (c0 = totL (pss.take k)) ∧ Below w.heap.size w wr)
      (fun _ i _ => n - (intOf i).toNat)
    case atStart => exact ⟨0, 0, Nat.zero_le _, rfl, by simp, ht0.symm, Below.refl _ _⟩
    case round =>
      obtain ⟨k, c0, hk, rfl, rfl, hc0, hb⟩ := hrel
      by_cases hlt : k < n
      · have hkp : k < pss.length := by rw [← HN.out]; exact hlt
        obtain ⟨x, hx, i1, ix⟩ := hrow k hkp
        rw [hat k hkp] at i1
        have hst := totL_take pss k hkp
        have hle := hK (k + 1)
        have hc := hc0.out
        rw [← hc] at i1
        have hcall := heldInt64S_any x B (pss.getD k []).length (k0 + c0) wr (i1.below hb) (by omega) (by omega)
        have hb2 : c0 + (pss.getD k []).length ≤ 100000000000 := by omega
        have hx1 : wr.cell? ⟨g, k, none⟩ = some x := by rw [hb.cell hg]; exact hx
        have HST := Lib.hid (show c0 + (pss.getD k []).length = totL (pss.take (k + 1)) by omega)
        generalize (pss.getD k []).length = m at *
        have hnn : ¬ (k0 + (c0 : Int) + (m : Int)) < 0 := by omega
        clear hst hle hc i1 hkp hK ht0 hx hrow hat
        go_wp2_with fail
        refine hcall.mono ?_
        rintro e w1 ⟨rfl, hb1⟩
        have g3 := hb.trans (hb1.mono hb.size)
        clear hb1 hb
        go_wp2
        go_roundw
        case rel => exact ⟨k + 1, c0 + m, by omega, by go_num, by go_num, HST, g3⟩
        case measure => simp [intOf]; omega
      · obtain rfl : k = n := by omega
        have hc := hc0.out
        have e1 : pss.take k = pss := List.take_of_length_le (by rw [← HN.out]; exact Nat.le_refl _)
        rw [e1] at hc
        subst hc
        clear hK ht0 e1 hrow hat
        go_wp2
        go_ret
        exact ⟨rfl, hb⟩

/-- what szInt64S answers -/
def szR (left n : Int) : Int := if left - n < 0 then -1 else left - n
end Go.Proofs.Ytdghbbnddgngoaa
