/- PairUp: what a map of throws by what they become holds. No conditions. -/
import Derived.Test.YtdgmmaghmdbnjaaPairS
import Derived.Maps.OwnSet
import Derived.DeepKeys4
namespace Go.Proofs.Ytdgmmaghmdbnjaa
open Go.RowKit
open Go.Maps (Keyed)
set_option linter.unusedSimpArgs false
set_option linter.unusedVariables false

theorem pairUp_spec (v : Value) (B : Nat) (p : List Int) (w : World) (h : Ints w B v p) :
    Calls Try.prog 34 #[v] w fun e w' => ∃ u, e = .returned (.tuple #[u, .int .i64 (pairC p)]) ∧ Syns w' w.heap.size u (pairR p) ∧ Below w.heap.size w w' := by
  have HO := l02Ok_any v B p w h
  cases hok : okPat p with
  | false =>
    obtain ⟨e1, e2⟩ := pair_bad hok
    rw [e1, e2]
    rw [hok] at HO
    clear h hok e1 e2
    go_enter Try.func34, Try.ntmps34
    go_wp2_with fail
    refine HO.mono ?_
    rintro e w1 ⟨rfl, b1⟩
    go_wp2
    go_ret2
    first | exact ⟨_, rfl, OwnK.nil _ _ _ _ _, b1⟩ | exact ⟨rfl, OwnK.nil _ _ _ _ _, b1⟩
  | true =>
    rw [hok] at HO
    obtain ⟨g, cap, rfl, _, _, _, _⟩ := h.shape2 (okPat_len hok).1
    exact pairUp_spec_row g p.length cap B p w h rfl hok _ _ rfl rfl HO

/-! ### keys -/
theorem Try.pairLaid : laidOutB Try.prog = true := by kernel_rfl
theorem pairRow : (112 : TypeId) < Try.prog.types.size := of_decide_eq_true (by kernel_rfl)
theorem pairWide : (match Try.prog.underlying 112 with | some (.array _ _) | some (.struct _) => true | _ => false) = true := by kernel_rfl
set_option maxRecDepth 100000 in
theorem pairKeyed : Keyed Try.prog 112 := Keyed.of_law (deep_law_laid Try.pairLaid (m := 2) (by omega) pairRow (by kernel_rfl) pairWide)
theorem pairZero (w : World) : (zeroValue 100).run Try.prog w = .ok (.agg #[.int .i64 0, .bool false]) w := by kernel_rfl
def keyV (h v : Int) : Value := .agg #[.int .i64 h, .int .i64 v]
theorem cellsKey : Try.prog.cellsOf 112 = 2 := by kernel_rfl
theorem cellsI : Try.prog.cellsOf 3 = 1 := by kernel_rfl
theorem cellsI64 : Try.prog.cellsOf 2 = 1 := by kernel_rfl
theorem key_some (h v : Int) (h0 : 0 ≤ h) (h1 : h ≤ 1) (h2 : -100 ≤ v) (h3 : v ≤ 100) : ∃ l, keyOf Try.prog 112 (keyV h v) = some l := by
  have e1 : (Lit.int .i64 h).wf = true := WalkArith.wf_i64 (by omega)
  have e2 : (Lit.int .i64 v).wf = true := WalkArith.wf_i64 (by omega)
  have hkt : Try.prog.keyType 112 = true := by kernel_rfl
  have hf : (keyV h v).formed Try.prog 112 = true := by simp [keyV, Value.formed, Try.underlying112, cellsKey]
  obtain ⟨m, hm⟩ : ∃ m, Try.prog.types.size + 1 = m + 2 := ⟨Try.prog.types.size - 1, by have h9 : 1 ≤ Try.prog.types.size := Nat.lt_of_le_of_lt (Nat.zero_le _) pairRow; omega⟩
  have hL : Try.prog.keyLits (m + 2) 112 [.int .i64 h, .int .i64 v] = some [.int .i64 h, .int .i64 v] := by
    unfold Program.keyLits
    rw [Try.underlying112]
    simp [cellsKey, cellsI, cellsI64, Program.keyLits, Try.underlying3, Try.underlying2, e1, e2]
  refine ⟨.string (keyBytes [.int .i64 h, .int .i64 v]), ?_⟩
  unfold keyOf
  rw [Try.underlying112]
  simp only [hkt, hf, Bool.and_self, if_true, hm]
  have hcs : (keyV h v).cells.toList = [.int .i64 h, .int .i64 v] := rfl
  rw [hcs, hL]
  rfl
/-- the key's literal -/
noncomputable def klit (h v : Int) : Lit := (keyOf Try.prog 112 (keyV h v)).getD (.bool false)
theorem klit_key {h v : Int} (h0 : 0 ≤ h) (h1 : h ≤ 1) (h2 : -100 ≤ v) (h3 : v ≤ 100) : keyOf Try.prog 112 (keyV h v) = some (klit h v) := by
  obtain ⟨l, hl⟩ := key_some h v h0 h1 h2 h3
  rw [klit, hl]; rfl
theorem klit_inj {h v h' v' : Int} (h0 : 0 ≤ h) (h1 : h ≤ 1) (h2 : -100 ≤ v) (h3 : v ≤ 100) (k0 : 0 ≤ h') (k1 : h' ≤ 1) (k2 : -100 ≤ v') (k3 : v' ≤ 100) (e : klit h v = klit h' v') : h = h' ∧ v = v' := by
  have e1 := klit_key h0 h1 h2 h3
  have e2 := klit_key k0 k1 k2 k3
  rw [e] at e1
  have := pairKeyed.inj e1 e2
  simpa [keyV] using this

/-! ### elements -/
abbrev DU := DataW Unit
def thrR : Value → Option (DU × List MemPlace)
  | .agg ⟨[.int .i64 a, .bool b]⟩ => some (.agg [.lit (.int .i64 a), .lit (.bool b)], [])
  | _ => none
def thrD (t : Thr) : DU := .agg [.lit (.int .i64 t.1), .lit (.bool t.2)]
theorem thrR_mk (t : Thr) : thrR (.agg #[.int .i64 t.1, .bool t.2]) = some (thrD t, []) := rfl
theorem thrR_inv {v : Value} {t : Thr} {ps : List MemPlace} (h : thrR v = some (thrD t, ps)) : v = .agg #[.int .i64 t.1, .bool t.2] := by
  unfold thrR at h
  split at h
  · simp only [thrD, Option.some.injEq, Prod.mk.injEq, DataW.agg.injEq, List.cons.injEq, DataW.lit.injEq, Lit.int.injEq, Lit.bool.injEq, true_and, and_true] at h
    obtain ⟨⟨rfl, rfl⟩, _⟩ := h
    rfl
  · cases h
theorem thrR_some {v : Value} {d : DU} {ps : List MemPlace} (h : thrR v = some (d, ps)) : ∃ t : Thr, v = .agg #[.int .i64 t.1, .bool t.2] ∧ d = thrD t := by
  unfold thrR at h
  split at h
  · rename_i a b
    simp only [Option.some.injEq, Prod.mk.injEq] at h
    exact ⟨(a, b), rfl, h.1.symm⟩
  · cases h

/-- the throws in the order in which they are laid into the map -/
def thrNo (i : Nat) : Thr := (((i / 2 : Nat) : Int), decide (i % 2 = 1))
/-- the map behind the first j throws -/
def SlidMap (D : DU) (j : Nat) : Prop :=
  Maps.IsMap D ∧ (∀ h : Nat, h ≤ 1 → ∀ v : Int, -100 ≤ v → v ≤ 100 → Maps.has D (klit h v) = true → ∃ i, i < j ∧ okT (thrNo i) = true ∧ slid (thrNo i) h = v ∧ D.atKey (klit h v) (thrD t0) = thrD (thrNo i)) ∧
  (∀ i, i < j → okT (thrNo i) = true → ∀ h : Nat, h ≤ 1 → Maps.has D (klit h (slid (thrNo i) h)) = true)
theorem SlidMap.zero : SlidMap (.map []) 0 := ⟨Maps.isMap_empty, fun h _ v _ _ hh => by simp [Maps.has] at hh, fun i hi => absurd hi (Nat.not_lt_zero _)⟩
theorem SlidMap.skip {D : DU} {j : Nat} (h : SlidMap D j) (hn : okT (thrNo j) = false) : SlidMap D (j + 1) := by
  refine ⟨h.1, fun g hg v v0 v1 hh => ?_, fun i hi hok g hg => ?_⟩
  · obtain ⟨i, h1, h2, h3, h4⟩ := h.2.1 g hg v v0 v1 hh
    exact ⟨i, by omega, h2, h3, h4⟩
  · by_cases e : i = j
    · subst e; rw [hn] at hok; cases hok
    · exact h.2.2 i (by omega) hok g hg
theorem slid_bound {t : Thr} (h : okT t = true) (g : Nat) : -100 ≤ slid t g ∧ slid t g ≤ 100 := by
  have := okT_num h
  unfold slid
  split
  · split <;> omega
  · omega
set_option maxRecDepth 100000 in
theorem SlidMap.add {D : DU} {j : Nat} (h : SlidMap D j) (hn : okT (thrNo j) = true) : SlidMap ((D.put (klit 0 (slid (thrNo j) 0)) (thrD (thrNo j))).put (klit 1 (slid (thrNo j) 1)) (thrD (thrNo j))) (j + 1) := by
  have b0 := slid_bound hn 0
  have b1 := slid_bound hn 1
  have k0 : WideAt.IsKeyLit (klit 0 (slid (thrNo j) 0)) := pairKeyed.key (v := keyV 0 (slid (thrNo j) 0)) (klit_key (h := 0) (by omega) (by omega) b0.1 b0.2)
  have k1 : WideAt.IsKeyLit (klit 1 (slid (thrNo j) 1)) := pairKeyed.key (v := keyV 1 (slid (thrNo j) 1)) (klit_key (h := 1) (by omega) (by omega) b1.1 b1.2)
  have hne : klit 0 (slid (thrNo j) 0) ≠ klit 1 (slid (thrNo j) 1) := fun e => by
    have := (klit_inj (by decide) (by decide) b0.1 b0.2 (by decide) (by decide) b1.1 b1.2 e).1
    exact absurd this (by decide)
  have m1 := h.1.put (klit 0 (slid (thrNo j) 0)) (thrD (thrNo j))
  refine ⟨m1.put _ _, fun g hg v v0 v1 hh => ?_, fun i hi hok g hg => ?_⟩
  · by_cases e1 : klit g v = klit 1 (slid (thrNo j) 1)
    · have e2 := klit_inj (by omega) (by omega) v0 v1 (by decide) (by decide) b1.1 b1.2 e1
      obtain rfl : g = 1 := by omega
      refine ⟨j, by omega, hn, e2.2.symm, ?_⟩
      rw [e1]
      exact Maps.atKey_put_same m1 k1 _ _
    · rw [Maps.has_put_other e1] at hh
      by_cases e3 : klit g v = klit 0 (slid (thrNo j) 0)
      · have e4 := klit_inj (by omega) (by omega) v0 v1 (by decide) (by decide) b0.1 b0.2 e3
        obtain rfl : g = 0 := by omega
        refine ⟨j, by omega, hn, e4.2.symm, ?_⟩
        rw [Maps.atKey_put_other e1, e3]
        exact Maps.atKey_put_same h.1 k0 _ _
      · rw [Maps.has_put_other e3] at hh
        obtain ⟨i, h1, h2, h3, h4⟩ := h.2.1 g hg v v0 v1 hh
        exact ⟨i, by omega, h2, h3, by rw [Maps.atKey_put_other e1, Maps.atKey_put_other e3]; exact h4⟩
  · by_cases e1 : klit g (slid (thrNo i) g) = klit 1 (slid (thrNo j) 1)
    · rw [e1]; exact Maps.has_put_same m1 k1 _
    · rw [Maps.has_put_other e1]
      by_cases e3 : klit g (slid (thrNo i) g) = klit 0 (slid (thrNo j) 0)
      · rw [e3]; exact Maps.has_put_same h.1 k0 _
      · rw [Maps.has_put_other e3]
        by_cases e : i = j
        · subst e
          exfalso
          rcases (show g = 0 ∨ g = 1 by omega) with rfl | rfl
          · exact e3 rfl
          · exact e1 rfl
        · exact h.2.2 i (by omega) hok g hg
/-- what is found in the whole map -/
theorem SlidMap.look {D : DU} (h : SlidMap D 30) (g : Nat) (hg : g ≤ 1) (v : Int) (v0 : 0 ≤ v) (v1 : v ≤ 15) : Maps.has D (klit g v) = okT (backT v g) ∧ (okT (backT v g) = true → D.atKey (klit g v) (thrD t0) = thrD (backT v g)) := by
  have hg' : g = 0 ∨ g = 1 := by omega
  cases hok : okT (backT v g) with
  | true =>
    have hv := okT_iff.1 hok
    obtain ⟨i, hi, he⟩ : ∃ i, i < 30 ∧ thrNo i = backT v g := by
      cases hc : (backT v g).2 with
      | false => exact ⟨2 * ((backT v g).1 / 1).toNat, by omega, by
          have e : thrNo (2 * ((backT v g).1 / 1).toNat) = ((backT v g).1, false) := by
            simp only [thrNo, Int.ediv_one, Prod.mk.injEq]
            exact ⟨by omega, by simp⟩
          rw [e, ← hc]⟩
      | true => exact ⟨2 * ((backT v g).1 / 1).toNat + 1, by omega, by
          have e : thrNo (2 * ((backT v g).1 / 1).toNat + 1) = ((backT v g).1, true) := by
            simp only [thrNo, Int.ediv_one, Prod.mk.injEq]
            exact ⟨by omega, by simp⟩
          rw [e, ← hc]⟩
    have hh := h.2.2 i hi (by rw [he]; exact hok) g hg
    rw [he, slid_back hg'] at hh
    refine ⟨hh, fun _ => ?_⟩
    obtain ⟨i', h1, h2, h3, h4⟩ := h.2.1 g hg v (by omega) (by omega) hh
    rw [h4]
    have := back_slid hg' h2
    rw [h3] at this
    rw [this]
  | false =>
    refine ⟨?_, fun e => by cases e⟩
    cases hh : Maps.has D (klit g v) with
    | false => rfl
    | true =>
      obtain ⟨i', h1, h2, h3, h4⟩ := h.2.1 g hg v (by omega) (by omega) hh
      have := back_slid hg' h2
      rw [h3] at this
      rw [this, h2] at hok
      cases hok
end Go.Proofs.Ytdgmmaghmdbnjaa
