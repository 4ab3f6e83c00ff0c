/- The laws' own helpers on slices of arcs: eqArcS, markArcS, heldArcS. Conditions: bounds on lengths. -/
import Derived.Test.YtblllikenjofoaaDoorArA
import Derived.Test.YtblllikenjofoaaDoorOwnK
import Derived.Test.YtblllikenjofoaaDoorInts
import Derived.Deep.RegionHeldLaw
import Derived.Deep.RegionLawGrows
namespace Go.Proofs.YtblllikenjofoaaDoor
open Go.RowKit
set_option linter.unusedSimpArgs false
set_option linter.unusedVariables false

def a0 : ArcT := (0, 0, 0)
def arcV (t : ArcT) : List Value := [.int .i64 t.1, .int .i64 t.2.1, .int .i64 t.2.2]
theorem arcV_len (t : ArcT) : (arcV t).length = 3 := rfl
abbrev Arcs (w : World) (B : Nat) (v : Value) (xs : List ArcT) : Prop := OwnK 40 3 arcV w B v xs
theorem Tryd.infoArc : (Tryd.prog.info? 40).map (fun i => (i.zero, i.size, i.bytes)) = some (some (.agg #[.int .i64 0, .int .i64 0, .int .i64 0]), 3, 24) := by kernel_rfl

/-- the three cells of an arc -/
def ThreeA (w : World) (b o : Nat) (t : ArcT) : Prop := w.cell? ⟨b, o, none⟩ = some (.int .i64 t.1) ∧ w.cell? ⟨b, o + 1, none⟩ = some (.int .i64 t.2.1) ∧ w.cell? ⟨b, o + 2, none⟩ = some (.int .i64 t.2.2)
theorem ThreeA.below {w w' : World} {N b o : Nat} {t : ArcT} (h : ThreeA w b o t) (hb : Below N w w') (hN : b < N) : ThreeA w' b o t :=
  ⟨(hb.cell (p := ⟨b, o, none⟩) hN).trans h.1, (hb.cell (p := ⟨b, o + 1, none⟩) hN).trans h.2.1, (hb.cell (p := ⟨b, o + 2, none⟩) hN).trans h.2.2⟩
theorem OwnK.threeA {w : World} {e : TypeId} {B g n cap : Nat} {xs : List ArcT} (h : OwnK e 3 arcV w B (.slice (some ⟨g, 0, none⟩) n cap) xs) (i : Nat) (hi : i < xs.length) : ThreeA w g (i * 3) (xs.getD i a0) :=
  ⟨h.cell arcV_len a0 i 0 hi (by decide), h.cell arcV_len a0 i 1 hi (by decide), h.cell arcV_len a0 i 2 hi (by decide)⟩
theorem OwnK.putA {w : World} {e : TypeId} {B g n cap : Nat} {xs : List ArcT} (h : OwnK e 3 arcV w B (.slice (some ⟨g, 0, none⟩) n cap) xs) (i : Nat) (hi : i < xs.length) (y : ArcT) :
    OwnK e 3 arcV (((w.setCell ⟨g, i * 3, none⟩ (.int .i64 y.1)).setCell ⟨g, i * 3 + 1, none⟩ (.int .i64 y.2.1)).setCell ⟨g, i * 3 + 2, none⟩ (.int .i64 y.2.2)) B (.slice (some ⟨g, 0, none⟩) n cap) (xs.set i y) := by
  have h1 := h.put arcV_len a0 i 0 (.int .i64 y.1) (y.1, (xs.getD i a0).2.1, (xs.getD i a0).2.2) hi (by decide) rfl
  have h2 := h1.put arcV_len a0 i 1 (.int .i64 y.2.1) (y.1, y.2.1, (xs.getD i a0).2.2) (by simpa using hi) (by decide) (by simp [hi, arcV])
  have h3 := h2.put arcV_len a0 i 2 (.int .i64 y.2.2) y (by simpa using hi) (by decide) (by simp [hi, arcV])
  simpa [List.set_set] using h3

/-! ### comparing -/
set_option maxRecDepth 10000 in
theorem eqArc_same (a b c : Int) (w : World) :
    Calls Tryd.prog 59 #[.agg #[.int .i64 a, .int .i64 b, .int .i64 c], .agg #[.int .i64 a, .int .i64 b, .int .i64 c]] w fun e w' => e = .returned (.bool true) ∧ Below w.heap.size w w' := by
  go_enter Tryd.func59, Tryd.ntmps59
  go_wp2
  go_ret
  exact ⟨rfl, ((Below.refl w.heap.size w).alloc (Nat.le_refl _) _).alloc (by simp) _⟩

set_option maxRecDepth 10000 in
set_option maxHeartbeats 400000 in
theorem eqArcS_row (g g' cap cap' B B' : Nat) (xs : List ArcT) (w : World) (h : Arcs w B (.slice (some ⟨g, 0, none⟩) xs.length cap) xs) (h' : Arcs w B' (.slice (some ⟨g', 0, none⟩) xs.length cap') xs) (hg : g < w.heap.size) (hg' : g' < w.heap.size) :
    Calls Tryd.prog 22 #[.slice (some ⟨g, 0, none⟩) xs.length cap, .slice (some ⟨g', 0, none⟩) xs.length cap'] w fun e w' => e = .returned (.bool true) ∧ Below w.heap.size w w' := by
  have hm := h.len
  obtain ⟨n, hn⟩ : ∃ n, n = xs.length := ⟨_, rfl⟩
  have hc : ∀ i, i < n → ThreeA w g (i * 3) (xs.getD i a0) := fun i hi => h.threeA i (by omega)
  have hc' : ∀ i, i < n → ThreeA w g' (i * 3) (xs.getD i a0) := fun i hi => h'.threeA i (by omega)
  rw [← hn] at hm ⊢
  clear h h'
  have HN := Lib.hid hn
  clear hn
  go_enter Tryd.func22, Tryd.ntmps22
  go_wp2
  go_loopw [5] (fun i wr => ∃ k : Nat, k ≤ n ∧ i = .int .i64 k ∧ Below w.heap.size w wr) (fun i _ => n - (intOf i).toNat)
  case atStart => exact ⟨0, Nat.zero_le _, rfl, Below.refl _ _⟩
  case round =>
    obtain ⟨k, hk, rfl, hb⟩ := hrel
    by_cases hlt : k < n
    · obtain ⟨c0, c1, c2⟩ := (hc k hlt).below hb hg
      obtain ⟨d0, d1, d2⟩ := (hc' k hlt).below hb hg'
      have HE := Lib.hid (fun W (hW : Below wr.heap.size wr W) => show Calls Tryd.prog 59 #[.agg #[.int .i64 (xs.getD k a0).1, .int .i64 (xs.getD k a0).2.1, .int .i64 (xs.getD k a0).2.2], .agg #[.int .i64 (xs.getD k a0).1, .int .i64 (xs.getD k a0).2.1, .int .i64 (xs.getD k a0).2.2]] W fun e w' => e = .returned (.bool true) ∧ Below wr.heap.size wr w' from
        (eqArc_same _ _ _ W).mono fun e w' ⟨h1, h2⟩ => ⟨h1, hW.trans (h2.mono hW.size)⟩)
      clear hc hc'
      generalize xs.getD k a0 = y at *
      obtain ⟨y0, y1, y2⟩ := y
      simp only at c0 c1 c2 d0 d1 d2 HE
      go_wp2
      go_region_law (first | (go_simp; go_at_call 59; (with_reducible refine (HE.out _ ?_).mono ?_); (repeat (first | exact Below.refl _ _ | refine Below.drew ?_ | refine below_drewN ?_ _)); rintro e w2 ⟨rfl, b2⟩))
      all_goals go_wp2
      all_goals exact ⟨⟨k + 1, by omega, by go_num, hb.trans (b2.mono hb.size)⟩, by simp [intOf]; omega⟩
    · obtain rfl : k = n := by omega
      clear hc hc'
      go_wp2
      go_ret
      exact ⟨rfl, hb⟩

set_option maxRecDepth 10000 in
theorem eqArcS_zero (a a' : Option Addr) (cap cap' : Nat) (w : World) :
    Calls Tryd.prog 22 #[.slice a 0 cap, .slice a' 0 cap'] w fun e w' => e = .returned (.bool true) ∧ Below w.heap.size w w' := by
  go_enter Tryd.func22, Tryd.ntmps22
  go_wp2
  refine wp_loop_rounds 1 ?_
  rw [rounds_succ]
  go_wp2
  go_ret
  exact ⟨rfl, Below.refl _ _⟩

theorem eqArcS_any (v u : Value) (B B' : Nat) (xs : List ArcT) (w : World) (h : Arcs w B v xs) (h' : Arcs w B' u xs) :
    Calls Tryd.prog 22 #[v, u] w fun e w' => e = .returned (.bool true) ∧ Below w.heap.size w w' := by
  rcases h.shape with ⟨rfl, rfl⟩ | ⟨g, cap, rfl, _, hg, _, _⟩
  · rcases h'.shape with ⟨rfl, _⟩ | ⟨g', cap', rfl, _, _, _, _⟩
    · exact eqArcS_zero _ _ _ _ _
    · exact eqArcS_zero _ _ _ _ _
  · rcases h'.shape with ⟨rfl, rfl⟩ | ⟨g', cap', rfl, _, hg', _, _⟩
    · exact eqArcS_zero _ _ _ _ _
    · exact eqArcS_row _ _ _ _ _ _ _ _ h h' hg hg'

/-! ### marks -/
def mkA (k : Int) : ArcT := (k, k + 1, k + 2)
def upsA (k : Int) (n : Nat) : List ArcT := (List.range n).map fun i : Nat => mkA (k + 3 * (i : Int))
theorem upsA_len (k : Int) (n : Nat) : (upsA k n).length = n := by simp [upsA]
theorem upsA_get (k : Int) (n j : Nat) (h : j < n) : (upsA k n).getD j a0 = mkA (k + 3 * (j : Int)) := by simp [upsA, h]
theorem upsA_set (k : Int) (xs : List ArcT) (j : Nat) (h : j < xs.length) : (upsA k j ++ xs.drop j).set j (mkA (k + 3 * (j : Int))) = upsA k (j + 1) ++ xs.drop (j + 1) := by
  have e1 : upsA k (j + 1) = upsA k j ++ [mkA (k + 3 * (j : Int))] := by simp [upsA, List.range_succ]
  rw [List.set_append_right _ _ (by rw [upsA_len]; exact Nat.le_refl _), upsA_len, Nat.sub_self, e1, List.append_assoc]
  congr 1
  rw [List.drop_eq_getElem_cons h]
  rfl
theorem grown_threeA {w wr : World} {g o : Nat} (h : w.grownBy wr (some g)) (a b c : Value) : w.grownBy (((wr.setCell ⟨g, o, none⟩ a).setCell ⟨g, o + 1, none⟩ b).setCell ⟨g, o + 2, none⟩ c) (some g) := by
  have one : ∀ (wr : World) (o : Nat) (a : Value), w.grownBy wr (some g) → w.grownBy (wr.setCell ⟨g, o, none⟩ a) (some g) := fun wr o a h =>
    ⟨h.os, h.tape, h.output, by simpa using h.size, fun k hk hne => by rw [Below.heap_setCell _ _ _ _ (by simpa using fun e => hne (by rw [e]))]; exact h.block k hk hne⟩
  exact one _ _ _ (one _ _ _ (one _ _ _ h))

set_option maxRecDepth 10000 in
set_option maxHeartbeats 800000 in
theorem markArcS_row (g cap B : Nat) (xs : List ArcT) (k0 : Int) (w : World) (h : Arcs w B (.slice (some ⟨g, 0, none⟩) xs.length cap) xs) (hk0 : 0 ≤ k0) (hk1 : k0 + 3 * xs.length ≤ 1000000000000) :
    Calls Tryd.prog 23 #[.slice (some ⟨g, 0, none⟩) xs.length cap, .int .i64 k0] w fun e w' =>
      e = .returned (.int .i64 (k0 + 3 * xs.length)) ∧ Arcs w' B (.slice (some ⟨g, 0, none⟩) xs.length cap) (upsA k0 xs.length) ∧ w.grownBy w' (some g) := by
  have hm := h.len
  obtain ⟨n, hn⟩ : ∃ n, n = xs.length := ⟨_, rfl⟩
  have hs : Arcs w B (.slice (some ⟨g, 0, none⟩) xs.length cap) (upsA k0 0 ++ xs.drop 0) := by simpa [upsA] using h
  rw [← hn] at hm hk1 hs ⊢
  clear h
  have HN := Lib.hid hn
  clear hn
  go_enter Tryd.func23, Tryd.ntmps23
  go_wp2
  go_loopw [1, 5] (fun c i wr => ∃ (k : Nat) (c0 : Int), k ≤ n ∧ i = .int .i64 k ∧ c = .int .i64 c0 ∧ Hid (c0 = k0 + 3 * k) ∧ Arcs wr B (.slice (some ⟨g, 0, none⟩) n cap) (upsA k0 k ++ xs.drop k) ∧ w.grownBy wr (some g))
    (fun _ i _ => n - (intOf i).toNat)
  case atStart => exact ⟨0, k0, Nat.zero_le _, rfl, rfl, by unfold Hid; simp, hs, World.grownBy.refl _ _⟩
  case round =>
    obtain ⟨k, c, hk, rfl, rfl, hcc, hr, hg⟩ := hrel
    by_cases hlt : k < n
    · have hn := HN.out
      have hlen : k < (upsA k0 k ++ xs.drop k).length := by simp [upsA_len]; omega
      obtain ⟨d0, d1, d2⟩ := hr.threeA k hlen
      have f0 := hr.free (k * 3)
      have f1 := hr.free (k * 3 + 1)
      have f2 := hr.free (k * 3 + 2)
      have hN := hr.putA k hlen (mkA c)
      have hc := hcc.out
      have hc0 : 0 ≤ c := by omega
      have hc1 : c ≤ 1000000000000 := by omega
      have e := upsA_set k0 xs k (by omega)
      rw [← hc] at e
      rw [e] at hN
      have hgN := grown_threeA (o := k * 3) hg (.int .i64 c) (.int .i64 (c + 1)) (.int .i64 (c + 2))
      have HNN := Lib.hid hN
      have HGN := Lib.hid hgN
      have HC2 : Hid (c + 3 = k0 + 3 * ((k + 1 : Nat) : Int)) := by unfold Hid; omega
      clear hs hn hlen hN hgN hr hg e hc
      go_wp2
      rw [show c + 1 + 1 + 1 = c + 3 by omega, show c + 1 + 1 = c + 2 by omega]
      exact ⟨⟨k + 1, c + 3, by omega, by go_num, rfl, HC2, HNN.out, HGN.out⟩, by simp [intOf]; omega⟩
    · obtain rfl : k = n := by omega
      have hn := HN.out
      have hd : xs.drop k = [] := by simp; omega
      rw [hd, List.append_nil] at hr
      have hc := hcc.out
      subst hc
      clear hs hn hd
      go_wp2
      go_ret
      exact ⟨rfl, hr, hg⟩

set_option maxRecDepth 10000 in
theorem markArcS_zero (a : Option Addr) (cap : Nat) (k0 : Int) (w : World) :
    Calls Tryd.prog 23 #[.slice a 0 cap, .int .i64 k0] w fun e w' => e = .returned (.int .i64 k0) ∧ w = w' := by
  go_enter Tryd.func23, Tryd.ntmps23
  go_wp2
  refine wp_loop_rounds 1 ?_
  rw [rounds_succ]
  go_wp2
  go_ret
  exact ⟨rfl, rfl⟩

theorem markArcS_any (v : Value) (B : Nat) (xs : List ArcT) (k0 : Int) (w : World) (h : Arcs w B v xs) (hk0 : 0 ≤ k0) (hk1 : k0 + 3 * xs.length ≤ 1000000000000) :
    Calls Tryd.prog 23 #[v, .int .i64 k0] w fun e w' =>
      e = .returned (.int .i64 (k0 + 3 * xs.length)) ∧ Arcs w' B v (upsA k0 xs.length) ∧ w.grownBy w' v.ownBlock := by
  rcases h.shape with ⟨rfl, rfl⟩ | ⟨g, cap, rfl, _, _, _⟩
  · refine (markArcS_zero _ _ _ _).mono ?_
    rintro e w' ⟨rfl, rfl⟩
    exact ⟨by simp, OwnK.nil _ _ _ _ _, World.grownBy.refl _ _⟩
  · exact markArcS_row _ _ _ _ _ _ h hk0 hk1

set_option maxRecDepth 10000 in
set_option maxHeartbeats 800000 in
theorem heldArcS_row (g cap B n : Nat) (k0 : Int) (w : World) (h : Arcs w B (.slice (some ⟨g, 0, none⟩) n cap) (upsA k0 n)) (hg : g < w.heap.size) (hk0 : 0 ≤ k0) (hk1 : k0 + 3 * n ≤ 1000000000000) :
    Calls Tryd.prog 24 #[.slice (some ⟨g, 0, none⟩) n cap, .int .i64 k0] w fun e w' => e = .returned (.int .i64 (k0 + 3 * n)) ∧ Below w.heap.size w w' := by
  have hc : ∀ i, i < n → ThreeA w g (i * 3) (mkA (k0 + 3 * (i : Int))) := fun i hi => by
    have := h.threeA i (by rw [upsA_len]; exact hi)
    rwa [upsA_get k0 n i hi] at this
  clear h
  go_enter Tryd.func24, Tryd.ntmps24
  go_wp2
  go_loopw [1, 5] (fun c i wr => ∃ (k : Nat) (c0 : Int), k ≤ n ∧ i = .int .i64 k ∧ c = .int .i64 c0 ∧ Hid (c0 = k0 + 3 * k) ∧ Below w.heap.size w wr)
    (fun _ i _ => n - (intOf i).toNat)
  case atStart => exact ⟨0, k0, Nat.zero_le _, rfl, rfl, by unfold Hid; simp, Below.refl _ _⟩
  case round =>
    obtain ⟨k, c, hk, rfl, rfl, hcc, hb⟩ := hrel
    by_cases hlt : k < n
    · have hh := hc k hlt
      rw [← hcc.out] at hh
      obtain ⟨d0, d1, d2⟩ := hh.below hb hg
      have e := hcc.out
      have hc0 : 0 ≤ c := by omega
      have hc1 : c ≤ 1000000000000 := by omega
      have HC2 : Hid (c + 3 = k0 + 3 * ((k + 1 : Nat) : Int)) := by unfold Hid; omega
      simp only [mkA] at d0 d1 d2
      have hq : c + 1 + 1 = c + 2 := by omega
      clear hc hh e
      go_wp2
      rw [show c + 2 + 1 = c + 3 by omega]
      exact ⟨⟨k + 1, c + 3, by omega, by go_num, rfl, HC2, hb⟩, by simp [intOf]; omega⟩
    · obtain rfl : k = n := by omega
      have e := hcc.out
      subst e
      clear hc
      go_wp2
      go_ret
      exact ⟨rfl, hb⟩

set_option maxRecDepth 10000 in
theorem heldArcS_zero (a : Option Addr) (cap : Nat) (k0 : Int) (w : World) :
    Calls Tryd.prog 24 #[.slice a 0 cap, .int .i64 k0] w fun e w' => e = .returned (.int .i64 k0) ∧ Below w.heap.size w w' := by
  go_enter Tryd.func24, Tryd.ntmps24
  go_wp2
  refine wp_loop_rounds 1 ?_
  rw [rounds_succ]
  go_wp2
  go_ret
  exact ⟨rfl, Below.refl _ _⟩

theorem heldArcS_any (v : Value) (B n : Nat) (k0 : Int) (w : World) (h : Arcs w B v (upsA k0 n)) (hk0 : 0 ≤ k0) (hk1 : k0 + 3 * n ≤ 1000000000000) :
    Calls Tryd.prog 24 #[v, .int .i64 k0] w fun e w' => e = .returned (.int .i64 (k0 + 3 * n)) ∧ Below w.heap.size w w' := by
  rcases h.shape with ⟨rfl, h0⟩ | ⟨g, cap, rfl, _, hg, _, _⟩
  · obtain rfl : n = 0 := by simpa [upsA_len] using congrArg List.length h0
    refine (heldArcS_zero _ _ _ _).mono ?_
    rintro e w' ⟨rfl, hb⟩
    exact ⟨by simp, hb⟩
  · rw [upsA_len] at h ⊢
    exact heldArcS_row _ _ _ _ _ _ h hg hk0 hk1
end Go.Proofs.YtblllikenjofoaaDoor
