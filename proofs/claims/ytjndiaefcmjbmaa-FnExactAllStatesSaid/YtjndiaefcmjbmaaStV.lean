/- The laws' own helpers on slices of states: eqStateS, markStateS, heldStateS. Conditions: bounds on lengths. -/
import Derived.Test.YtjndiaefcmjbmaaOwnK
import Derived.Test.YtjndiaefcmjbmaaInts
import Derived.Deep.RegionHeldLaw
import Derived.Deep.RegionLawGrows
namespace Go.Proofs.Ytjndiaefcmjbmaa
open Go.RowKit
set_option linter.unusedSimpArgs false
set_option linter.unusedVariables false

/-- a state: its height and its mask -/
abbrev Sta := Int × Int
def s0 : Sta := (0, 0)
def stV (t : Sta) : List Value := [.int .i64 t.1, .int .i64 t.2]
theorem stV_len (t : Sta) : (stV t).length = 2 := rfl
abbrev Sts (w : World) (B : Nat) (v : Value) (xs : List Sta) : Prop := OwnK 26 2 stV w B v xs
def fitS (t : Sta) : Prop := -9223372036854775808 ≤ t.1 ∧ t.1 ≤ 9223372036854775807
abbrev IsSts (w : World) (a : Option Addr) (len cap : Nat) (zs : List Sta) : Prop := IsK 2 stV fitS w a len cap zs
theorem Try.infoSt : (Try.prog.info? 26).map (fun i => (i.zero, i.size, i.bytes)) = some (some (.agg #[.int .i64 0, .int .i64 0]), 2, 16) := by kernel_rfl

/-- the two cells of a throw -/
def TwoS (w : World) (b o : Nat) (t : Sta) : Prop := w.cell? ⟨b, o, none⟩ = some (.int .i64 t.1) ∧ w.cell? ⟨b, o + 1, none⟩ = some (.int .i64 t.2)
theorem TwoS.below {w w' : World} {N b o : Nat} {t : Sta} (h : TwoS w b o t) (hb : Below N w w') (hN : b < N) : TwoS w' b o t :=
  ⟨(hb.cell (p := ⟨b, o, none⟩) hN).trans h.1, (hb.cell (p := ⟨b, o + 1, none⟩) hN).trans h.2⟩
theorem OwnK.twoS {w : World} {e : TypeId} {B g n cap : Nat} {xs : List Sta} (h : OwnK e 2 stV w B (.slice (some ⟨g, 0, none⟩) n cap) xs) (i : Nat) (hi : i < xs.length) : TwoS w g (i * 2) (xs.getD i s0) :=
  ⟨h.cell stV_len s0 i 0 hi (by decide), h.cell stV_len s0 i 1 hi (by decide)⟩
/-- an element is written -/
theorem OwnK.putS {w : World} {e : TypeId} {B g n cap : Nat} {xs : List Sta} (h : OwnK e 2 stV w B (.slice (some ⟨g, 0, none⟩) n cap) xs) (i : Nat) (hi : i < xs.length) (y : Sta) :
    OwnK e 2 stV ((w.setCell ⟨g, i * 2, none⟩ (.int .i64 y.1)).setCell ⟨g, i * 2 + 1, none⟩ (.int .i64 y.2)) B (.slice (some ⟨g, 0, none⟩) n cap) (xs.set i y) := by
  have h1 := h.put stV_len s0 i 0 (.int .i64 y.1) (y.1, (xs.getD i s0).2) hi (by decide) rfl
  have h2 := h1.put stV_len s0 i 1 (.int .i64 y.2) y (by simpa using hi) (by decide) (by simp [hi, stV])
  simpa [List.set_set] using h2
theorem below_twoS {w w' : World} {N g o : Nat} (h : Below N w w') (hg : N ≤ g) (a b : Value) : Below N w ((w'.setCell ⟨g, o, none⟩ a).setCell ⟨g, o + 1, none⟩ b) :=
  (h.setCell (p := ⟨g, o, none⟩) hg a).setCell (p := ⟨g, o + 1, none⟩) hg b
theorem take_set_st (zs : List Sta) (n k : Nat) (hk : k < n) (hn : n ≤ zs.length) :
    (zs.take k ++ List.replicate (n - k) s0).set k (zs.getD k s0) = zs.take (k + 1) ++ List.replicate (n - (k + 1)) s0 := by
  have e1 : zs.take (k + 1) = zs.take k ++ [zs.getD k s0] := by
    rw [List.take_succ_eq_append_getElem (by omega)]
    simp [show k < zs.length by omega]
  have hl : (zs.take k).length = k := by simp; omega
  rw [List.set_append_right _ _ (by omega), hl, Nat.sub_self, e1, List.append_assoc]
  congr 1
  rw [show n - k = (n - (k + 1)) + 1 by omega, List.replicate_succ]
  rfl

/-! ### comparing -/
set_option maxRecDepth 10000 in
theorem eqState_same (v : Int) (c : Int) (w : World) :
    Calls Try.prog 22 #[.agg #[.int .i64 v, .int .i64 c], .agg #[.int .i64 v, .int .i64 c]] w fun e w' => e = .returned (.bool true) ∧ Below w.heap.size w w' := by
  go_enter Try.func22, Try.ntmps22
  go_wp2
  go_ret
  exact ⟨rfl, ((Below.refl w.heap.size w).alloc (Nat.le_refl _) _).alloc (by simp) _⟩

set_option maxRecDepth 10000 in
set_option maxHeartbeats 400000 in
theorem eqStateS_row (g g' cap cap' B B' : Nat) (xs : List Sta) (w : World) (h : Sts w B (.slice (some ⟨g, 0, none⟩) xs.length cap) xs) (h' : Sts w B' (.slice (some ⟨g', 0, none⟩) xs.length cap') xs) (hg : g < w.heap.size) (hg' : g' < w.heap.size) :
    Calls Try.prog 15 #[.slice (some ⟨g, 0, none⟩) xs.length cap, .slice (some ⟨g', 0, none⟩) xs.length cap'] w fun e w' => e = .returned (.bool true) ∧ Below w.heap.size w w' := by
  have hm := h.len
  obtain ⟨n, hn⟩ : ∃ n, n = xs.length := ⟨_, rfl⟩
  have hc : ∀ i, i < n → TwoS w g (i * 2) (xs.getD i s0) := fun i hi => h.twoS i (by omega)
  have hc' : ∀ i, i < n → TwoS w g' (i * 2) (xs.getD i s0) := fun i hi => h'.twoS i (by omega)
  rw [← hn] at hm ⊢
  clear h h'
  have HN := Lib.hid hn
  clear hn
  go_enter Try.func15, Try.ntmps15
  go_wp2
  go_loopw [5] (fun i wr => ∃ k : Nat, k ≤ n ∧ i = .int .i64 k ∧ Below w.heap.size w wr) (fun i _ => n - (intOf i).toNat)
  case atStart => exact ⟨0, Nat.zero_le _, rfl, Below.refl _ _⟩
  case round =>
    obtain ⟨k, hk, rfl, hb⟩ := hrel
    by_cases hlt : k < n
    · obtain ⟨c0, c1⟩ := (hc k hlt).below hb hg
      obtain ⟨d0, d1⟩ := (hc' k hlt).below hb hg'
      have HE := Lib.hid (fun W (hW : Below wr.heap.size wr W) => show Calls Try.prog 22 #[.agg #[.int .i64 (xs.getD k s0).1, .int .i64 (xs.getD k s0).2], .agg #[.int .i64 (xs.getD k s0).1, .int .i64 (xs.getD k s0).2]] W fun e w' => e = .returned (.bool true) ∧ Below wr.heap.size wr w' from
        (eqState_same _ _ W).mono fun e w' ⟨h1, h2⟩ => ⟨h1, hW.trans (h2.mono hW.size)⟩)
      clear hc hc'
      generalize xs.getD k s0 = y at *
      obtain ⟨y0, y1⟩ := y
      simp only at c0 c1 d0 d1 HE
      go_wp2
      go_region_law (first | (go_simp; go_at_call 22; (with_reducible refine (HE.out _ ?_).mono ?_); (repeat (first | exact Below.refl _ _ | refine Below.drew ?_ | refine below_drewN ?_ _)); rintro e w2 ⟨rfl, b2⟩))
      all_goals go_wp2
      all_goals exact ⟨⟨k + 1, by omega, by go_num, hb.trans (b2.mono hb.size)⟩, by simp [intOf]; omega⟩
    · obtain rfl : k = n := by omega
      clear hc hc'
      go_wp2
      go_ret
      exact ⟨rfl, hb⟩

set_option maxRecDepth 10000 in
theorem eqStateS_zero (a a' : Option Addr) (cap cap' : Nat) (w : World) :
    Calls Try.prog 15 #[.slice a 0 cap, .slice a' 0 cap'] w fun e w' => e = .returned (.bool true) ∧ Below w.heap.size w w' := by
  go_enter Try.func15, Try.ntmps15
  go_wp2
  refine wp_loop_rounds 1 ?_
  rw [rounds_succ]
  go_wp2
  go_ret
  exact ⟨rfl, Below.refl _ _⟩

theorem eqStateS_any (v u : Value) (B B' : Nat) (xs : List Sta) (w : World) (h : Sts w B v xs) (h' : Sts w B' u xs) :
    Calls Try.prog 15 #[v, u] w fun e w' => e = .returned (.bool true) ∧ Below w.heap.size w w' := by
  rcases h.shape with ⟨rfl, rfl⟩ | ⟨g, cap, rfl, _, hg, _, _⟩
  · rcases h'.shape with ⟨rfl, _⟩ | ⟨g', cap', rfl, _, _, _, _⟩
    · exact eqStateS_zero _ _ _ _ _
    · exact eqStateS_zero _ _ _ _ _
  · rcases h'.shape with ⟨rfl, rfl⟩ | ⟨g', cap', rfl, _, hg', _, _⟩
    · exact eqStateS_zero _ _ _ _ _
    · exact eqStateS_row _ _ _ _ _ _ _ _ h h' hg hg'

/-! ### marks -/
def mkS (k : Int) : Sta := (k, k + 1)
def upsS (k : Int) (n : Nat) : List Sta := (List.range n).map fun i : Nat => mkS (k + 2 * (i : Int))
theorem upsS_len (k : Int) (n : Nat) : (upsS k n).length = n := by simp [upsS]
theorem upsS_get (k : Int) (n j : Nat) (h : j < n) : (upsS k n).getD j s0 = mkS (k + 2 * (j : Int)) := by simp [upsS, h]
theorem upsS_set (k : Int) (xs : List Sta) (j : Nat) (h : j < xs.length) : (upsS k j ++ xs.drop j).set j (mkS (k + 2 * (j : Int))) = upsS k (j + 1) ++ xs.drop (j + 1) := by
  have e1 : upsS k (j + 1) = upsS k j ++ [mkS (k + 2 * (j : Int))] := by simp [upsS, List.range_succ]
  rw [List.set_append_right _ _ (by rw [upsS_len]; exact Nat.le_refl _), upsS_len, Nat.sub_self, e1, List.append_assoc]
  congr 1
  rw [List.drop_eq_getElem_cons h]
  rfl
theorem grown_twoS {w wr : World} {g o : Nat} (h : w.grownBy wr (some g)) (a b : Value) : w.grownBy ((wr.setCell ⟨g, o, none⟩ a).setCell ⟨g, o + 1, none⟩ b) (some g) := by
  have one : ∀ (wr : World) (o : Nat) (a : Value), w.grownBy wr (some g) → w.grownBy (wr.setCell ⟨g, o, none⟩ a) (some g) := fun wr o a h =>
    ⟨h.os, h.tape, h.output, by simpa using h.size, fun k hk hne => by rw [Below.heap_setCell _ _ _ _ (by simpa using fun e => hne (by rw [e]))]; exact h.block k hk hne⟩
  exact one _ _ _ (one _ _ _ h)

set_option maxRecDepth 10000 in
set_option maxHeartbeats 400000 in
theorem markStateS_row (g cap B : Nat) (xs : List Sta) (k0 : Int) (w : World) (h : Sts w B (.slice (some ⟨g, 0, none⟩) xs.length cap) xs) (hk0 : 0 ≤ k0) (hk1 : k0 + 2 * xs.length ≤ 1000000000000) :
    Calls Try.prog 16 #[.slice (some ⟨g, 0, none⟩) xs.length cap, .int .i64 k0] w fun e w' =>
      e = .returned (.int .i64 (k0 + 2 * xs.length)) ∧ Sts w' B (.slice (some ⟨g, 0, none⟩) xs.length cap) (upsS k0 xs.length) ∧ w.grownBy w' (some g) := by
  have hm := h.len
  obtain ⟨n, hn⟩ : ∃ n, n = xs.length := ⟨_, rfl⟩
  have hs : Sts w B (.slice (some ⟨g, 0, none⟩) xs.length cap) (upsS k0 0 ++ xs.drop 0) := by simpa [upsS] using h
  rw [← hn] at hm hk1 hs ⊢
  clear h
  have HN := Lib.hid hn
  clear hn
  go_enter Try.func16, Try.ntmps16
  go_wp2
  go_loopw [1, 5] (fun c i wr => ∃ (k : Nat) (c0 : Int), k ≤ n ∧ i = .int .i64 k ∧ c = .int .i64 c0 ∧ Hid (c0 = k0 + 2 * k) ∧ Sts wr B (.slice (some ⟨g, 0, none⟩) n cap) (upsS k0 k ++ xs.drop k) ∧ w.grownBy wr (some g))
    (fun _ i _ => n - (intOf i).toNat)
  case atStart => exact ⟨0, k0, Nat.zero_le _, rfl, rfl, by unfold Hid; simp, hs, World.grownBy.refl _ _⟩
  case round =>
    obtain ⟨k, c, hk, rfl, rfl, hcc, hr, hg⟩ := hrel
    by_cases hlt : k < n
    · have hn := HN.out
      have hlen : k < (upsS k0 k ++ xs.drop k).length := by simp [upsS_len]; omega
      obtain ⟨d0, d1⟩ := hr.twoS k hlen
      have f0 := hr.free (k * 2)
      have f1 := hr.free (k * 2 + 1)
      have hN := hr.putS k hlen (mkS c)
      have hc := hcc.out
      have hc0 : 0 ≤ c := by omega
      have hc1 : c ≤ 1000000000000 := by omega
      have e := upsS_set k0 xs k (by omega)
      rw [← hc] at e
      rw [e] at hN
      have hgN := grown_twoS (o := k * 2) hg (.int .i64 c) (.int .i64 (c + 1))
      have HNN := Lib.hid hN
      have HGN := Lib.hid hgN
      have HC2 : Hid (c + 2 = k0 + 2 * ((k + 1 : Nat) : Int)) := by unfold Hid; omega
      clear hs hn hlen hN hgN hr hg e hc
      go_wp2
      rw [show c + 1 + 1 = c + 2 by omega]
      exact ⟨⟨k + 1, c + 2, by omega, by go_num, rfl, HC2, HNN.out, HGN.out⟩, by simp [intOf]; omega⟩
    · obtain rfl : k = n := by omega
      have hn := HN.out
      have hd : xs.drop k = [] := by simp; omega
      rw [hd, List.append_nil] at hr
      have hc := hcc.out
      subst hc
      clear hs hn hd
      go_wp2
      go_ret
      exact ⟨rfl, hr, hg⟩

set_option maxRecDepth 10000 in
theorem markStateS_zero (a : Option Addr) (cap : Nat) (k0 : Int) (w : World) :
    Calls Try.prog 16 #[.slice a 0 cap, .int .i64 k0] w fun e w' => e = .returned (.int .i64 k0) ∧ w = w' := by
  go_enter Try.func16, Try.ntmps16
  go_wp2
  refine wp_loop_rounds 1 ?_
  rw [rounds_succ]
  go_wp2
  go_ret
  exact ⟨rfl, rfl⟩

theorem markStateS_any (v : Value) (B : Nat) (xs : List Sta) (k0 : Int) (w : World) (h : Sts w B v xs) (hk0 : 0 ≤ k0) (hk1 : k0 + 2 * xs.length ≤ 1000000000000) :
    Calls Try.prog 16 #[v, .int .i64 k0] w fun e w' =>
      e = .returned (.int .i64 (k0 + 2 * xs.length)) ∧ Sts w' B v (upsS k0 xs.length) ∧ w.grownBy w' v.ownBlock := by
  rcases h.shape with ⟨rfl, rfl⟩ | ⟨g, cap, rfl, _, _, _⟩
  · refine (markStateS_zero _ _ _ _).mono ?_
    rintro e w' ⟨rfl, rfl⟩
    exact ⟨by simp, OwnK.nil _ _ _ _ _, World.grownBy.refl _ _⟩
  · exact markStateS_row _ _ _ _ _ _ h hk0 hk1

set_option maxRecDepth 10000 in
set_option maxHeartbeats 400000 in
theorem heldStateS_row (g cap B n : Nat) (k0 : Int) (w : World) (h : Sts w B (.slice (some ⟨g, 0, none⟩) n cap) (upsS k0 n)) (hg : g < w.heap.size) (hk0 : 0 ≤ k0) (hk1 : k0 + 2 * n ≤ 1000000000000) :
    Calls Try.prog 17 #[.slice (some ⟨g, 0, none⟩) n cap, .int .i64 k0] w fun e w' => e = .returned (.int .i64 (k0 + 2 * n)) ∧ Below w.heap.size w w' := by
  have hc : ∀ i, i < n → TwoS w g (i * 2) (mkS (k0 + 2 * (i : Int))) := fun i hi => by
    have := h.twoS i (by rw [upsS_len]; exact hi)
    rwa [upsS_get k0 n i hi] at this
  clear h
  go_enter Try.func17, Try.ntmps17
  go_wp2
  go_loopw [1, 5] (fun c i wr => ∃ (k : Nat) (c0 : Int), k ≤ n ∧ i = .int .i64 k ∧ c = .int .i64 c0 ∧ Hid (c0 = k0 + 2 * k) ∧ Below w.heap.size w wr)
    (fun _ i _ => n - (intOf i).toNat)
  case atStart => exact ⟨0, k0, Nat.zero_le _, rfl, rfl, by unfold Hid; simp, Below.refl _ _⟩
  case round =>
    obtain ⟨k, c, hk, rfl, rfl, hcc, hb⟩ := hrel
    by_cases hlt : k < n
    · have hh := hc k hlt
      rw [← hcc.out] at hh
      obtain ⟨d0, d1⟩ := hh.below hb hg
      have e := hcc.out
      have hc0 : 0 ≤ c := by omega
      have hc1 : c ≤ 1000000000000 := by omega
      have HC2 : Hid (c + 2 = k0 + 2 * ((k + 1 : Nat) : Int)) := by unfold Hid; omega
      simp only [mkS] at d0 d1
      clear hc hh e
      go_wp2
      rw [show c + 1 + 1 = c + 2 by omega]
      exact ⟨⟨k + 1, c + 2, by omega, by go_num, rfl, HC2, hb⟩, by simp [intOf]; omega⟩
    · obtain rfl : k = n := by omega
      have e := hcc.out
      subst e
      clear hc
      go_wp2
      go_ret
      exact ⟨rfl, hb⟩

set_option maxRecDepth 10000 in
theorem heldStateS_zero (a : Option Addr) (cap : Nat) (k0 : Int) (w : World) :
    Calls Try.prog 17 #[.slice a 0 cap, .int .i64 k0] w fun e w' => e = .returned (.int .i64 k0) ∧ Below w.heap.size w w' := by
  go_enter Try.func17, Try.ntmps17
  go_wp2
  refine wp_loop_rounds 1 ?_
  rw [rounds_succ]
  go_wp2
  go_ret
  exact ⟨rfl, Below.refl _ _⟩

theorem heldStateS_any (v : Value) (B n : Nat) (k0 : Int) (w : World) (h : Sts w B v (upsS k0 n)) (hk0 : 0 ≤ k0) (hk1 : k0 + 2 * n ≤ 1000000000000) :
    Calls Try.prog 17 #[v, .int .i64 k0] w fun e w' => e = .returned (.int .i64 (k0 + 2 * n)) ∧ Below w.heap.size w w' := by
  rcases h.shape with ⟨rfl, h0⟩ | ⟨g, cap, rfl, _, hg, _, _⟩
  · obtain rfl : n = 0 := by simpa [upsS_len] using congrArg List.length h0
    refine (heldStateS_zero _ _ _ _).mono ?_
    rintro e w' ⟨rfl, hb⟩
    exact ⟨by simp, hb⟩
  · rw [upsS_len] at h ⊢
    exact heldStateS_row _ _ _ _ _ _ h hg hk0 hk1
end Go.Proofs.Ytjndiaefcmjbmaa
