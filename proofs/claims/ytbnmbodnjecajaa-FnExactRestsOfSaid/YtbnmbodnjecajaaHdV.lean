/- The laws' own helpers on slices of hand throws: eqHandThrowS, markHandThrowS, heldHandThrowS. Conditions: bounds on lengths. -/
import Derived.Test.YtbnmbodnjecajaaHdA
import Derived.Test.YtbnmbodnjecajaaOwnK
import Derived.Test.YtbnmbodnjecajaaInts
import Derived.Deep.RegionHeldLaw
import Derived.Deep.RegionLawGrows
namespace Go.Proofs.Ytbnmbodnjecajaa
open Go.RowKit
set_option linter.unusedSimpArgs false
set_option linter.unusedVariables false

def ht0 : HthT := (0, 0, 0, 0)
def hthV (t : HthT) : List Value := [.int .i64 t.1, .int .i64 t.2.1, .int .i64 t.2.2.1, .int .i64 t.2.2.2]
theorem hthV_len (t : HthT) : (hthV t).length = 4 := rfl
abbrev Hths (w : World) (B : Nat) (v : Value) (xs : List HthT) : Prop := OwnK 58 4 hthV w B v xs
theorem Try.infoHth : (Try.prog.info? 58).map (fun i => (i.zero, i.size, i.bytes)) = some (some (.agg #[.int .i64 0, .int .i64 0, .int .i64 0, .int .i64 0]), 4, 32) := by kernel_rfl

/-- the four cells of a hand throw -/
def FourH (w : World) (b o : Nat) (t : HthT) : Prop := w.cell? ⟨b, o, none⟩ = some (.int .i64 t.1) ∧ w.cell? ⟨b, o + 1, none⟩ = some (.int .i64 t.2.1) ∧ w.cell? ⟨b, o + 2, none⟩ = some (.int .i64 t.2.2.1) ∧ w.cell? ⟨b, o + 3, none⟩ = some (.int .i64 t.2.2.2)
theorem FourH.below {w w' : World} {N b o : Nat} {t : HthT} (h : FourH w b o t) (hb : Below N w w') (hN : b < N) : FourH w' b o t :=
  ⟨(hb.cell (p := ⟨b, o, none⟩) hN).trans h.1, (hb.cell (p := ⟨b, o + 1, none⟩) hN).trans h.2.1, (hb.cell (p := ⟨b, o + 2, none⟩) hN).trans h.2.2.1, (hb.cell (p := ⟨b, o + 3, none⟩) hN).trans h.2.2.2⟩
theorem OwnK.fourH {w : World} {e : TypeId} {B g n cap : Nat} {xs : List HthT} (h : OwnK e 4 hthV w B (.slice (some ⟨g, 0, none⟩) n cap) xs) (i : Nat) (hi : i < xs.length) : FourH w g (i * 4) (xs.getD i ht0) :=
  ⟨h.cell hthV_len ht0 i 0 hi (by decide), h.cell hthV_len ht0 i 1 hi (by decide), h.cell hthV_len ht0 i 2 hi (by decide), h.cell hthV_len ht0 i 3 hi (by decide)⟩
theorem OwnK.putH {w : World} {e : TypeId} {B g n cap : Nat} {xs : List HthT} (h : OwnK e 4 hthV w B (.slice (some ⟨g, 0, none⟩) n cap) xs) (i : Nat) (hi : i < xs.length) (y : HthT) :
    OwnK e 4 hthV ((((w.setCell ⟨g, i * 4, none⟩ (.int .i64 y.1)).setCell ⟨g, i * 4 + 1, none⟩ (.int .i64 y.2.1)).setCell ⟨g, i * 4 + 2, none⟩ (.int .i64 y.2.2.1)).setCell ⟨g, i * 4 + 3, none⟩ (.int .i64 y.2.2.2)) B (.slice (some ⟨g, 0, none⟩) n cap) (xs.set i y) := by
  have h1 := h.put hthV_len ht0 i 0 (.int .i64 y.1) (y.1, (xs.getD i ht0).2.1, (xs.getD i ht0).2.2.1, (xs.getD i ht0).2.2.2) hi (by decide) rfl
  have h2 := h1.put hthV_len ht0 i 1 (.int .i64 y.2.1) (y.1, y.2.1, (xs.getD i ht0).2.2.1, (xs.getD i ht0).2.2.2) (by simpa using hi) (by decide) (by simp [hi, hthV])
  have h3 := h2.put hthV_len ht0 i 2 (.int .i64 y.2.2.1) (y.1, y.2.1, y.2.2.1, (xs.getD i ht0).2.2.2) (by simpa using hi) (by decide) (by simp [hi, hthV])
  have h4 := h3.put hthV_len ht0 i 3 (.int .i64 y.2.2.2) y (by simpa using hi) (by decide) (by simp [hi, hthV])
  simpa [List.set_set] using h4

/-! ### comparing -/
set_option maxRecDepth 10000 in
theorem eqHandThrow_same (a b c d : Int) (w : World) :
    Calls Try.prog 56 #[.agg #[.int .i64 a, .int .i64 b, .int .i64 c, .int .i64 d], .agg #[.int .i64 a, .int .i64 b, .int .i64 c, .int .i64 d]] w fun e w' => e = .returned (.bool true) ∧ Below w.heap.size w w' := by
  go_enter Try.func56, Try.ntmps56
  go_wp2
  go_ret
  exact ⟨rfl, ((Below.refl w.heap.size w).alloc (Nat.le_refl _) _).alloc (by simp) _⟩

set_option maxRecDepth 10000 in
set_option maxHeartbeats 400000 in
theorem eqHandThrowS_row (g g' cap cap' B B' : Nat) (xs : List HthT) (w : World) (h : Hths w B (.slice (some ⟨g, 0, none⟩) xs.length cap) xs) (h' : Hths w B' (.slice (some ⟨g', 0, none⟩) xs.length cap') xs) (hg : g < w.heap.size) (hg' : g' < w.heap.size) :
    Calls Try.prog 24 #[.slice (some ⟨g, 0, none⟩) xs.length cap, .slice (some ⟨g', 0, none⟩) xs.length cap'] w fun e w' => e = .returned (.bool true) ∧ Below w.heap.size w w' := by
  have hm := h.len
  obtain ⟨n, hn⟩ : ∃ n, n = xs.length := ⟨_, rfl⟩
  have hc : ∀ i, i < n → FourH w g (i * 4) (xs.getD i ht0) := fun i hi => h.fourH i (by omega)
  have hc' : ∀ i, i < n → FourH w g' (i * 4) (xs.getD i ht0) := fun i hi => h'.fourH i (by omega)
  rw [← hn] at hm ⊢
  clear h h'
  have HN := Lib.hid hn
  clear hn
  go_enter Try.func24, Try.ntmps24
  go_wp2
  go_loopw [5] (fun i wr => ∃ k : Nat, k ≤ n ∧ i = .int .i64 k ∧ Below w.heap.size w wr) (fun i _ => n - (intOf i).toNat)
  case atStart => exact ⟨0, Nat.zero_le _, rfl, Below.refl _ _⟩
  case round =>
    obtain ⟨k, hk, rfl, hb⟩ := hrel
    by_cases hlt : k < n
    · obtain ⟨c0, c1, c2, c3⟩ := (hc k hlt).below hb hg
      obtain ⟨d0, d1, d2, d3⟩ := (hc' k hlt).below hb hg'
      have HE := Lib.hid (fun W (hW : Below wr.heap.size wr W) => show Calls Try.prog 56 #[.agg #[.int .i64 (xs.getD k ht0).1, .int .i64 (xs.getD k ht0).2.1, .int .i64 (xs.getD k ht0).2.2.1, .int .i64 (xs.getD k ht0).2.2.2], .agg #[.int .i64 (xs.getD k ht0).1, .int .i64 (xs.getD k ht0).2.1, .int .i64 (xs.getD k ht0).2.2.1, .int .i64 (xs.getD k ht0).2.2.2]] W fun e w' => e = .returned (.bool true) ∧ Below wr.heap.size wr w' from
        (eqHandThrow_same _ _ _ _ W).mono fun e w' ⟨h1, h2⟩ => ⟨h1, hW.trans (h2.mono hW.size)⟩)
      clear hc hc'
      generalize xs.getD k ht0 = y at *
      obtain ⟨y0, y1, y2, y3⟩ := y
      simp only at c0 c1 c2 c3 d0 d1 d2 d3 HE
      go_wp2
      go_region_law (first | (go_simp; go_at_call 56; (with_reducible refine (HE.out _ ?_).mono ?_); (repeat (first | exact Below.refl _ _ | refine Below.drew ?_ | refine below_drewN ?_ _)); rintro e w2 ⟨rfl, b2⟩))
      all_goals go_wp2
      all_goals exact ⟨⟨k + 1, by omega, by go_num, hb.trans (b2.mono hb.size)⟩, by simp [intOf]; omega⟩
    · obtain rfl : k = n := by omega
      clear hc hc'
      go_wp2
      go_ret
      exact ⟨rfl, hb⟩

set_option maxRecDepth 10000 in
theorem eqHandThrowS_zero (a a' : Option Addr) (cap cap' : Nat) (w : World) :
    Calls Try.prog 24 #[.slice a 0 cap, .slice a' 0 cap'] w fun e w' => e = .returned (.bool true) ∧ Below w.heap.size w w' := by
  go_enter Try.func24, Try.ntmps24
  go_wp2
  refine wp_loop_rounds 1 ?_
  rw [rounds_succ]
  go_wp2
  go_ret
  exact ⟨rfl, Below.refl _ _⟩

theorem eqHandThrowS_any (v u : Value) (B B' : Nat) (xs : List HthT) (w : World) (h : Hths w B v xs) (h' : Hths w B' u xs) :
    Calls Try.prog 24 #[v, u] w fun e w' => e = .returned (.bool true) ∧ Below w.heap.size w w' := by
  rcases h.shape with ⟨rfl, rfl⟩ | ⟨g, cap, rfl, _, hg, _, _⟩
  · rcases h'.shape with ⟨rfl, _⟩ | ⟨g', cap', rfl, _, _, _, _⟩
    · exact eqHandThrowS_zero _ _ _ _ _
    · exact eqHandThrowS_zero _ _ _ _ _
  · rcases h'.shape with ⟨rfl, rfl⟩ | ⟨g', cap', rfl, _, hg', _, _⟩
    · exact eqHandThrowS_zero _ _ _ _ _
    · exact eqHandThrowS_row _ _ _ _ _ _ _ _ h h' hg hg'

/-! ### marks -/
def mkH (k : Int) : HthT := (k, k + 1, k + 2, k + 3)
def upsH (k : Int) (n : Nat) : List HthT := (List.range n).map fun i : Nat => mkH (k + 4 * (i : Int))
theorem upsH_len (k : Int) (n : Nat) : (upsH k n).length = n := by simp [upsH]
theorem upsH_get (k : Int) (n j : Nat) (h : j < n) : (upsH k n).getD j ht0 = mkH (k + 4 * (j : Int)) := by simp [upsH, h]
theorem upsH_set (k : Int) (xs : List HthT) (j : Nat) (h : j < xs.length) : (upsH k j ++ xs.drop j).set j (mkH (k + 4 * (j : Int))) = upsH k (j + 1) ++ xs.drop (j + 1) := by
  have e1 : upsH k (j + 1) = upsH k j ++ [mkH (k + 4 * (j : Int))] := by simp [upsH, List.range_succ]
  rw [List.set_append_right _ _ (by rw [upsH_len]; exact Nat.le_refl _), upsH_len, Nat.sub_self, e1, List.append_assoc]
  congr 1
  rw [List.drop_eq_getElem_cons h]
  rfl
theorem grown_fourH {w wr : World} {g o : Nat} (h : w.grownBy wr (some g)) (a b c d : Value) : w.grownBy ((((wr.setCell ⟨g, o, none⟩ a).setCell ⟨g, o + 1, none⟩ b).setCell ⟨g, o + 2, none⟩ c).setCell ⟨g, o + 3, none⟩ d) (some g) := by
  have one : ∀ (wr : World) (o : Nat) (a : Value), w.grownBy wr (some g) → w.grownBy (wr.setCell ⟨g, o, none⟩ a) (some g) := fun wr o a h =>
    ⟨h.os, h.tape, h.output, by simpa using h.size, fun k hk hne => by rw [Below.heap_setCell _ _ _ _ (by simpa using fun e => hne (by rw [e]))]; exact h.block k hk hne⟩
  exact one _ _ _ (one _ _ _ (one _ _ _ (one _ _ _ h)))

set_option maxRecDepth 10000 in
set_option maxHeartbeats 800000 in
theorem markHandThrowS_row (g cap B : Nat) (xs : List HthT) (k0 : Int) (w : World) (h : Hths w B (.slice (some ⟨g, 0, none⟩) xs.length cap) xs) (hk0 : 0 ≤ k0) (hk1 : k0 + 4 * xs.length ≤ 1000000000000) :
    Calls Try.prog 26 #[.slice (some ⟨g, 0, none⟩) xs.length cap, .int .i64 k0] w fun e w' =>
      e = .returned (.int .i64 (k0 + 4 * xs.length)) ∧ Hths w' B (.slice (some ⟨g, 0, none⟩) xs.length cap) (upsH k0 xs.length) ∧ w.grownBy w' (some g) := by
  have hm := h.len
  obtain ⟨n, hn⟩ : ∃ n, n = xs.length := ⟨_, rfl⟩
  have hs : Hths w B (.slice (some ⟨g, 0, none⟩) xs.length cap) (upsH k0 0 ++ xs.drop 0) := by simpa [upsH] using h
  rw [← hn] at hm hk1 hs ⊢
  clear h
  have HN := Lib.hid hn
  clear hn
  go_enter Try.func26, Try.ntmps26
  go_wp2
  go_loopw [1, 5] (fun c i wr => ∃ (k : Nat) (c0 : Int), k ≤ n ∧ i = .int .i64 k ∧ c = .int .i64 c0 ∧ Hid (c0 = k0 + 4 * k) ∧ Hths wr B (.slice (some ⟨g, 0, none⟩) n cap) (upsH k0 k ++ xs.drop k) ∧ w.grownBy wr (some g))
    (fun _ i _ => n - (intOf i).toNat)
  case atStart => exact ⟨0, k0, Nat.zero_le _, rfl, rfl, by unfold Hid; simp, hs, World.grownBy.refl _ _⟩
  case round =>
    obtain ⟨k, c, hk, rfl, rfl, hcc, hr, hg⟩ := hrel
    by_cases hlt : k < n
    · have hn := HN.out
      have hlen : k < (upsH k0 k ++ xs.drop k).length := by simp [upsH_len]; omega
      obtain ⟨d0, d1, d2, d3⟩ := hr.fourH k hlen
      have f0 := hr.free (k * 4)
      have f1 := hr.free (k * 4 + 1)
      have f2 := hr.free (k * 4 + 2)
      have f3 := hr.free (k * 4 + 3)
      have hN := hr.putH k hlen (mkH c)
      have hc := hcc.out
      have hc0 : 0 ≤ c := by omega
      have hc1 : c ≤ 1000000000000 := by omega
      have e := upsH_set k0 xs k (by omega)
      rw [← hc] at e
      rw [e] at hN
      have hgN := grown_fourH (o := k * 4) hg (.int .i64 c) (.int .i64 (c + 1)) (.int .i64 (c + 2)) (.int .i64 (c + 3))
      have HNN := Lib.hid hN
      have HGN := Lib.hid hgN
      have HC2 : Hid (c + 4 = k0 + 4 * ((k + 1 : Nat) : Int)) := by unfold Hid; omega
      clear hs hn hlen hN hgN hr hg e hc
      go_wp2
      rw [show c + 1 + 1 + 1 + 1 = c + 4 by omega, show c + 1 + 1 + 1 = c + 3 by omega, show c + 1 + 1 = c + 2 by omega]
      exact ⟨⟨k + 1, c + 4, by omega, by go_num, rfl, HC2, HNN.out, HGN.out⟩, by simp [intOf]; omega⟩
    · obtain rfl : k = n := by omega
      have hn := HN.out
      have hd : xs.drop k = [] := by simp; omega
      rw [hd, List.append_nil] at hr
      have hc := hcc.out
      subst hc
      clear hs hn hd
      go_wp2
      go_ret
      exact ⟨rfl, hr, hg⟩

set_option maxRecDepth 10000 in
theorem markHandThrowS_zero (a : Option Addr) (cap : Nat) (k0 : Int) (w : World) :
    Calls Try.prog 26 #[.slice a 0 cap, .int .i64 k0] w fun e w' => e = .returned (.int .i64 k0) ∧ w = w' := by
  go_enter Try.func26, Try.ntmps26
  go_wp2
  refine wp_loop_rounds 1 ?_
  rw [rounds_succ]
  go_wp2
  go_ret
  exact ⟨rfl, rfl⟩

theorem markHandThrowS_any (v : Value) (B : Nat) (xs : List HthT) (k0 : Int) (w : World) (h : Hths w B v xs) (hk0 : 0 ≤ k0) (hk1 : k0 + 4 * xs.length ≤ 1000000000000) :
    Calls Try.prog 26 #[v, .int .i64 k0] w fun e w' =>
      e = .returned (.int .i64 (k0 + 4 * xs.length)) ∧ Hths w' B v (upsH k0 xs.length) ∧ w.grownBy w' v.ownBlock := by
  rcases h.shape with ⟨rfl, rfl⟩ | ⟨g, cap, rfl, _, _, _⟩
  · refine (markHandThrowS_zero _ _ _ _).mono ?_
    rintro e w' ⟨rfl, rfl⟩
    exact ⟨by simp, OwnK.nil _ _ _ _ _, World.grownBy.refl _ _⟩
  · exact markHandThrowS_row _ _ _ _ _ _ h hk0 hk1

set_option maxRecDepth 10000 in
set_option maxHeartbeats 800000 in
theorem heldHandThrowS_row (g cap B n : Nat) (k0 : Int) (w : World) (h : Hths w B (.slice (some ⟨g, 0, none⟩) n cap) (upsH k0 n)) (hg : g < w.heap.size) (hk0 : 0 ≤ k0) (hk1 : k0 + 4 * n ≤ 1000000000000) :
    Calls Try.prog 27 #[.slice (some ⟨g, 0, none⟩) n cap, .int .i64 k0] w fun e w' => e = .returned (.int .i64 (k0 + 4 * n)) ∧ Below w.heap.size w w' := by
  have hc : ∀ i, i < n → FourH w g (i * 4) (mkH (k0 + 4 * (i : Int))) := fun i hi => by
    have := h.fourH i (by rw [upsH_len]; exact hi)
    rwa [upsH_get k0 n i hi] at this
  clear h
  go_enter Try.func27, Try.ntmps27
  go_wp2
  go_loopw [1, 5] (fun c i wr => ∃ (k : Nat) (c0 : Int), k ≤ n ∧ i = .int .i64 k ∧ c = .int .i64 c0 ∧ Hid (c0 = k0 + 4 * k) ∧ Below w.heap.size w wr)
    (fun _ i _ => n - (intOf i).toNat)
  case atStart => exact ⟨0, k0, Nat.zero_le _, rfl, rfl, by unfold Hid; simp, Below.refl _ _⟩
  case round =>
    obtain ⟨k, c, hk, rfl, rfl, hcc, hb⟩ := hrel
    by_cases hlt : k < n
    · have hh := hc k hlt
      rw [← hcc.out] at hh
      obtain ⟨d0, d1, d2, d3⟩ := hh.below hb hg
      have e := hcc.out
      have hc0 : 0 ≤ c := by omega
      have hc1 : c ≤ 1000000000000 := by omega
      have HC2 : Hid (c + 4 = k0 + 4 * ((k + 1 : Nat) : Int)) := by unfold Hid; omega
      simp only [mkH] at d0 d1 d2 d3
      have hq : c + 1 + 1 = c + 2 := by omega
      have hq3 : c + 2 + 1 = c + 3 := by omega
      clear hc hh e
      go_wp2
      rw [show c + 3 + 1 = c + 4 by omega]
      exact ⟨⟨k + 1, c + 4, by omega, by go_num, rfl, HC2, hb⟩, by simp [intOf]; omega⟩
    · obtain rfl : k = n := by omega
      have e := hcc.out
      subst e
      clear hc
      go_wp2
      go_ret
      exact ⟨rfl, hb⟩

set_option maxRecDepth 10000 in
theorem heldHandThrowS_zero (a : Option Addr) (cap : Nat) (k0 : Int) (w : World) :
    Calls Try.prog 27 #[.slice a 0 cap, .int .i64 k0] w fun e w' => e = .returned (.int .i64 k0) ∧ Below w.heap.size w w' := by
  go_enter Try.func27, Try.ntmps27
  go_wp2
  refine wp_loop_rounds 1 ?_
  rw [rounds_succ]
  go_wp2
  go_ret
  exact ⟨rfl, Below.refl _ _⟩

theorem heldHandThrowS_any (v : Value) (B n : Nat) (k0 : Int) (w : World) (h : Hths w B v (upsH k0 n)) (hk0 : 0 ≤ k0) (hk1 : k0 + 4 * n ≤ 1000000000000) :
    Calls Try.prog 27 #[v, .int .i64 k0] w fun e w' => e = .returned (.int .i64 (k0 + 4 * n)) ∧ Below w.heap.size w w' := by
  rcases h.shape with ⟨rfl, h0⟩ | ⟨g, cap, rfl, _, hg, _, _⟩
  · obtain rfl : n = 0 := by simpa [upsH_len] using congrArg List.length h0
    refine (heldHandThrowS_zero _ _ _ _).mono ?_
    rintro e w' ⟨rfl, hb⟩
    exact ⟨by simp, hb⟩
  · rw [upsH_len] at h ⊢
    exact heldHandThrowS_row _ _ _ _ _ _ h hg hk0 hk1
end Go.Proofs.Ytbnmbodnjecajaa
