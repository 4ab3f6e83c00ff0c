/- Synchronous patterns, the program's, fourth part: SameSync, SyncProps, CrossCount, MirrorSync, SlideSync. No conditions. -/
import Derived.Test.YtgjmhihomklooaaSynK
namespace Go.Proofs.Ytgjmhihomklooaa
open Go.RowKit
set_option linter.unusedSimpArgs false
set_option linter.unusedVariables false

set_option maxRecDepth 10000 in
set_option maxHeartbeats 400000 in
theorem equal_row (g g' cap cap' n : Nat) (p q : List Syn) (w : World) (hn9 : n ≤ 9223372036854775807) (hn : n = p.length) (hn' : n = q.length) (hg : g < w.heap.size) (hg' : g' < w.heap.size) (hc : Beats w g n p) (hc' : Beats w g' n q) :
    Calls Try.prog 90 #[.slice (some ⟨g, 0, none⟩) n cap, .slice (some ⟨g', 0, none⟩) n cap'] w fun e w' => e = .returned (.bool (sameS p q)) ∧ Below w.heap.size w w' := by
  have HB := Lib.hid (fun i (h : p.getD i s0 ≠ q.getD i s0) => sameS_bad i h)
  have HG := Lib.hid (fun (h : ∀ i, i < n → p.getD i s0 = q.getD i s0) => sameS_good (p := p) (q := q) (by omega) fun i hi => h i (by omega))
  have HC := Lib.hid hc
  have HC' := Lib.hid hc'
  have hm : Try.prog.eqGuardType Try.prog.depth 115 = false := by kernel_rfl
  clear hc hc' hn hn'
  go_enter Try.func90, Try.ntmps90
  go_wp2
  go_loopw [13] (fun i wr => ∃ k : Nat, k ≤ n ∧ i = .int .i64 k ∧ Hid (∀ j, j < k → p.getD j s0 = q.getD j s0) ∧ Below w.heap.size w wr) (fun i _ => n - (intOf i).toNat)
  case atStart => exact ⟨0, Nat.zero_le _, rfl, fun j hj => absurd hj (Nat.not_lt_zero _), Below.refl _ _⟩
  case round =>
    obtain ⟨k, hk, rfl, hall, hb⟩ := hrel
    by_cases hlt : k < n
    · obtain ⟨c0, c1, c2, c3⟩ := (HC.out k hlt).below hb hg
      obtain ⟨d0, d1, d2, d3⟩ := (HC'.out k hlt).below hb hg'
      have HBK := Lib.hid (HB.out k)
      have HNX := Lib.hid (fun (h : p.getD k s0 = q.getD k s0) => show ∀ j, j < k + 1 → p.getD j s0 = q.getD j s0 from fun j hj => by
        by_cases e : j = k
        · subst e; exact h
        · exact hall.out j (by omega))
      clear HC HC' HB HG
      generalize p.getD k s0 = y at *
      generalize q.getD k s0 = z at *
      have HQ := fun W => neq_syn y z W
      obtain ⟨⟨y0, y1⟩, y2, y3⟩ := y
      obtain ⟨⟨z0, z1⟩, z2, z3⟩ := z
      simp only [synA] at c0 c1 c2 c3 d0 d1 d2 d3 HQ
      by_cases he : ((y0, y1), (y2, y3)) = ((z0, z1), (z2, z3))
      · have HN := Lib.hid (HNX.out he)
        rw [decide_eq_false (fun h => h he)] at HQ
        clear he HBK HNX
        go_wp2
        go_quiet (fail)
        all_goals go_wp2
        all_goals go_roundw
        case rel => exact ⟨k + 1, by omega, by go_num, HN, below_drewN hb _⟩
        case measure => simp [intOf]; omega
      · have HR := Lib.hid (HBK.out he)
        rw [decide_eq_true he] at HQ
        clear he HBK HNX
        go_wp2
        go_quiet (fail)
        all_goals go_wp2
        all_goals go_ret
        all_goals exact ⟨by rw [HR.out]; rfl, below_drewN hb _⟩
    · obtain rfl : k = n := by omega
      have HR := Lib.hid (HG.out hall.out)
      clear HC HC' HB HG hall
      go_wp2
      go_ret
      exact ⟨by rw [HR.out]; rfl, hb⟩

set_option maxRecDepth 10000 in
theorem equal_zero (a a' : Option Addr) (cap cap' : Nat) (w : World) :
    Calls Try.prog 90 #[.slice a 0 cap, .slice a' 0 cap'] w fun e w' => e = .returned (.bool true) ∧ Below w.heap.size w w' := by
  go_enter Try.func90, Try.ntmps90
  go_wp2
  refine wp_loop_rounds 1 ?_
  rw [rounds_succ]
  go_wp2
  go_ret
  exact ⟨rfl, Below.refl _ _⟩

set_option maxRecDepth 10000 in
theorem equal_diff (a a' : Option Addr) (n n' cap cap' : Nat) (w : World) (h : n ≠ n') (h1 : n ≤ 9223372036854775807) (h2 : n' ≤ 9223372036854775807) :
    Calls Try.prog 90 #[.slice a n cap, .slice a' n' cap'] w fun e w' => e = .returned (.bool false) ∧ Below w.heap.size w w' := by
  have hne : ((n : Int) != (n' : Int)) = true := by simp; omega
  clear h
  go_enter Try.func90, Try.ntmps90
  go_wp2
  go_ret
  exact ⟨rfl, Below.refl _ _⟩

theorem equal_any (v : Value) (B : Nat) (p : List Syn) (u : Value) (B' : Nat) (q : List Syn) (w : World) (h : Syns w B v p) (h' : Syns w B' u q) :
    Calls Try.prog 90 #[v, u] w fun e w' => e = .returned (.bool (sameS p q)) ∧ Below w.heap.size w w' := by
  by_cases hl : p.length = q.length
  · rcases h.shape with ⟨rfl, rfl⟩ | ⟨g, cap, rfl, _, hg, _, _⟩
    · obtain ⟨a', cap', rfl⟩ := h'.sl
      have hq : q = [] := List.length_eq_zero_iff.1 hl.symm
      subst hq
      exact equal_zero none a' 0 cap' w
    · rcases h'.shape with ⟨rfl, rfl⟩ | ⟨g', cap', rfl, _, hg', _, _⟩
      · have hp : p = [] := List.length_eq_zero_iff.1 hl
        subst hp
        exact equal_zero _ none _ 0 w
      · have h2 := h'.beats
        rw [← hl] at h2 ⊢
        exact equal_row g g' cap cap' p.length p q w h.len rfl hl hg hg' h.beats h2
  · rw [sameS_len hl]
    obtain ⟨a, cap, rfl⟩ := h.sl
    obtain ⟨a', cap', rfl⟩ := h'.sl
    exact equal_diff _ _ _ _ _ _ w hl h.len h'.len

theorem sameSync_impl (v : Value) (B : Nat) (p : List Syn) (u : Value) (B' : Nat) (q : List Syn) (w : World) (h : Syns w B v p) (h' : Syns w B' u q) :
    Calls Try.prog 40 #[v, u] w fun e w' => e = .returned (.bool (sameS p q)) ∧ Below w.heap.size w w' := by
  have HC := equal_any v B p u B' q w h h'
  clear h h'
  go_enter Try.func40, Try.ntmps40
  go_wp2_with fail
  refine HC.mono ?_
  rintro e w1 ⟨rfl, b1⟩
  go_wp2
  go_ret
  exact ⟨rfl, b1⟩

set_option maxRecDepth 10000 in
set_option maxHeartbeats 400000 in
theorem syncPropsI_row (g cap n : Nat) (B : Nat) (p : List Syn) (w : World) (h : Syns w B (.slice (some ⟨g, 0, none⟩) n cap) p) (hn : n = p.length) (hg : g < w.heap.size) (hok : okS p = true) :
    Calls Try.prog 42 #[.slice (some ⟨g, 0, none⟩) n cap] w fun e w' => e = .returned (.tuple #[.int .i64 (sumT (thrs p) / (2 * (n : Int))), .int .i64 0]) ∧ Below w.heap.size w w' := by
  have HO := validSync_impl _ B p w h
  rw [hok] at HO
  have hl := okSL_len (okS_list hok)
  rw [← hn] at hl
  have HT := fun W (hW : Below w.heap.size w W) => throws_at g cap n p W hl.1 hl.2 hn (by have := hW.size; omega) (h.beats.below hW hg)
  have hlen := thrs_len p
  have HS := Lib.hid (fun k (hk : k < 2 * n) => sumT_take (thrs p) k (by omega))
  have HB := Lib.hid (fun k (hk : k ≤ 2 * n) => sumT_bound (thrs p) (fun j hj => okT_num (okSL_thr (okS_list hok) j (by omega))) k (by omega))
  have HA := Lib.hid (fun k (hk : k < 2 * n) => okT_num (okSL_thr (okS_list hok) k (by omega)))
  have HF : Hid ((thrs p).take (2 * n) = thrs p) := List.take_of_length_le (by omega)
  clear hlen
  obtain ⟨hl1, hl2⟩ := hl
  clear h hok hn
  go_enter Try.func42, Try.ntmps42
  go_wp2_with fail
  refine HO.mono ?_
  rintro e w1 ⟨rfl, b1⟩
  clear HO
  go_wp2_with fail
  refine (HT _ b1).mono ?_
  rintro e w2 ⟨b, c, rfl, hb0, hb1, hcells, b2⟩
  clear HT
  go_wp2
  have HC := Lib.hid hcells
  have B0 := b1.trans (b2.mono b1.size)
  have hz := b1.size
  have hz2 := b2.size
  clear hcells b1 b2
  go_loopw [4, 13] (fun s i wr => ∃ k : Nat, k ≤ 2 * n ∧ i = .int .i64 k ∧ s = .int .i64 (sumT ((thrs p).take k)) ∧ Below w2.heap.size w2 wr) (fun _ i _ => 2 * n - (intOf i).toNat)
  case atStart => exact ⟨0, Nat.zero_le _, rfl, rfl, Below.refl _ _⟩
  case round =>
    obtain ⟨k, hk, rfl, rfl, hb⟩ := hrel
    obtain ⟨s1, s2⟩ := HB.out k hk
    by_cases hlt : k < 2 * n
    · have hlt' : (k : Int) < 2 * (n : Int) := by omega
      obtain ⟨c0, c1⟩ := (HC.out k hlt).below hb hb1
      obtain ⟨a1, a2⟩ := HA.out k hlt
      have HN := Lib.hid (HS.out k hlt)
      clear HC HS HB HA HF
      generalize (thrs p).getD k t0 = y at *
      generalize sumT ((thrs p).take k) = s at *
      obtain ⟨y0, y1⟩ := y
      simp only at c0 c1 a1 a2
      have hbn := hb.alloc hb.size (.cells #[.int .i64 y0, .bool y1] 113)
      go_wp2
      go_roundw
      case rel => exact ⟨k + 1, by omega, by go_num, by rw [HN.out], hbn⟩
      case measure => simp [intOf]; omega
    · obtain rfl : k = 2 * n := by omega
      rw [HF.out] at s1 s2 ⊢
      have hb3 := B0.trans (hb.mono (by omega))
      clear HC HS HB HA HF hb
      have hd0 : 0 ≤ sumT (thrs p) / (2 * (n : Int)) := Int.ediv_nonneg s1 (by omega)
      have hd1 : sumT (thrs p) / (2 * (n : Int)) ≤ sumT (thrs p) := Int.ediv_le_self _ s1
      have hw : wrap64 (sumT (thrs p) / (2 * (n : Int))) = sumT (thrs p) / (2 * (n : Int)) := IntWalk.wrap64_in _ (by omega)
      go_wp2
      go_ret2
      exact ⟨by simp only [hw]; rfl, hb3⟩

set_option maxRecDepth 10000 in
theorem syncProps_impl (v : Value) (B : Nat) (p : List Syn) (w : World) (h : Syns w B v p) :
    Calls Try.prog 42 #[v] w fun e w' => e = .returned (.tuple #[.int .i64 (spropsA p), .int .i64 (okSC p)]) ∧ Below w.heap.size w w' := by
  cases hok : okS p with
  | false =>
    rw [spropsA, if_neg (by simp [hok]), okSC_false hok]
    have HO := validSync_impl v B p w h
    rw [hok] at HO
    clear h hok
    go_enter Try.func42, Try.ntmps42
    go_wp2_with fail
    refine HO.mono ?_
    rintro e w1 ⟨rfl, b1⟩
    clear HO
    go_wp2
    go_ret2
    exact ⟨rfl, b1⟩
  | true =>
    rw [spropsA, if_pos hok, okSC_true hok]
    obtain ⟨g, cap, rfl, _, hg, _, _⟩ := h.shape2 (okSL_len (okS_list hok)).1
    exact syncPropsI_row g cap p.length B p w h rfl hg hok

end Go.Proofs.Ytgjmhihomklooaa
