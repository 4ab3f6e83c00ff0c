/- PairUp, the model's. No conditions. -/
import Derived.Test.YtdgmmaghmdbnjaaPair
import Derived.Test.YtdgmmaghmdbnjaaBentS
import Derived.Test.YtdgmmaghmdbnjaaSpecThr
import Derived.Test.YtdgmmaghmdbnjaaSees
namespace Go.Proofs.Ytdgmmaghmdbnjaa
open Go.RowKit
set_option linter.unusedSimpArgs false
set_option linter.unusedVariables false

theorem alloc2_syn (w : World) (o : Obj) (cs : Array Value) (T : TypeId) (j : Nat) : ((w.alloc o).alloc (.cells cs T)).cell? ⟨w.heap.size + 1, j, none⟩ = cs[j]? := by
  have h := heap_alloc_new (w.alloc o) (.cells cs T)
  rw [show (w.alloc o).heap.size = w.heap.size + 1 by simp] at h
  rw [Blk.cell (show Blk ((w.alloc o).alloc (.cells cs T)) (w.heap.size + 1) cs.toList T from h) j]
  simp
theorem belP_al {w a : World} (h : Below w.heap.size w a) (o : Obj) : Below w.heap.size w (a.alloc o) := h.alloc h.size o

set_option maxRecDepth 10000 in
set_option maxHeartbeats 1000000 in
theorem l05Back_any (v k : Int) (h : Nat) (hk : k = (h : Int)) (hh : h = 0 ∨ h = 1) (h0 : 0 ≤ v) (h1 : v ≤ 15) (w : World) :
    Calls Try.prog 98 #[.int .i64 v, .int .i64 k] w fun e w' => e = .returned (.tuple #[.agg #[.int .i64 (backT v h).1, .bool (backT v h).2], .bool (okT (backT v h))]) ∧ Below w.heap.size w w' := by
  by_cases e : v % 2 = 1
  · rcases hh with rfl | rfl
    · rw [backT_odd e]
      rw [if_neg (by decide)]
      subst hk
      have hd : (v % 2 == 1) = true := by simp [e]
      clear e
      have HT := fun W => l05Throw_any (v - 1) true W
      go_enter Try.func98, Try.ntmps98
      go_wp2
      have hbX := belP_al (belP_al (Below.refl w.heap.size w) (.cells #[.int .i64 0, .bool false] 100)) (.cells #[.int .i64 (v - 1), .bool true] 100)
      have hb1 := belP_al (Below.refl _ (w.alloc (.cells #[.int .i64 0, .bool false] 100))) (.cells #[.int .i64 (v - 1), .bool true] 100)
      have r0 : ((w.alloc (.cells #[.int .i64 0, .bool false] 100)).alloc (.cells #[.int .i64 (v - 1), .bool true] 100)).cell? ⟨w.heap.size, 0, none⟩ = some (.int .i64 0) := by rw [hb1.cell (by simp)]; simp
      have r1 : ((w.alloc (.cells #[.int .i64 0, .bool false] 100)).alloc (.cells #[.int .i64 (v - 1), .bool true] 100)).cell? ⟨w.heap.size, 1, none⟩ = some (.bool false) := by rw [hb1.cell (by simp)]; simp
      have rf : ∀ j, ((w.alloc (.cells #[.int .i64 0, .bool false] 100)).alloc (.cells #[.int .i64 (v - 1), .bool true] 100)).frozen? ⟨w.heap.size, j, none⟩ = false := fun j => by rw [hb1.frozen (by simp)]; simp
      have d0 : ((w.alloc (.cells #[.int .i64 0, .bool false] 100)).alloc (.cells #[.int .i64 (v - 1), .bool true] 100)).cell? ⟨w.heap.size + 1, 0, none⟩ = some (.int .i64 (v - 1)) := alloc2_syn _ _ _ _ _
      have d1 : ((w.alloc (.cells #[.int .i64 0, .bool false] 100)).alloc (.cells #[.int .i64 (v - 1), .bool true] 100)).cell? ⟨w.heap.size + 1, 1, none⟩ = some (.bool true) := alloc2_syn _ _ _ _ _
      have hz : w.heap.size + 2 = ((w.alloc (.cells #[.int .i64 0, .bool false] 100)).alloc (.cells #[.int .i64 (v - 1), .bool true] 100)).heap.size := by simp
      clear hb1
      generalize (w.alloc (.cells #[.int .i64 0, .bool false] 100)).alloc (.cells #[.int .i64 (v - 1), .bool true] 100) = X at *
      have HTT := Lib.hid (fun W (hW : Below X.heap.size X W) => show Calls Try.prog 139 #[.agg #[.int .i64 (v - 1), .bool true]] W fun e w' => e = .returned (.bool (okT (v - 1, true))) ∧ Below X.heap.size X w' ∧ w'.cell? ⟨w.heap.size + 1, 0, none⟩ = some (.int .i64 (v - 1)) ∧ w'.cell? ⟨w.heap.size + 1, 1, none⟩ = some (.bool true) ∧ w'.cell? ⟨w.heap.size, 0, none⟩ = some (.int .i64 0) ∧ w'.cell? ⟨w.heap.size, 1, none⟩ = some (.bool false) ∧ w'.frozen? ⟨w.heap.size, 0, none⟩ = false ∧ w'.frozen? ⟨w.heap.size, 1, none⟩ = false from
        (HT W).mono fun e w' ⟨h1, h2⟩ => by
          have b := hW.trans (h2.mono hW.size)
          exact ⟨h1, b, (b.cell (p := ⟨w.heap.size + 1, 0, none⟩) (by show w.heap.size + 1 < _; omega)).trans d0, (b.cell (p := ⟨w.heap.size + 1, 1, none⟩) (by show w.heap.size + 1 < _; omega)).trans d1, (b.cell (p := ⟨w.heap.size, 0, none⟩) (by show w.heap.size < _; omega)).trans r0, (b.cell (p := ⟨w.heap.size, 1, none⟩) (by show w.heap.size < _; omega)).trans r1, (b.frozen (p := ⟨w.heap.size, 0, none⟩) (by show w.heap.size < _; omega)).trans (rf 0), (b.frozen (p := ⟨w.heap.size, 1, none⟩) (by show w.heap.size < _; omega)).trans (rf 1)⟩)
      go_region_held3 (fun W => W.cell? ⟨w.heap.size + 1, 0, none⟩ = some (.int .i64 (v - 1)) ∧ W.cell? ⟨w.heap.size + 1, 1, none⟩ = some (.bool true)) (first | exact ⟨by assumption, by assumption⟩ | exact ⟨(World.cell?_setCell_other _ ⟨_, _, _⟩ ⟨_, _, _⟩ _ (by simp)).trans ((World.cell?_setCell_other _ ⟨_, _, _⟩ ⟨_, _, _⟩ _ (by simp)).trans (by assumption)), (World.cell?_setCell_other _ ⟨_, _, _⟩ ⟨_, _, _⟩ _ (by simp)).trans ((World.cell?_setCell_other _ ⟨_, _, _⟩ ⟨_, _, _⟩ _ (by simp)).trans (by assumption))⟩) (first | (go_at_call 139; (with_reducible refine (HTT.out _ ?_).mono ?_); (first | assumption | exact Below.refl _ _ | exact Below.drew (by assumption) | exact Below.drew (Below.refl _ _)); rintro e wa ⟨rfl, hba, ca0, ca1, cr0, cr1, cf0, cf1⟩))
      have b9 : ∀ u v : Value, Below w.heap.size w ((wa.setCell ⟨w.heap.size, 0, none⟩ u).setCell ⟨w.heap.size, 1, none⟩ v) := fun u v => ((hbX.trans (hba.mono (by omega))).setCell (p := ⟨w.heap.size, 0, none⟩) (Nat.le_refl _) u).setCell (p := ⟨w.heap.size, 1, none⟩) (Nat.le_refl _) v
      have hr0 : ∀ u v : Value, ((wa.setCell ⟨w.heap.size, 0, none⟩ u).setCell ⟨w.heap.size, 1, none⟩ v).cell? ⟨w.heap.size, 0, none⟩ = some u := fun u v => (World.cell?_setCell_other _ ⟨w.heap.size, 1, none⟩ ⟨w.heap.size, 0, none⟩ _ (by simp)).trans (World.cell?_setCell_same _ _ _ (u := .int .i64 0) cr0)
      have hr1 : ∀ u v : Value, ((wa.setCell ⟨w.heap.size, 0, none⟩ u).setCell ⟨w.heap.size, 1, none⟩ v).cell? ⟨w.heap.size, 1, none⟩ = some v := fun u v => World.cell?_setCell_same _ _ _ (u := .bool false) ((World.cell?_setCell_other _ ⟨w.heap.size, 0, none⟩ ⟨w.heap.size, 1, none⟩ _ (by simp)).trans cr1)
      clear HT HTT r0 r1 rf d0 d1 hbX hba ca0 ca1 cr0 cr1 cf0 cf1
      go_wp2
      refine bodyPost_ret (v := .tuple #[.agg #[.int .i64 (v - 1), .bool true], .bool (okT (v - 1, true))]) (by simp [results, Try.results98, go_sem, hr0, hr1]) rfl ?_
      exact ⟨rfl, b9 _ _⟩
    · rw [backT_odd e]
      rw [if_pos rfl]
      subst hk
      have hd : (v % 2 == 1) = true := by simp [e]
      clear e
      have HT := fun W => l05Throw_any (v + 1) true W
      go_enter Try.func98, Try.ntmps98
      go_wp2
      have hbX := belP_al (belP_al (Below.refl w.heap.size w) (.cells #[.int .i64 0, .bool false] 100)) (.cells #[.int .i64 (v + 1), .bool true] 100)
      have hb1 := belP_al (Below.refl _ (w.alloc (.cells #[.int .i64 0, .bool false] 100))) (.cells #[.int .i64 (v + 1), .bool true] 100)
      have r0 : ((w.alloc (.cells #[.int .i64 0, .bool false] 100)).alloc (.cells #[.int .i64 (v + 1), .bool true] 100)).cell? ⟨w.heap.size, 0, none⟩ = some (.int .i64 0) := by rw [hb1.cell (by simp)]; simp
      have r1 : ((w.alloc (.cells #[.int .i64 0, .bool false] 100)).alloc (.cells #[.int .i64 (v + 1), .bool true] 100)).cell? ⟨w.heap.size, 1, none⟩ = some (.bool false) := by rw [hb1.cell (by simp)]; simp
      have rf : ∀ j, ((w.alloc (.cells #[.int .i64 0, .bool false] 100)).alloc (.cells #[.int .i64 (v + 1), .bool true] 100)).frozen? ⟨w.heap.size, j, none⟩ = false := fun j => by rw [hb1.frozen (by simp)]; simp
      have d0 : ((w.alloc (.cells #[.int .i64 0, .bool false] 100)).alloc (.cells #[.int .i64 (v + 1), .bool true] 100)).cell? ⟨w.heap.size + 1, 0, none⟩ = some (.int .i64 (v + 1)) := alloc2_syn _ _ _ _ _
      have d1 : ((w.alloc (.cells #[.int .i64 0, .bool false] 100)).alloc (.cells #[.int .i64 (v + 1), .bool true] 100)).cell? ⟨w.heap.size + 1, 1, none⟩ = some (.bool true) := alloc2_syn _ _ _ _ _
      have hz : w.heap.size + 2 = ((w.alloc (.cells #[.int .i64 0, .bool false] 100)).alloc (.cells #[.int .i64 (v + 1), .bool true] 100)).heap.size := by simp
      clear hb1
      generalize (w.alloc (.cells #[.int .i64 0, .bool false] 100)).alloc (.cells #[.int .i64 (v + 1), .bool true] 100) = X at *
      have HTT := Lib.hid (fun W (hW : Below X.heap.size X W) => show Calls Try.prog 139 #[.agg #[.int .i64 (v + 1), .bool true]] W fun e w' => e = .returned (.bool (okT (v + 1, true))) ∧ Below X.heap.size X w' ∧ w'.cell? ⟨w.heap.size + 1, 0, none⟩ = some (.int .i64 (v + 1)) ∧ w'.cell? ⟨w.heap.size + 1, 1, none⟩ = some (.bool true) ∧ w'.cell? ⟨w.heap.size, 0, none⟩ = some (.int .i64 0) ∧ w'.cell? ⟨w.heap.size, 1, none⟩ = some (.bool false) ∧ w'.frozen? ⟨w.heap.size, 0, none⟩ = false ∧ w'.frozen? ⟨w.heap.size, 1, none⟩ = false from
        (HT W).mono fun e w' ⟨h1, h2⟩ => by
          have b := hW.trans (h2.mono hW.size)
          exact ⟨h1, b, (b.cell (p := ⟨w.heap.size + 1, 0, none⟩) (by show w.heap.size + 1 < _; omega)).trans d0, (b.cell (p := ⟨w.heap.size + 1, 1, none⟩) (by show w.heap.size + 1 < _; omega)).trans d1, (b.cell (p := ⟨w.heap.size, 0, none⟩) (by show w.heap.size < _; omega)).trans r0, (b.cell (p := ⟨w.heap.size, 1, none⟩) (by show w.heap.size < _; omega)).trans r1, (b.frozen (p := ⟨w.heap.size, 0, none⟩) (by show w.heap.size < _; omega)).trans (rf 0), (b.frozen (p := ⟨w.heap.size, 1, none⟩) (by show w.heap.size < _; omega)).trans (rf 1)⟩)
      go_region_held3 (fun W => W.cell? ⟨w.heap.size + 1, 0, none⟩ = some (.int .i64 (v + 1)) ∧ W.cell? ⟨w.heap.size + 1, 1, none⟩ = some (.bool true)) (first | exact ⟨by assumption, by assumption⟩ | exact ⟨(World.cell?_setCell_other _ ⟨_, _, _⟩ ⟨_, _, _⟩ _ (by simp)).trans ((World.cell?_setCell_other _ ⟨_, _, _⟩ ⟨_, _, _⟩ _ (by simp)).trans (by assumption)), (World.cell?_setCell_other _ ⟨_, _, _⟩ ⟨_, _, _⟩ _ (by simp)).trans ((World.cell?_setCell_other _ ⟨_, _, _⟩ ⟨_, _, _⟩ _ (by simp)).trans (by assumption))⟩) (first | (go_at_call 139; (with_reducible refine (HTT.out _ ?_).mono ?_); (first | assumption | exact Below.refl _ _ | exact Below.drew (by assumption) | exact Below.drew (Below.refl _ _)); rintro e wa ⟨rfl, hba, ca0, ca1, cr0, cr1, cf0, cf1⟩))
      have b9 : ∀ u v : Value, Below w.heap.size w ((wa.setCell ⟨w.heap.size, 0, none⟩ u).setCell ⟨w.heap.size, 1, none⟩ v) := fun u v => ((hbX.trans (hba.mono (by omega))).setCell (p := ⟨w.heap.size, 0, none⟩) (Nat.le_refl _) u).setCell (p := ⟨w.heap.size, 1, none⟩) (Nat.le_refl _) v
      have hr0 : ∀ u v : Value, ((wa.setCell ⟨w.heap.size, 0, none⟩ u).setCell ⟨w.heap.size, 1, none⟩ v).cell? ⟨w.heap.size, 0, none⟩ = some u := fun u v => (World.cell?_setCell_other _ ⟨w.heap.size, 1, none⟩ ⟨w.heap.size, 0, none⟩ _ (by simp)).trans (World.cell?_setCell_same _ _ _ (u := .int .i64 0) cr0)
      have hr1 : ∀ u v : Value, ((wa.setCell ⟨w.heap.size, 0, none⟩ u).setCell ⟨w.heap.size, 1, none⟩ v).cell? ⟨w.heap.size, 1, none⟩ = some v := fun u v => World.cell?_setCell_same _ _ _ (u := .bool false) ((World.cell?_setCell_other _ ⟨w.heap.size, 0, none⟩ ⟨w.heap.size, 1, none⟩ _ (by simp)).trans cr1)
      clear HT HTT r0 r1 rf d0 d1 hbX hba ca0 ca1 cr0 cr1 cf0 cf1
      go_wp2
      refine bodyPost_ret (v := .tuple #[.agg #[.int .i64 (v + 1), .bool true], .bool (okT (v + 1, true))]) (by simp [results, Try.results98, go_sem, hr0, hr1]) rfl ?_
      exact ⟨rfl, b9 _ _⟩
  · rw [backT_even e]
    have hd : (v % 2 == 1) = false := by simp [e]
    clear e
    have HT := fun W => l05Throw_any (v) false W
    go_enter Try.func98, Try.ntmps98
    go_wp2
    have hbX := belP_al (belP_al (Below.refl w.heap.size w) (.cells #[.int .i64 0, .bool false] 100)) (.cells #[.int .i64 (v), .bool false] 100)
    have hb1 := belP_al (Below.refl _ (w.alloc (.cells #[.int .i64 0, .bool false] 100))) (.cells #[.int .i64 (v), .bool false] 100)
    have r0 : ((w.alloc (.cells #[.int .i64 0, .bool false] 100)).alloc (.cells #[.int .i64 (v), .bool false] 100)).cell? ⟨w.heap.size, 0, none⟩ = some (.int .i64 0) := by rw [hb1.cell (by simp)]; simp
    have r1 : ((w.alloc (.cells #[.int .i64 0, .bool false] 100)).alloc (.cells #[.int .i64 (v), .bool false] 100)).cell? ⟨w.heap.size, 1, none⟩ = some (.bool false) := by rw [hb1.cell (by simp)]; simp
    have rf : ∀ j, ((w.alloc (.cells #[.int .i64 0, .bool false] 100)).alloc (.cells #[.int .i64 (v), .bool false] 100)).frozen? ⟨w.heap.size, j, none⟩ = false := fun j => by rw [hb1.frozen (by simp)]; simp
    have d0 : ((w.alloc (.cells #[.int .i64 0, .bool false] 100)).alloc (.cells #[.int .i64 (v), .bool false] 100)).cell? ⟨w.heap.size + 1, 0, none⟩ = some (.int .i64 (v)) := alloc2_syn _ _ _ _ _
    have d1 : ((w.alloc (.cells #[.int .i64 0, .bool false] 100)).alloc (.cells #[.int .i64 (v), .bool false] 100)).cell? ⟨w.heap.size + 1, 1, none⟩ = some (.bool false) := alloc2_syn _ _ _ _ _
    have hz : w.heap.size + 2 = ((w.alloc (.cells #[.int .i64 0, .bool false] 100)).alloc (.cells #[.int .i64 (v), .bool false] 100)).heap.size := by simp
    clear hb1
    generalize (w.alloc (.cells #[.int .i64 0, .bool false] 100)).alloc (.cells #[.int .i64 (v), .bool false] 100) = X at *
    have HTT := Lib.hid (fun W (hW : Below X.heap.size X W) => show Calls Try.prog 139 #[.agg #[.int .i64 (v), .bool false]] W fun e w' => e = .returned (.bool (okT (v, false))) ∧ Below X.heap.size X w' ∧ w'.cell? ⟨w.heap.size + 1, 0, none⟩ = some (.int .i64 (v)) ∧ w'.cell? ⟨w.heap.size + 1, 1, none⟩ = some (.bool false) ∧ w'.cell? ⟨w.heap.size, 0, none⟩ = some (.int .i64 0) ∧ w'.cell? ⟨w.heap.size, 1, none⟩ = some (.bool false) ∧ w'.frozen? ⟨w.heap.size, 0, none⟩ = false ∧ w'.frozen? ⟨w.heap.size, 1, none⟩ = false from
      (HT W).mono fun e w' ⟨h1, h2⟩ => by
        have b := hW.trans (h2.mono hW.size)
        exact ⟨h1, b, (b.cell (p := ⟨w.heap.size + 1, 0, none⟩) (by show w.heap.size + 1 < _; omega)).trans d0, (b.cell (p := ⟨w.heap.size + 1, 1, none⟩) (by show w.heap.size + 1 < _; omega)).trans d1, (b.cell (p := ⟨w.heap.size, 0, none⟩) (by show w.heap.size < _; omega)).trans r0, (b.cell (p := ⟨w.heap.size, 1, none⟩) (by show w.heap.size < _; omega)).trans r1, (b.frozen (p := ⟨w.heap.size, 0, none⟩) (by show w.heap.size < _; omega)).trans (rf 0), (b.frozen (p := ⟨w.heap.size, 1, none⟩) (by show w.heap.size < _; omega)).trans (rf 1)⟩)
    go_region_held3 (fun W => W.cell? ⟨w.heap.size + 1, 0, none⟩ = some (.int .i64 (v)) ∧ W.cell? ⟨w.heap.size + 1, 1, none⟩ = some (.bool false)) (first | exact ⟨by assumption, by assumption⟩ | exact ⟨(World.cell?_setCell_other _ ⟨_, _, _⟩ ⟨_, _, _⟩ _ (by simp)).trans ((World.cell?_setCell_other _ ⟨_, _, _⟩ ⟨_, _, _⟩ _ (by simp)).trans (by assumption)), (World.cell?_setCell_other _ ⟨_, _, _⟩ ⟨_, _, _⟩ _ (by simp)).trans ((World.cell?_setCell_other _ ⟨_, _, _⟩ ⟨_, _, _⟩ _ (by simp)).trans (by assumption))⟩) (first | (go_at_call 139; (with_reducible refine (HTT.out _ ?_).mono ?_); (first | assumption | exact Below.refl _ _ | exact Below.drew (by assumption) | exact Below.drew (Below.refl _ _)); rintro e wa ⟨rfl, hba, ca0, ca1, cr0, cr1, cf0, cf1⟩))
    have b9 : ∀ u v : Value, Below w.heap.size w ((wa.setCell ⟨w.heap.size, 0, none⟩ u).setCell ⟨w.heap.size, 1, none⟩ v) := fun u v => ((hbX.trans (hba.mono (by omega))).setCell (p := ⟨w.heap.size, 0, none⟩) (Nat.le_refl _) u).setCell (p := ⟨w.heap.size, 1, none⟩) (Nat.le_refl _) v
    have hr0 : ∀ u v : Value, ((wa.setCell ⟨w.heap.size, 0, none⟩ u).setCell ⟨w.heap.size, 1, none⟩ v).cell? ⟨w.heap.size, 0, none⟩ = some u := fun u v => (World.cell?_setCell_other _ ⟨w.heap.size, 1, none⟩ ⟨w.heap.size, 0, none⟩ _ (by simp)).trans (World.cell?_setCell_same _ _ _ (u := .int .i64 0) cr0)
    have hr1 : ∀ u v : Value, ((wa.setCell ⟨w.heap.size, 0, none⟩ u).setCell ⟨w.heap.size, 1, none⟩ v).cell? ⟨w.heap.size, 1, none⟩ = some v := fun u v => World.cell?_setCell_same _ _ _ (u := .bool false) ((World.cell?_setCell_other _ ⟨w.heap.size, 0, none⟩ ⟨w.heap.size, 1, none⟩ _ (by simp)).trans cr1)
    clear HT HTT r0 r1 rf d0 d1 hbX hba ca0 ca1 cr0 cr1 cf0 cf1
    go_wp2
    refine bodyPost_ret (v := .tuple #[.agg #[.int .i64 (v), .bool false], .bool (okT (v, false))]) (by simp [results, Try.results98, go_sem, hr0, hr1]) rfl ?_
    exact ⟨rfl, b9 _ _⟩

set_option maxRecDepth 10000 in
set_option maxHeartbeats 4000000 in
theorem pairUp_spec_row (g n cap B : Nat) (p : List Int) (w : World) (h : Ints w B (.slice (some ⟨g, 0, none⟩) n cap) p) (hn : n = p.length) (hok : Hid (okPat p = true)) (c : Int) (r : List Syn) (hcc : Hid (c = pairC p)) (hrr : Hid (r = pairR p)) (HO : Calls Try.prog 97 #[.slice (some ⟨g, 0, none⟩) n cap] w fun e w' => e = .returned (.bool true) ∧ Below w.heap.size w w') :
    Calls Try.prog 34 #[.slice (some ⟨g, 0, none⟩) n cap] w fun e w' => ∃ u, e = .returned (.tuple #[u, .int .i64 c]) ∧ Syns w' w.heap.size u r ∧ Below w.heap.size w w' := by
  have hl := okPat_len hok.out
  have hsee := h.sees hl.1
  have HOWN := fun W (hW : Below w.heap.size w W) => l00Own_any (.slice (some ⟨g, 0, none⟩) n cap) p W (hsee.below hW) (by omega)
  have HSEE := Lib.hid (fun W (hW : Below w.heap.size w W) => hsee.below hW)
  obtain ⟨hl1, hl2⟩ := hl
  have hn12 : n ≤ 12 := by omega
  have HN := Lib.hid hn
  clear h hsee hn
  go_enter Try.func34, Try.ntmps34
  go_wp2_with fail
  refine HO.mono ?_
  rintro e w1 ⟨rfl, b1⟩
  clear HO
  go_wp2_with fail
  refine (HOWN _ b1).mono ?_
  rintro e w2 ⟨u, rfl, i2, b2⟩
  clear HOWN
  have B2 := b1.trans (b2.mono b1.size)
  have hz1 := b1.size
  have hz2 := b2.size
  replace i2 := i2.mono hz1
  clear b1 b2
  by_cases hodd : n % 2 = 1
  · have ho' : ((n : Int) % 2 == 1) = true := by have : (n : Int) % 2 = 1 := by omega
                                                 simp [this]
    have HS2 := Lib.hid (HSEE.out w2 B2)
    go_wp2_with (at_builtin; refine append_sees _ rfl 32 Try.underlying32 _ _ rfl _ _ _ rfl i2 _ p rfl HS2.out (by omega) B2.size ?_; intro v3 w3 i3 gr3; refine Hid.out ?_)
    have B3 := i2.below_grown B2 B2.size gr3
    have e9 : allP p = p ++ p := allP_odd (by have := HN.out; omega)
    rw [← e9] at i3
    have hal := (allP_len p).2
    clear i2 B2 gr3 HSEE HS2 e9
    refine Lib.hid ?_
    obtain ⟨ga, ca, rfl, hBa, hga, hca, hma⟩ := i3.shape2 (by omega)
    have hB9 : Below w.heap.size w w3 := B3
    by_cases h12 : 12 < (allP p).length
    · obtain ⟨e1, e2⟩ := pair_full hok.out h12
      obtain rfl := hcc.out.trans e1
      obtain rfl := hrr.out.trans e2
      have h12' : (12 : Int) < ((allP p).length : Int) := by omega
      generalize (allP p).length = nn at *
      clear i3
      go_wp2
      go_ret2
      first | exact ⟨_, rfl, OwnK.nil _ _ _ _ _, hB9⟩ | exact ⟨rfl, OwnK.nil _ _ _ _ _, hB9⟩
    · have h12' : ¬ (12 : Int) < ((allP p).length : Int) := by omega
      obtain ⟨m, hm⟩ : ∃ m, (allP p).length = 2 * m := ⟨(allP p).length / 2, by have := (allP_len p).1; omega⟩
      have hm6 : m ≤ 6 := by omega
      have HCE := Lib.hid (fun W (hW : Below w3.heap.size w3 W) i (hi : i < 2 * m) => show W.cell? ⟨ga, i, none⟩ = some (.int .i64 ((allP p).getD i 0)) from (hW.cell (p := ⟨ga, i, none⟩) hga).trans (i3.cell i (by omega)))
      have HVA := Lib.hid (fun i (hi : i < 2 * m) => show 0 ≤ (allP p).getD i 0 ∧ (allP p).getD i 0 ≤ 15 from by
        have hmem : (allP p).getD i 0 ∈ allP p := by rw [List.getD_eq_getElem?_getD, List.getElem?_eq_getElem (by omega)]; simp
        have hm' := allP_mem hmem
        obtain ⟨j, hj, e⟩ := List.getElem_of_mem hm'
        have := okPat_at hok.out j hj
        rw [List.getD_eq_getElem?_getD, List.getElem?_eq_getElem hj, Option.getD_some, e] at this
        exact this)
      have HPT := Lib.hid (fun i (hi : i < m) => pairL_take (allP p) i (by omega))
      have HBD := Lib.hid (fun i (hi : i < m) (hb : (okT (pairAt (allP p) i).1 && okT (pairAt (allP p) i).2) = false) => show pairC p = 10 ∧ pairR p = [] from pair_lost hok.out h12 (goodP_bad i (by omega) hb))
      have HGD := Lib.hid (fun (hg : ∀ i, i < m → okT (pairAt (allP p) i).1 = true ∧ okT (pairAt (allP p) i).2 = true) => show pairC p = 0 ∧ pairR p = (pairL (allP p)).take m from by
        obtain ⟨e1, e2⟩ := pair_good hok.out h12 (goodP_good fun i hi => hg i (by omega))
        exact ⟨e1, by rw [e2, List.take_of_length_le (by rw [pairL_len]; omega)]⟩)
      have HAT := Lib.hid (fun i => show pairAt (allP p) i = (backT ((allP p).getD (2 * i) 0) 0, backT ((allP p).getD (2 * i + 1) 0) 1) from rfl)
      rw [hm] at h12' ⊢
      have i5 : Syns (w3.alloc (.cells #[] 114)) w3.heap.size (.slice (some ⟨w3.heap.size, 0, none⟩) 0 0) ((pairL (allP p)).take 0) := OwnK.empty _ _ _ _ (Nat.le_refl _)
      have b5 : Below w3.heap.size w3 (w3.alloc (.cells #[] 114)) := (Below.refl _ _).alloc (Nat.le_refl _) _
      have hz3 := B3.size
      clear i3 B3 h12 hm hok hca hma
      generalize allP p = L at *
      go_wp2
      go_loopw [5, 6] (fun v i wr => ∃ k : Nat, k ≤ m ∧ i = .int .i64 ((2 * k : Nat) : Int) ∧ Syns wr w3.heap.size v ((pairL L).take k) ∧ Hid (∀ j, j < k → okT (pairAt L j).1 = true ∧ okT (pairAt L j).2 = true) ∧ Below w3.heap.size w3 wr) (fun _ i _ => 2 * m - (intOf i).toNat)
      case atStart => exact ⟨0, Nat.zero_le _, by simp, i5, fun j hj => absurd hj (Nat.not_lt_zero _), b5⟩
      case round =>
        clear i5 b5
        obtain ⟨k, hk, rfl, hi, hall, hb⟩ := hrel
        have hzr := hb.size
        by_cases hlt : k < m
        · have hlt' : ((2 * k : Nat) : Int) < ((2 * m : Nat) : Int) := by omega
          have ce0 := HCE.out wr hb (2 * k) (by omega)
          have HC1 := Lib.hid (fun W (hW : Below wr.heap.size wr W) => HCE.out W (hb.trans (hW.mono hzr)) (2 * k + 1) (by omega))
          obtain ⟨va0, va1⟩ := HVA.out (2 * k) (by omega)
          obtain ⟨vb0, vb1⟩ := HVA.out (2 * k + 1) (by omega)
          have HTK := Lib.hid (HPT.out k hlt)
          have HBK := Lib.hid (HBD.out k hlt)
          have hAT := HAT.out k
          have HNX := Lib.hid (fun (h : okT (pairAt L k).1 = true ∧ okT (pairAt L k).2 = true) => show ∀ j, j < k + 1 → okT (pairAt L j).1 = true ∧ okT (pairAt L j).2 = true from fun j hj => by
            by_cases e : j = k
            · subst e; exact h
            · exact hall.out j (by omega))
          have HB0 := fun W => l05Back_any (L.getD (2 * k) 0) 0 0 rfl (.inl rfl) va0 va1 W
          have HB1 := fun W => l05Back_any (L.getD (2 * k + 1) 0) 1 1 rfl (.inr rfl) vb0 vb1 W
          have hlk : ((pairL L).take k).length ≤ 6 := by rw [List.length_take]; omega
          clear HCE HVA HPT HBD HGD HAT hall
          generalize pairAt L k = y at *
          subst hAT
          generalize (pairL L).take k = acc at *
          generalize L.getD (2 * k) 0 = xa at *
          generalize L.getD (2 * k + 1) 0 = xb at *
          simp only at HBK HNX HTK
          generalize backT xa 0 = ta at *
          generalize backT xb 1 = tb at *
          obtain ⟨a0, a1⟩ := ta
          obtain ⟨b0, b1⟩ := tb
          simp only at HB0 HB1
          have hw1 : IntKind.i64.wrap (((2 * k : Nat) : Int) + 1) = ((2 * k + 1 : Nat) : Int) := by rw [IntWalk.i64_in _ (by omega)]; omega
          go_wp2_with fail
          refine (HB0 _).mono ?_
          rintro e wA ⟨rfl, bA⟩
          clear HB0 ce0
          have bA2 := bel_al bA (Nat.le_refl _) (.cells #[.int .i64 a0, .bool a1] 100)
          have ce1 := HC1.out _ bA2
          go_wp2_with fail
          refine (HB1 _).mono ?_
          rintro e wB ⟨rfl, bB⟩
          clear HB1
          have d0 : wB.cell? ⟨wA.heap.size, 0, none⟩ = some (.int .i64 a0) := (bB.cell (p := ⟨wA.heap.size, 0, none⟩) (by simp)).trans (by simp)
          have d1 : wB.cell? ⟨wA.heap.size, 1, none⟩ = some (.bool a1) := (bB.cell (p := ⟨wA.heap.size, 1, none⟩) (by simp)).trans (by simp)
          have hzA := bA.size
          have hzB : wA.heap.size + 1 ≤ wB.heap.size := by have := bB.size; simpa using this
          have bw : Below w3.heap.size w3 wB := hb.trans ((bA2.trans (bB.mono bA2.size)).mono hzr)
          have iB := hi.below (bA2.trans (bB.mono bA2.size))
          clear hi hb bA bA2 bB ce1 HC1
          have bx := bel_al bw (Nat.le_refl _) (.cells #[.int .i64 b0, .bool b1] 100)
          have ix := iB.alloc (.cells #[.int .i64 b0, .bool b1] 100)
          have bs := belP_al (Below.refl wB.heap.size wB) (.cells #[.int .i64 b0, .bool b1] 100)
          have e0 := (bs.cell (p := ⟨wA.heap.size, 0, none⟩) (by show wA.heap.size < _; omega)).trans d0
          have e1 := (bs.cell (p := ⟨wA.heap.size, 1, none⟩) (by show wA.heap.size < _; omega)).trans d1
          have hw2 : IntKind.i64.wrap (((2 * k : Nat) : Int) + 2) = ((2 * (k + 1) : Nat) : Int) := by rw [IntWalk.i64_in _ (by omega)]; omega
          clear iB bw bs d0 d1
          cases h1 : okT (a0, a1) with
          | false =>
            obtain ⟨q1, q2⟩ := HBK.out (by rw [h1]; rfl)
            obtain rfl := hcc.out.trans q1
            obtain rfl := hrr.out.trans q2
            have hb10 := hB9.trans (bx.mono hz3)
            clear HBK HNX ix
            go_wp2
            go_ret2
            first | exact ⟨_, rfl, OwnK.nil _ _ _ _ _, hb10⟩ | exact ⟨rfl, OwnK.nil _ _ _ _ _, hb10⟩
          | true =>
            cases h2 : okT (b0, b1) with
            | false =>
              obtain ⟨q1, q2⟩ := HBK.out (by rw [h1, h2]; rfl)
              obtain rfl := hcc.out.trans q1
              obtain rfl := hrr.out.trans q2
              have hb10 := hB9.trans (bx.mono hz3)
              clear HBK HNX ix
              go_wp2
              go_ret2
              first | exact ⟨_, rfl, OwnK.nil _ _ _ _ _, hb10⟩ | exact ⟨rfl, OwnK.nil _ _ _ _ _, hb10⟩
            | true =>
              have HN := Lib.hid (HNX.out ⟨h1, h2⟩)
              have hzx : w3.heap.size ≤ (wB.alloc (.cells #[.int .i64 b0, .bool b1] 100)).heap.size := bx.size
              clear HBK HNX h1 h2
              go_wp2_with (at_builtin; refine append_syn _ rfl _ _ rfl _ _ _ rfl ix ((a0, a1), (b0, b1)) (by first | rfl | (rw [show (wB.alloc (.cells #[.int .i64 b0, .bool b1] 100)).heap.size = wB.heap.size + 1 from by simp]; rfl)) (by omega) hzx ?_; intro v6 w6 i6 g6; refine Hid.out ?_)
              have b6 : Below w3.heap.size w3 w6 := bx.grown g6 hzx (by intro q hq; exact ix.own_ge hq)
              rw [← HTK.out] at i6
              clear ix bx g6 e0 e1
              refine Lib.hid ?_
              go_wp2
              go_roundw
              case rel => exact ⟨k + 1, by omega, by first | rfl | go_num, i6, HN, b6⟩
              case measure => simp [intOf]; omega
        · obtain rfl : k = m := by omega
          obtain ⟨e1, e2⟩ := HGD.out hall.out
          obtain rfl := hcc.out.trans e1
          obtain rfl := hrr.out.trans e2
          have hb10 := hB9.trans (hb.mono hz3)
          have hi9 := hi.mono hz3
          clear HCE HVA HPT HBD HGD HAT hall hi
          go_wp2
          go_ret2
          first | exact ⟨_, rfl, hi9, hb10⟩ | exact ⟨rfl, hi9, hb10⟩
  · have ho' : ((n : Int) % 2 == 1) = false := by have : (n : Int) % 2 = 0 := by omega
                                                  simp [this]
    have e9 : allP p = p := allP_even (by have := HN.out; omega)
    rw [← e9] at i2
    have hal := (allP_len p).2
    obtain ⟨w3, hw3⟩ : ∃ w3, w3 = w2 := ⟨_, rfl⟩
    subst hw3
    have i3 := i2
    have B3 := B2
    clear i2 B2 HSEE e9
    obtain ⟨ga, ca, rfl, hBa, hga, hca, hma⟩ := i3.shape2 (by omega)
    have hB9 : Below w.heap.size w w3 := B3
    by_cases h12 : 12 < (allP p).length
    · obtain ⟨e1, e2⟩ := pair_full hok.out h12
      obtain rfl := hcc.out.trans e1
      obtain rfl := hrr.out.trans e2
      have h12' : (12 : Int) < ((allP p).length : Int) := by omega
      generalize (allP p).length = nn at *
      clear i3
      go_wp2
      go_ret2
      first | exact ⟨_, rfl, OwnK.nil _ _ _ _ _, hB9⟩ | exact ⟨rfl, OwnK.nil _ _ _ _ _, hB9⟩
    · have h12' : ¬ (12 : Int) < ((allP p).length : Int) := by omega
      obtain ⟨m, hm⟩ : ∃ m, (allP p).length = 2 * m := ⟨(allP p).length / 2, by have := (allP_len p).1; omega⟩
      have hm6 : m ≤ 6 := by omega
      have HCE := Lib.hid (fun W (hW : Below w3.heap.size w3 W) i (hi : i < 2 * m) => show W.cell? ⟨ga, i, none⟩ = some (.int .i64 ((allP p).getD i 0)) from (hW.cell (p := ⟨ga, i, none⟩) hga).trans (i3.cell i (by omega)))
      have HVA := Lib.hid (fun i (hi : i < 2 * m) => show 0 ≤ (allP p).getD i 0 ∧ (allP p).getD i 0 ≤ 15 from by
        have hmem : (allP p).getD i 0 ∈ allP p := by rw [List.getD_eq_getElem?_getD, List.getElem?_eq_getElem (by omega)]; simp
        have hm' := allP_mem hmem
        obtain ⟨j, hj, e⟩ := List.getElem_of_mem hm'
        have := okPat_at hok.out j hj
        rw [List.getD_eq_getElem?_getD, List.getElem?_eq_getElem hj, Option.getD_some, e] at this
        exact this)
      have HPT := Lib.hid (fun i (hi : i < m) => pairL_take (allP p) i (by omega))
      have HBD := Lib.hid (fun i (hi : i < m) (hb : (okT (pairAt (allP p) i).1 && okT (pairAt (allP p) i).2) = false) => show pairC p = 10 ∧ pairR p = [] from pair_lost hok.out h12 (goodP_bad i (by omega) hb))
      have HGD := Lib.hid (fun (hg : ∀ i, i < m → okT (pairAt (allP p) i).1 = true ∧ okT (pairAt (allP p) i).2 = true) => show pairC p = 0 ∧ pairR p = (pairL (allP p)).take m from by
        obtain ⟨e1, e2⟩ := pair_good hok.out h12 (goodP_good fun i hi => hg i (by omega))
        exact ⟨e1, by rw [e2, List.take_of_length_le (by rw [pairL_len]; omega)]⟩)
      have HAT := Lib.hid (fun i => show pairAt (allP p) i = (backT ((allP p).getD (2 * i) 0) 0, backT ((allP p).getD (2 * i + 1) 0) 1) from rfl)
      rw [hm] at h12' ⊢
      have i5 : Syns (w3.alloc (.cells #[] 114)) w3.heap.size (.slice (some ⟨w3.heap.size, 0, none⟩) 0 0) ((pairL (allP p)).take 0) := OwnK.empty _ _ _ _ (Nat.le_refl _)
      have b5 : Below w3.heap.size w3 (w3.alloc (.cells #[] 114)) := (Below.refl _ _).alloc (Nat.le_refl _) _
      have hz3 := B3.size
      clear i3 B3 h12 hm hok hca hma
      generalize allP p = L at *
      go_wp2
      go_loopw [5, 6] (fun v i wr => ∃ k : Nat, k ≤ m ∧ i = .int .i64 ((2 * k : Nat) : Int) ∧ Syns wr w3.heap.size v ((pairL L).take k) ∧ Hid (∀ j, j < k → okT (pairAt L j).1 = true ∧ okT (pairAt L j).2 = true) ∧ Below w3.heap.size w3 wr) (fun _ i _ => 2 * m - (intOf i).toNat)
      case atStart => exact ⟨0, Nat.zero_le _, by simp, i5, fun j hj => absurd hj (Nat.not_lt_zero _), b5⟩
      case round =>
        clear i5 b5
        obtain ⟨k, hk, rfl, hi, hall, hb⟩ := hrel
        have hzr := hb.size
        by_cases hlt : k < m
        · have hlt' : ((2 * k : Nat) : Int) < ((2 * m : Nat) : Int) := by omega
          have ce0 := HCE.out wr hb (2 * k) (by omega)
          have HC1 := Lib.hid (fun W (hW : Below wr.heap.size wr W) => HCE.out W (hb.trans (hW.mono hzr)) (2 * k + 1) (by omega))
          obtain ⟨va0, va1⟩ := HVA.out (2 * k) (by omega)
          obtain ⟨vb0, vb1⟩ := HVA.out (2 * k + 1) (by omega)
          have HTK := Lib.hid (HPT.out k hlt)
          have HBK := Lib.hid (HBD.out k hlt)
          have hAT := HAT.out k
          have HNX := Lib.hid (fun (h : okT (pairAt L k).1 = true ∧ okT (pairAt L k).2 = true) => show ∀ j, j < k + 1 → okT (pairAt L j).1 = true ∧ okT (pairAt L j).2 = true from fun j hj => by
            by_cases e : j = k
            · subst e; exact h
            · exact hall.out j (by omega))
          have HB0 := fun W => l05Back_any (L.getD (2 * k) 0) 0 0 rfl (.inl rfl) va0 va1 W
          have HB1 := fun W => l05Back_any (L.getD (2 * k + 1) 0) 1 1 rfl (.inr rfl) vb0 vb1 W
          have hlk : ((pairL L).take k).length ≤ 6 := by rw [List.length_take]; omega
          clear HCE HVA HPT HBD HGD HAT hall
          generalize pairAt L k = y at *
          subst hAT
          generalize (pairL L).take k = acc at *
          generalize L.getD (2 * k) 0 = xa at *
          generalize L.getD (2 * k + 1) 0 = xb at *
          simp only at HBK HNX HTK
          generalize backT xa 0 = ta at *
          generalize backT xb 1 = tb at *
          obtain ⟨a0, a1⟩ := ta
          obtain ⟨b0, b1⟩ := tb
          simp only at HB0 HB1
          have hw1 : IntKind.i64.wrap (((2 * k : Nat) : Int) + 1) = ((2 * k + 1 : Nat) : Int) := by rw [IntWalk.i64_in _ (by omega)]; omega
          go_wp2_with fail
          refine (HB0 _).mono ?_
          rintro e wA ⟨rfl, bA⟩
          clear HB0 ce0
          have bA2 := bel_al bA (Nat.le_refl _) (.cells #[.int .i64 a0, .bool a1] 100)
          have ce1 := HC1.out _ bA2
          go_wp2_with fail
          refine (HB1 _).mono ?_
          rintro e wB ⟨rfl, bB⟩
          clear HB1
          have d0 : wB.cell? ⟨wA.heap.size, 0, none⟩ = some (.int .i64 a0) := (bB.cell (p := ⟨wA.heap.size, 0, none⟩) (by simp)).trans (by simp)
          have d1 : wB.cell? ⟨wA.heap.size, 1, none⟩ = some (.bool a1) := (bB.cell (p := ⟨wA.heap.size, 1, none⟩) (by simp)).trans (by simp)
          have hzA := bA.size
          have hzB : wA.heap.size + 1 ≤ wB.heap.size := by have := bB.size; simpa using this
          have bw : Below w3.heap.size w3 wB := hb.trans ((bA2.trans (bB.mono bA2.size)).mono hzr)
          have iB := hi.below (bA2.trans (bB.mono bA2.size))
          clear hi hb bA bA2 bB ce1 HC1
          have bx := bel_al bw (Nat.le_refl _) (.cells #[.int .i64 b0, .bool b1] 100)
          have ix := iB.alloc (.cells #[.int .i64 b0, .bool b1] 100)
          have bs := belP_al (Below.refl wB.heap.size wB) (.cells #[.int .i64 b0, .bool b1] 100)
          have e0 := (bs.cell (p := ⟨wA.heap.size, 0, none⟩) (by show wA.heap.size < _; omega)).trans d0
          have e1 := (bs.cell (p := ⟨wA.heap.size, 1, none⟩) (by show wA.heap.size < _; omega)).trans d1
          have hw2 : IntKind.i64.wrap (((2 * k : Nat) : Int) + 2) = ((2 * (k + 1) : Nat) : Int) := by rw [IntWalk.i64_in _ (by omega)]; omega
          clear iB bw bs d0 d1
          cases h1 : okT (a0, a1) with
          | false =>
            obtain ⟨q1, q2⟩ := HBK.out (by rw [h1]; rfl)
            obtain rfl := hcc.out.trans q1
            obtain rfl := hrr.out.trans q2
            have hb10 := hB9.trans (bx.mono hz3)
            clear HBK HNX ix
            go_wp2
            go_ret2
            first | exact ⟨_, rfl, OwnK.nil _ _ _ _ _, hb10⟩ | exact ⟨rfl, OwnK.nil _ _ _ _ _, hb10⟩
          | true =>
            cases h2 : okT (b0, b1) with
            | false =>
              obtain ⟨q1, q2⟩ := HBK.out (by rw [h1, h2]; rfl)
              obtain rfl := hcc.out.trans q1
              obtain rfl := hrr.out.trans q2
              have hb10 := hB9.trans (bx.mono hz3)
              clear HBK HNX ix
              go_wp2
              go_ret2
              first | exact ⟨_, rfl, OwnK.nil _ _ _ _ _, hb10⟩ | exact ⟨rfl, OwnK.nil _ _ _ _ _, hb10⟩
            | true =>
              have HN := Lib.hid (HNX.out ⟨h1, h2⟩)
              have hzx : w3.heap.size ≤ (wB.alloc (.cells #[.int .i64 b0, .bool b1] 100)).heap.size := bx.size
              clear HBK HNX h1 h2
              go_wp2_with (at_builtin; refine append_syn _ rfl _ _ rfl _ _ _ rfl ix ((a0, a1), (b0, b1)) (by first | rfl | (rw [show (wB.alloc (.cells #[.int .i64 b0, .bool b1] 100)).heap.size = wB.heap.size + 1 from by simp]; rfl)) (by omega) hzx ?_; intro v6 w6 i6 g6; refine Hid.out ?_)
              have b6 : Below w3.heap.size w3 w6 := bx.grown g6 hzx (by intro q hq; exact ix.own_ge hq)
              rw [← HTK.out] at i6
              clear ix bx g6 e0 e1
              refine Lib.hid ?_
              go_wp2
              go_roundw
              case rel => exact ⟨k + 1, by omega, by first | rfl | go_num, i6, HN, b6⟩
              case measure => simp [intOf]; omega
        · obtain rfl : k = m := by omega
          obtain ⟨e1, e2⟩ := HGD.out hall.out
          obtain rfl := hcc.out.trans e1
          obtain rfl := hrr.out.trans e2
          have hb10 := hB9.trans (hb.mono hz3)
          have hi9 := hi.mono hz3
          clear HCE HVA HPT HBD HGD HAT hall hi
          go_wp2
          go_ret2
          first | exact ⟨_, rfl, hi9, hb10⟩ | exact ⟨rfl, hi9, hb10⟩
end Go.Proofs.Ytdgmmaghmdbnjaa
