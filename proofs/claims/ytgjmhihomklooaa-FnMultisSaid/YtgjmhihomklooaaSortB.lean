/- Multiplex, the program's: SortBeat answers the throws of a beat in falling order, without 0. Conditions: a list of at most 2^20 numbers. -/
import Derived.Test.YtgjmhihomklooaaImpl02
import Derived.Test.YtgjmhihomklooaaMul
import Derived.Test.YtgjmhihomklooaaShelf
import Derived.Lib.OwnBridge
namespace Go.Proofs.Ytgjmhihomklooaa
open Go.RowKit Go.Lib Go.Sort
set_option linter.unusedSimpArgs false
set_option linter.unusedVariables false

theorem ownInts_empty (w : World) {B : Nat} (hB : B ≤ w.heap.size) : Ints (w.alloc (.cells #[] 2)) B (.slice (some ⟨w.heap.size, 0, none⟩) 0 0) [] := World.ownsRow_lit w #[] 0 hB (by simp [maxLen]) rfl

theorem cmpFall_any (x y : Int) (w : World) :
    Calls Try.prog 118 #[.int .i64 x, .int .i64 y] w fun e w' => e = .returned (.int .i64 (Lib.compareInt x y)) ∧ w' = w := by
  by_cases h : x < y
  · have e1 : Lib.compareInt x y = -1 := by unfold Lib.compareInt; rw [if_pos h]
    rw [e1]
    go_enter Try.func118, Try.ntmps118
    go_wp2
    go_ret
    exact ⟨rfl, rfl⟩
  · by_cases h' : y < x
    · have e1 : Lib.compareInt x y = 1 := by unfold Lib.compareInt; rw [if_neg h, if_pos h']
      rw [e1]
      go_enter Try.func118, Try.ntmps118
      go_wp2
      go_ret
      exact ⟨rfl, rfl⟩
    · have e1 : Lib.compareInt x y = 0 := by unfold Lib.compareInt; rw [if_neg h, if_neg h']
      rw [e1]
      go_enter Try.func118, Try.ntmps118
      go_wp2
      go_ret
      exact ⟨rfl, rfl⟩

/-- the comparison of the program's sort -/
def cfD (x y : Int) : Int := Lib.compareInt y x
theorem ltD (x y : Int) : ltOf cfD x y = decide (y < x) := by
  unfold ltOf cfD Lib.compareInt
  by_cases h1 : y < x
  · simp [h1]
  · by_cases h2 : x < y <;> simp [h1, h2]
theorem swoD : SWO (ltOf cfD) where
  irrefl x := by rw [ltD]; simp
  trans x y z h1 h2 := by rw [ltD] at *; simp at *; omega
  ntrans x y z h1 h2 := by rw [ltD] at *; simp at *; omega
theorem totD (x y : Int) (h1 : ltOf cfD x y = false) (h2 : ltOf cfD y x = false) : x = y := by rw [ltD] at *; simp at *; omega
theorem geD : (fun x y : Int => !ltOf cfD y x) = geB := by
  funext x y
  rw [ltD]
  unfold geB
  by_cases h : y ≤ x
  · have h' : ¬ x < y := by omega
    simp [h, h']
  · have h' : x < y := by omega
    simp [h, h']

theorem fall_any (x y : Int) (w : World) : Calls Try.prog 117 #[.int .i64 x, .int .i64 y] w fun e w' => e = .returned (.int .i64 (cfD x y)) ∧ ∃ q, w' = w.drewN q := by
  have hcon := cmpFall_any y x w
  unfold cfD
  generalize Lib.compareInt y x = r at hcon ⊢
  go_enter Try.func117, Try.ntmps117
  go_wp2_with (go_at_call 118; refine hcon.mono ?_; rintro e w' ⟨rfl, rfl⟩)
  go_ret
  exact ⟨rfl, 0, rfl⟩
theorem fallReads (blk off size : Nat) (w : World) : CmpReads Try.prog 117 #[] (Value.int .i64) cfD blk off size w := fun _ _ _ _ x y => fall_any x y _

theorem below_grow (w : World) (os : Array Obj) : Below w.heap.size w (grow w os) := ⟨rfl, rfl, rfl, by simp, fun k hk => heap_grow_old w os hk⟩

theorem sortFunc_any (g cap B n : Nat) (xs : List Int) (w : World) (h : Ints w B (.slice (some ⟨g, 0, none⟩) n cap) xs) (hn : n = xs.length) (hl : n ≤ 1000000000) :
    Calls Try.prog 116 #[.slice (some ⟨g, 0, none⟩) n cap, .func (.func 117) #[] #[]] w fun e w' =>
      e = .returned (.tuple #[]) ∧ Ints w' B (.slice (some ⟨g, 0, none⟩) n cap) (xs.mergeSort geB) ∧ ∀ C w0, C ≤ B → B ≤ w.heap.size → Below C w0 w → Below C w0 w' := by
  subst hn
  obtain ⟨g', cap', e0, hb, hlt, _, _, _, hH⟩ := holds_of_ownsRow h (by intro e; cases e)
  injection e0 with e1 _ e3
  injection e1 with e1
  injection e1 with e1
  subst e1; subst e3
  have eg : ∀ args w, (callFunc 117 args).run Try.prog w = .ok (.enter 117 args) w := enters_of Try.func117 (by kernel_rfl) rfl
  have hS := Any.slices_SortFunc_total Try.laySort (Value.int .i64) (fun _ => rfl) cfD swoD 117 #[] g 0 cap xs.toArray w eg (fallReads g 0 xs.toArray.size w).lays hH hlt (by simp; omega) totD
  rw [geD] at hS
  have hsz : xs.toArray.size = xs.length := by simp
  rw [hsz] at hS
  refine Calls.mono hS ?_
  rintro e w' ⟨rfl, m, os, rfl⟩
  refine ⟨rfl, ?_, fun C w0 hC hBw hw => ?_⟩
  · have h2 := ownsRow_putRow (q := m) (k := xs.length) h (ys := xs.mergeSort geB) (List.length_mergeSort _) (Nat.le_refl _)
    rw [List.take_of_length_le (by rw [List.length_mergeSort]; exact Nat.le_refl _)] at h2
    have h3 : Ints (putRow (Value.int .i64) (Sort.ahead w m) g 0 (xs.mergeSort geB).toArray) B (.slice (some ⟨g, 0, none⟩) xs.length cap) (xs.mergeSort geB) := by
      unfold Ints
      rw [List.length_mergeSort]
      exact h2
    exact h3.below (below_grow _ os)
  · have h4 := below_putRow (enc := Value.int .i64) (q := m) (g := g) (d := (xs.mergeSort geB).toArray) hw (by omega)
    exact h4.trans ((below_grow _ os).mono (by have := h4.size; simpa using (show C ≤ (putRow (Value.int .i64) (Sort.ahead w m) g 0 (xs.mergeSort geB).toArray).heap.size by simp [putRow, mapBlock, Sort.ahead]; omega)))
end Go.Proofs.Ytgjmhihomklooaa
