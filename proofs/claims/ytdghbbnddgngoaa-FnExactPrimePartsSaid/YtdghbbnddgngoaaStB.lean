/- Bits of numbers that are not negative, as a walk writes them, and the plain words for them. No conditions but sizes. -/
import Derived.Test.YtdghbbnddgngoaaBase
import Derived.Test.YtdghbbnddgngoaaStP
import Derived.Laws.BitsAllLaws
namespace Go.Proofs.Ytdghbbnddgngoaa
open Go.RowKit
set_option linter.unusedSimpArgs false
set_option linter.unusedVariables false

theorem wrap_small64 (n : Nat) (h : n < 9223372036854775808) : IntKind.i64.wrap (n : Int) = (n : Int) := IntWalk.i64_in _ (by omega)
theorem and_i64 (a b : Nat) (ha : a < 9223372036854775808) (hb : b < 9223372036854775808) : bits .and .i64 (a : Int) (b : Int) = ((a &&& b : Nat) : Int) := by
  show IntKind.i64.wrap ((BitVec.ofInt 64 (a : Int) &&& BitVec.ofInt 64 (b : Int)).toNat : Int) = _
  rw [BitVec.toNat_and, ofInt_u64 a (by omega), ofInt_u64 b (by omega)]
  exact wrap_small64 _ (Nat.lt_of_le_of_lt Nat.and_le_left ha)
theorem or_i64 (a b : Nat) (ha : a < 4611686018427387904) (hb : b < 4611686018427387904) : bits .or .i64 (a : Int) (b : Int) = ((a ||| b : Nat) : Int) := by
  show IntKind.i64.wrap ((BitVec.ofInt 64 (a : Int) ||| BitVec.ofInt 64 (b : Int)).toNat : Int) = _
  rw [BitVec.toNat_or, ofInt_u64 a (by omega), ofInt_u64 b (by omega)]
  have : a ||| b < 2 ^ 62 := Nat.or_lt_two_pow (by omega) (by omega)
  exact wrap_small64 _ (by omega)
theorem andNot_i64 (a b : Nat) (ha : a < 9223372036854775808) (hb : b < 9223372036854775808) : bits .andNot .i64 (a : Int) (b : Int) = ((a &&& (18446744073709551615 - b) : Nat) : Int) := by
  show IntKind.i64.wrap ((BitVec.ofInt 64 (a : Int) &&& ~~~BitVec.ofInt 64 (b : Int)).toNat : Int) = _
  rw [BitVec.toNat_and, BitVec.toNat_not, ofInt_u64 a (by omega), ofInt_u64 b (by omega)]
  rw [show 2 ^ 64 - 1 - b = 18446744073709551615 - b from rfl]
  exact wrap_small64 _ (Nat.lt_of_le_of_lt Nat.and_le_left ha)
theorem cast_shr (m t : Nat) : ((m : Int) / 2 ^ t) = ((m / 2 ^ t : Nat) : Int) := by simp
theorem cast_pow (t : Nat) : ((2 : Int) ^ t) = ((2 ^ t : Nat) : Int) := by simp
theorem bit_key (m t : Nat) (hm : m < 9223372036854775808) : (bits .and .i64 ((m : Int) / 2 ^ t) 1 == 1) = decide (m / 2 ^ t % 2 = 1) := by
  rw [cast_shr, show (1 : Int) = ((1 : Nat) : Int) from rfl, and_i64 _ 1 (Nat.lt_of_le_of_lt (Nat.div_le_self _ _) hm) (by decide), Nat.and_one_is_mod]
  by_cases h : m / 2 ^ t % 2 = 1
  · rw [h]; rfl
  · rw [decide_eq_false h]
    have : m / 2 ^ t % 2 = 0 := by omega
    rw [this]; rfl
theorem bit_key0 (m : Nat) (hm : m < 9223372036854775808) : (bits .and .i64 (m : Int) 1 == 1) = decide (m % 2 = 1) := by
  have := bit_key m 0 hm
  simpa using this

/-- a variable of two cells, behind a call -/
theorem two_kept {w w1 : World} {x y : Value} {T : TypeId} (b : Below (w.alloc (.cells #[x, y] T)).heap.size (w.alloc (.cells #[x, y] T)) w1) :
    w1.cell? ⟨w.heap.size, 0, none⟩ = some x ∧ w1.cell? ⟨w.heap.size, 1, none⟩ = some y ∧ Below w.heap.size w w1 :=
  ⟨by rw [b.cell (by simp)]; simp, by rw [b.cell (by simp)]; simp, ((Below.refl w.heap.size w).alloc (Nat.le_refl _) _).trans (b.mono (by simp))⟩

/-- two variables of two cells, behind a call -/
theorem four_kept {w w1 : World} {x y u v : Value} {T T' : TypeId} (b : Below ((w.alloc (.cells #[x, y] T)).alloc (.cells #[u, v] T')).heap.size ((w.alloc (.cells #[x, y] T)).alloc (.cells #[u, v] T')) w1) :
    w1.cell? ⟨w.heap.size, 0, none⟩ = some x ∧ w1.cell? ⟨w.heap.size, 1, none⟩ = some y ∧ w1.cell? ⟨w.heap.size + 1, 0, none⟩ = some u ∧ w1.cell? ⟨w.heap.size + 1, 1, none⟩ = some v ∧ (∀ j, w1.frozen? ⟨w.heap.size + 1, j, none⟩ = false) ∧ Below w.heap.size w w1 := by
  have e0 : w1.heap[w.heap.size]? = some (.cells #[x, y] T) := (b.block _ (by simp; omega)).trans ((Below.heap_alloc _ _ _ (by simp)).trans (heap_alloc_new _ _))
  have e1 : w1.heap[w.heap.size + 1]? = some (.cells #[u, v] T') := (b.block _ (by simp)).trans (by have := heap_alloc_new (w.alloc (.cells #[x, y] T)) (.cells #[u, v] T'); simpa using this)
  refine ⟨by simp [World.cell?, e0], by simp [World.cell?, e0], by simp [World.cell?, e1], by simp [World.cell?, e1], fun j => by simp [World.frozen?, e1], ?_⟩
  exact (((Below.refl w.heap.size w).alloc (Nat.le_refl _) _).alloc (by simp) _).trans (b.mono (by simp; omega))

/-- what is stored in a variable of two cells is there -/
theorem stc_set {w : World} {b : Nat} {p q : Value} (u v : Value) (h0 : w.cell? ⟨b, 0, none⟩ = some p) (h1 : w.cell? ⟨b, 1, none⟩ = some q) :
    ((w.setCell ⟨b, 0, none⟩ u).setCell ⟨b, 1, none⟩ v).cell? ⟨b, 0, none⟩ = some u ∧ ((w.setCell ⟨b, 0, none⟩ u).setCell ⟨b, 1, none⟩ v).cell? ⟨b, 1, none⟩ = some v := by
  refine ⟨?_, ?_⟩
  · exact (World.cell?_setCell_other _ _ _ _ (by simp)).trans (World.cell?_setCell_same _ _ _ h0)
  · exact World.cell?_setCell_same _ _ _ (u := q) ((World.cell?_setCell_other _ _ _ _ (by simp)).trans h1)
theorem frozen_kept {w w1 : World} {N b : Nat} (hb : Below N w w1) (h : b < N) (j : Nat) : w1.frozen? ⟨b, j, none⟩ = w.frozen? ⟨b, j, none⟩ := by
  simp only [World.frozen?, hb.block b h]
theorem two_below {w0 w : World} {N b : Nat} (hb : Below N w0 w) (h : N ≤ b) (u v : Value) : Below N w0 ((w.setCell ⟨b, 0, none⟩ u).setCell ⟨b, 1, none⟩ v) :=
  (hb.setCell h u).setCell h v
end Go.Proofs.Ytdghbbnddgngoaa
