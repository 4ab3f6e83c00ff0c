/- The throws of a state: bits.TrailingZeros64 on small masks, and the program's iterator. Conditions: the library's table as its text lays it. -/
import Derived.Test.YtdghbbnddgngoaaDoorStJ
import Derived.Test.YtdghbbnddgngoaaDoorOwnK
import Derived.RangeFuncNested
import Derived.RangeFuncBound
import Derived.RangeFuncCalls
import Derived.RangeFuncLeaves
import Derived.OwnWalkIn
import Derived.TacticsInMore
import Derived.LoopNIn
import Derived.LoopIn
import Derived.Lib.TrailingZeros
import Derived.Lib.LaidTab
import Derived.Laws.Bits64b
namespace Go.Proofs.YtdghbbnddgngoaaDoor
open Go.RowKit
set_option linter.unusedSimpArgs false
set_option linter.unusedVariables false

/-- the bits of a mask from the lowest on -/
def bitsUp : Nat → Nat → List Nat
  | 0, _ => []
  | f + 1, P => if P = 0 then [] else Lib.ctz 64 P :: bitsUp f (P &&& (P - 1))
theorem bitsUp_throws : ∀ h, h < 11 → ∀ m, m < 2 ^ h → bitsUp 12 (possM h m) = (List.range (h + 1)).filter (fun t : Nat => canI h m (t : Int)) := by decide +kernel
theorem bits_small : ∀ P, P < 2048 → P ≠ 0 → Lib.ctz 64 P < 11 ∧ P &&& (P - 1) < P := by decide +kernel

/-- the library's table -/
def CtzTab (w : World) : Prop := ∀ j, j < 64 → w.cell? ⟨1, j, none⟩ = some (.int .u8 (Lib.deBruijn64tab.getD j 0))

set_option maxHeartbeats 1000000 in
theorem tz_core (x k idx : Nat) (w : World) (hx0 : ((x : Int) == 0) = false)
    (key : IntKind.u64.wrap (bits BinOp.and IntKind.u64 (x : Int) (IntKind.u64.wrap (-(x : Int))) * 285870213051353865) / 288230376151711744 = (idx : Int))
    (hi : idx < 64) (hk : k < 64) (hcell : w.cell? ⟨1, idx, none⟩ = some (.int .u8 k)) :
    Calls Tryd.prog 78 #[.int .u64 x] w fun e w' => e = .returned (.int .i64 k) ∧ w' = w := by
  go_enter Tryd.func78, Tryd.ntmps78
  go_wp2_with (simp only [key])
  go_ret
  exact ⟨rfl, rfl⟩
theorem tz_key (x a : Nat) (hx : x < 18446744073709551616) (hx0 : x ≠ 0) (hlow : x &&& (18446744073709551616 - x) = a) :
    IntKind.u64.wrap (bits BinOp.and IntKind.u64 (x : Int) (IntKind.u64.wrap (-(x : Int))) * 285870213051353865) / 288230376151711744 = ((a * 285870213051353865 % 18446744073709551616 / 288230376151711744 : Nat) : Int) := by
  have e1 : IntKind.u64.wrap (-(x : Int)) = ((18446744073709551616 - x : Nat) : Int) := by rw [IntKind.wrap_u64]; omega
  rw [e1, u64_and_nat x _ hx (by omega), hlow, IntKind.wrap_u64]
  omega
theorem trailing_any (x : Nat) (hx : x < 2048) (h0 : x ≠ 0) (w : World) (hT : CtzTab w) :
    Calls Tryd.prog 78 #[.int .u64 x] w fun e w' => e = .returned (.int .i64 (Lib.ctz 64 x)) ∧ w' = w := by
  obtain ⟨hlow, hk⟩ := Lib.lowest_bit 64 x h0 (by omega)
  obtain ⟨hi, htab⟩ := Lib.deBruijn64_at _ hk
  have hcell := hT _ hi
  rw [htab] at hcell
  exact tz_core x _ _ w (by simp; omega) (tz_key x _ (by omega) h0 hlow) hi hk hcell

def encT (x : Nat) : Array Value := #[.int .i64 x]
theorem bitsUp_step {P f : Nat} (h : P ≠ 0) : bitsUp (f + 1) P = Lib.ctz 64 P :: bitsUp f (P &&& (P - 1)) := by rw [bitsUp, if_neg h]
theorem bitsUp_zero (f : Nat) : bitsUp f 0 = [] := by cases f <;> simp [bitsUp]
theorem bits_fuel : ∀ Q, Q < 2048 → bitsUp 11 Q = bitsUp 12 Q := by decide +kernel
theorem bits_next {Q : Nat} (h : Q < 2048) (h0 : Q ≠ 0) : bitsUp 12 Q = Lib.ctz 64 Q :: bitsUp 12 (Q &&& (Q - 1)) := by
  rw [bitsUp_step h0, bits_fuel _ (Nat.lt_trans (bits_small Q h h0).2 h)]
theorem clear_low (P : Nat) (h : P < 2048) (h0 : P ≠ 0) : bits .and .u64 (P : Int) ((P : Int) - 1) = ((P &&& (P - 1) : Nat) : Int) := by
  rw [show (P : Int) - 1 = ((P - 1 : Nat) : Int) from by omega, u64_and_nat _ _ (by omega) (by omega)]

set_option maxRecDepth 100000 in
set_option maxHeartbeats 2000000 in
theorem throwsSt_in (n : Nat) (hn : 1 ≤ n) (l h m : Nat) (hh : h ≤ 10) (hm : m < 2 ^ h) (J : List Nat → World → Prop)
    (hJ : ∀ pre W1 W2, J pre W1 → Below W1.heap.size W1 W2 → J pre W2)
    (hY : ∀ pre x W, J pre W → CtzTab W → pre ++ [x] <+: bitsUp 12 (possM h m) → YieldAt Fence.wide (n - 1) Tryd.prog l (encT x) W fun e W' => e = .returned (.bool true) ∧ J (pre ++ [x]) W' ∧ CtzTab W')
    (hTb : ∀ W1 W2, CtzTab W1 → Below W1.heap.size W1 W2 → CtzTab W2)
    (W : World) (hT : CtzTab W) (h0 : J [] W) :
    CallsIn Fence.wide n Tryd.prog 52 #[.agg #[.int .i64 h, .int .i64 m], .func (.yield l) #[] #[]] W fun e W' => (∃ v, e = .returned v) ∧ J (bitsUp 12 (possM h m)) W' := by
  have HP := fun W => possible_any h m W hh hm
  have hPl := poss_lt h m hh
  clear hm
  generalize possM h m = P at *
  refine callsIn_of_wp Tryd.func52 rfl trivial ?_ rfl
  simp only [Tryd.ntmps52, List.size_toArray, List.length_cons, List.length_nil, Nat.reduceAdd, Nat.reduceSub, Array.replicate_succ, Array.replicate_zero, List.push_toArray, List.append_toArray, List.nil_append, List.cons_append]
  gi_wp2_with (refine ⟨trivial, ?_⟩; gi_at_call 77; refine (callsIn_wide.2 (HP _)).mono ?_; rintro e w1 ⟨rfl, b1⟩)
  have B1 : Below W.heap.size W w1 := by
    first
      | exact b1
      | exact (two_kept b1).2.2
  have T1 := hTb _ _ hT B1
  have J1 := hJ _ _ _ h0 B1
  clear b1 B1 hT h0
  gi_loopw [4] (fun v wr => ∃ (Q : Nat) (pre : List Nat), v = .int .u64 Q ∧ Q < 2048 ∧ Hid (pre ++ bitsUp 12 Q = bitsUp 12 P) ∧ J pre wr ∧ CtzTab wr) (fun v _ => (intOf v).toNat)
  case atStart => exact ⟨P, [], rfl, hPl, by unfold Hid; simp, J1, T1⟩
  case round =>
    clear T1 J1
    obtain ⟨Q, pre, rfl, hQ, hpre, hJ2, hT2⟩ := hrel
    by_cases h0 : Q = 0
    · subst h0
      have hp := hpre.out
      rw [bitsUp_zero, List.append_nil] at hp
      gi_wp2
      go_end0
      exact ⟨⟨_, rfl⟩, by rw [← hp]; exact hJ2⟩
    · have hnx := bits_next hQ h0
      obtain ⟨hc, hlt⟩ := bits_small Q hQ h0
      have HTR := fun W => trailing_any Q hQ h0 W
      have hcl := clear_low Q hQ h0
      have hpre2 : Hid (pre ++ [Lib.ctz 64 Q] ++ bitsUp 12 (Q &&& (Q - 1)) = bitsUp 12 P) := by
        unfold Hid; rw [List.append_assoc, ← hpre.out, hnx]; rfl
      have hpx : pre ++ [Lib.ctz 64 Q] <+: bitsUp 12 P := ⟨_, hpre2.out⟩
      obtain ⟨fn, tmps, assign, body, hy, hR⟩ := hY pre (Lib.ctz 64 Q) wr hJ2 hT2 hpx
      have HT3 := HTR wr hT2
      have hne : ((Q : Int) != 0) = true := by simp; omega
      clear hnx hpre hpx HTR hY
      generalize Lib.ctz 64 Q = x at *
      generalize Q &&& (Q - 1) = Q2 at *
      replace hy : (Instr.yield l #[.int .i64 x]).run Tryd.prog wr = .ok (.round l fn tmps assign body) wr := hy
      gi_wp2_with (refine ⟨trivial, ?_⟩; gi_at_call 78; refine (callsIn_wide.2 HT3).mono ?_; rintro e w3 ⟨rfl, rfl⟩)
      refine hR.mono ?_
      rintro e W3 ⟨rfl, hJ3, hT3⟩
      gi_wp2
      go_roundw
      case rel => exact ⟨Q2, pre ++ [x], by first | rfl | (rw [hcl]), by omega, hpre2, hJ3, hT3⟩
      case measure => simp [intOf, hcl]; omega
end Go.Proofs.YtdghbbnddgngoaaDoor
