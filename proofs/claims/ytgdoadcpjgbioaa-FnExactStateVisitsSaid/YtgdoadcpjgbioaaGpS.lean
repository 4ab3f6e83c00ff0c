/- The states of one kind, the model's: StateCount, AllStates, StateIndex, StateAt. No conditions. -/
import Derived.Test.YtgdoadcpjgbioaaGpA
import Derived.Test.YtgdoadcpjgbioaaStK
import Derived.Test.YtgdoadcpjgbioaaSees
import Derived.Test.YtgdoadcpjgbioaaStR
import Derived.Maps.AppendAt
namespace Go.Proofs.Ytgdoadcpjgbioaa
open Go.RowKit
set_option linter.unusedSimpArgs false
set_option linter.unusedVariables false

/-- the code of a number of props and a height -/
def gndC (n h : Int) : Int := if gndOk n h then 0 else 2
theorem gndOk_nat {n h : Int} (k : gndOk n h = true) : ∃ p a : Nat, n = p ∧ h = a ∧ 1 ≤ a ∧ a ≤ 10 ∧ p ≤ a := by
  simp only [gndOk, Bool.and_eq_true, inB_iff] at k
  exact ⟨n.toNat, h.toNat, by omega, by omega, by omega, by omega, by omega⟩
theorem gndL_ok {n h : Int} (k : gndOk n h = true) : gndL n h = mskS h.toNat n.toNat (2 ^ h.toNat) := if_pos k
theorem gndL_no {n h : Int} (k : gndOk n h = false) : gndL n h = [] := by unfold gndL; exact if_neg (by rw [gndOk] at k; rw [k]; simp)

theorem append_st2 (w0 : World) {ops : Array Oper} {rest : List Oper} {o : Oper} {a : Act} {Q : Exit → Act → World → Prop} (hgd : o.guard = none) (s x : Operand)
    (ho : o.op = .call { callee := .builtin .append, args := #[s, x], argTypes := #[55, 55] }) (B : Nat) (v : Value) (xs : List Sta) (hs : a.eval s = v) (h : Sts w0 B v xs) (y : Sta)
    (hx : a.eval x = .slice (some ⟨w0.heap.size, 0, none⟩) 1 1) (hlen : xs.length ≤ 1000000) (hB : B ≤ w0.heap.size)
    (hK : ∀ v' w', Sts w' B v' (xs ++ [y]) → w0.grownBy w' v.ownBlock → (v'.ownBlock = v.ownBlock ∨ v'.ownBlock = some (w0.heap.size + 1)) → wpList Try.prog ops Q rest (a.put o.dst v') w') :
    wpList Try.prog ops Q (o :: rest) a (w0.alloc (.cells #[.int .i64 y.1, .int .i64 y.2] 60)) := by
  obtain ⟨i0, hi, hz0, hz1, hz2⟩ := info_parts Try.infoSt
  refine wpList_append_own_at (w0.alloc (.cells (stV y).toArray 60)) hgd s x 55 ho B 60 i0 (.agg #[.int .i64 0, .int .i64 0]) 2 16 Try.underlying55 hi hz0 hz1 hz2 rfl (by decide) v xs.length _ hs (World.ownsRow.alloc h _)
    ⟨w0.heap.size, 0, none⟩ 1 1 (stV y) hx rfl ?_ (stV_one y) (by unfold maxLen; omega) (by omega) (by simp; omega) ?_
  · intro j u hj
    match j, hj with
    | 0, hj => simp [stV] at hj; subst hj; simp [Addr.add, stV]
    | 1, hj => simp [stV] at hj; subst hj; simp [Addr.add, stV]
    | j + 2, hj => simp [stV] at hj
  · intro v' w' h1 h2 _ h3
    refine hK v' w' ?_ ⟨h2.os, h2.tape, h2.output, by have := h2.size; simp at this; omega, fun k hk hne => ?_⟩ (by simpa using h3)
    · unfold Sts OwnK
      simpa using h1
    · rw [h2.block k (by simp; omega) hne]
      exact Below.heap_alloc _ _ _ hk

/-- the state with an index -/
def atOk (n h i : Int) : Bool := gndOk n h && inB i 0 ((gndL n h).length - 1)
def atH (n h i : Int) : Int := if atOk n h i then h else 0
def atM (n h i : Int) : Int := if atOk n h i then ((gndL n h).getD i.toNat (0, 0)).2 else 0
def atC (n h i : Int) : Int := if atOk n h i then 0 else 2
end Go.Proofs.Ytgdoadcpjgbioaa
