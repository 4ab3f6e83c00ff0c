/- StatesOf, the model's and the program's. No conditions. -/
import Derived.Test.YtjndiaefcmjbmaaStV
import Derived.Test.YtjndiaefcmjbmaaStG
namespace Go.Proofs.Ytjndiaefcmjbmaa
open Go.RowKit
set_option linter.unusedSimpArgs false
set_option linter.unusedVariables false

/-- the states of a pattern before all beats of its period -/
def ofL (p : List Int) (h : Nat) : List Sta := (List.range p.length).map fun i : Nat => ((h : Int), ((ofM p (i : Int) h : Nat) : Int))
theorem ofL_len (p : List Int) (h : Nat) : (ofL p h).length = p.length := by simp [ofL]
theorem ofL_at (p : List Int) (h k : Nat) (hk : k < p.length) : (ofL p h).getD k s0 = ((h : Int), ((ofM p (k : Int) h : Nat) : Int)) := by simp [ofL, hk]
theorem ofL_take (p : List Int) (h k : Nat) (hk : k < p.length) : (ofL p h).take (k + 1) = (ofL p h).take k ++ [((h : Int), ((ofM p (k : Int) h : Nat) : Int))] := by
  rw [List.take_succ_eq_append_getElem (by rw [ofL_len]; exact hk)]
  simp [ofL]
/-- what StatesOf answers -/
def ofLA (p : List Int) (height : Int) : List Sta := if ofC p 0 height = 0 then ofL p height.toNat else []

theorem ofLA_len (p : List Int) (height : Int) : (ofLA p height).length ≤ 12 := by
  unfold ofLA
  split
  · rename_i h
    rw [ofL_len]
    exact (okPat_len (ofC_zero h).1).2
  · simp
theorem stV_one (y : Sta) : ∀ u ∈ stV y, u.oneCell' = true := by
  intro u hu
  simp only [stV, List.mem_cons, List.not_mem_nil, or_false] at hu
  rcases hu with rfl | rfl <;> rfl
theorem append_st (w0 : World) {ops : Array Oper} {rest : List Oper} {o : Oper} {a : Act} {Q : Exit → Act → World → Prop} (hgd : o.guard = none) (s x : Operand)
    (ho : o.op = .call { callee := .builtin .append, args := #[s, x], argTypes := #[31, 31] }) (B : Nat) (v : Value) (xs : List Sta) (hs : a.eval s = v) (h : Sts w0 B v xs) (y : Sta)
    (hx : a.eval x = .slice (some ⟨w0.heap.size, 0, none⟩) 1 1) (hlen : xs.length ≤ 1000000) (hB : B ≤ w0.heap.size)
    (hK : ∀ v' w', Sts w' B v' (xs ++ [y]) → w0.grownBy w' v.ownBlock → wpList Try.prog ops Q rest (a.put o.dst v') w') :
    wpList Try.prog ops Q (o :: rest) a (w0.alloc (.cells #[.int .i64 y.1, .int .i64 y.2] 26)) := by
  obtain ⟨i0, hi, hz0, hz1, hz2⟩ := info_parts Try.infoSt
  refine wpList_append_own (w0.alloc (.cells (stV y).toArray 26)) hgd s x 31 ho B 26 i0 (.agg #[.int .i64 0, .int .i64 0]) 2 16 Try.underlying31 hi hz0 hz1 hz2 rfl (by decide) v xs.length _ hs (World.ownsRow.alloc h _)
    ⟨w0.heap.size, 0, none⟩ 1 1 (stV y) hx rfl ?_ (stV_one y) (by unfold maxLen; omega) (by omega) (by simp; omega) ?_
  · intro j u hj
    match j, hj with
    | 0, hj => simp [stV] at hj; subst hj; simp [Addr.add, stV]
    | 1, hj => simp [stV] at hj; subst hj; simp [Addr.add, stV]
    | j + 2, hj => simp [stV] at hj
  · intro v' w' h1 h2 _
    refine hK v' w' ?_ ⟨h2.os, h2.tape, h2.output, by have := h2.size; simp at this; omega, fun k hk hne => ?_⟩
    · unfold Sts OwnK
      simpa using h1
    · rw [h2.block k (by simp; omega) hne]
      exact Below.heap_alloc _ _ _ hk

end Go.Proofs.Ytjndiaefcmjbmaa
