/- All arcs of a graph in one list: slices.Concat over its rows, arcs, ArcsOf, ArcCount, the program's and the model's. Conditions: the library's table as its text lays it. -/
import Derived.Test.YtdghbbnddgngoaaDoorArG
import Derived.Lib.AppendZeros
namespace Go.Proofs.YtdghbbnddgngoaaDoor
open Go.RowKit
set_option linter.unusedSimpArgs false
set_option linter.unusedVariables false

theorem zerosA_size (n : Nat) : (Builtin.zeroCells #[.int .i64 0, .int .i64 0, .int .i64 0] n).size = n * 3 := by simp [Builtin.zeroCells]
theorem zerosA_row (w : World) (n c : Nat) (hc : n ≤ c) (hm : c ≤ maxLen) :
    Arcs (w.drew.alloc (.cells (Builtin.zeroCells #[.int .i64 0, .int .i64 0, .int .i64 0] n ++ Builtin.zeroCells #[.int .i64 0, .int .i64 0, .int .i64 0] (c - n)) 91)) w.heap.size (.slice (some ⟨w.heap.size, 0, none⟩) 0 c) [] := by
  refine ⟨rfl, .inr ⟨w.heap.size, c, Builtin.zeroCells #[.int .i64 0, .int .i64 0, .int .i64 0] n ++ Builtin.zeroCells #[.int .i64 0, .int .i64 0, .int .i64 0] (c - n), rfl, Nat.le_refl _, ?_, Nat.zero_le _, hm, ?_, by simp⟩⟩
  · show (w.heap.push _)[w.heap.size]? = _
    exact Array.getElem?_push_size
  · rw [Array.size_append, zerosA_size, zerosA_size]; omega

theorem append_arcs (w0 : World) {ops : Array Oper} {rest : List Oper} {o : Oper} {a : Act} {Q : Exit → Act → World → Prop} (hgd : o.guard = none) (s x : Operand)
    (ho : o.op = .call { callee := .builtin .append, args := #[s, x], argTypes := #[88, 88] }) (B B' : Nat) (v : Value) (xs ys : List ArcT) (hs : a.eval s = v) (h : Arcs w0 B v xs) (gx cx m : Nat)
    (hx : a.eval x = .slice (some ⟨gx, 0, none⟩) m cx) (hy : Arcs w0 B' (.slice (some ⟨gx, 0, none⟩) m cx) ys) (hm : m = ys.length) (hlen : xs.length ≤ 1000000) (hlen2 : ys.length ≤ 1000000) (hB : B ≤ w0.heap.size)
    (hK : ∀ v' w', Arcs w' B v' (xs ++ ys) → w0.grownBy w' v.ownBlock → wpList Tryd.prog ops Q rest (a.put o.dst v') w') :
    wpList Tryd.prog ops Q (o :: rest) a w0 := by
  obtain ⟨i0, hi, hz0, hz1, hz2⟩ := info_parts Tryd.infoArc
  subst hm
  refine wpList_append_own_at w0 hgd s x 88 ho B 91 i0 (.agg #[.int .i64 0, .int .i64 0, .int .i64 0]) 3 24 Tryd.underlying88 hi hz0 hz1 hz2 rfl (by decide) v xs.length _ hs h
    ⟨gx, 0, none⟩ ys.length cx (ys.flatMap arcV) hx (flat_len arcV_len ys) ?_ (fun u hu => ?_) (by unfold maxLen; omega) (by omega) (by omega) ?_
  · intro j u hj
    have hlt : j < ys.length * 3 := by
      have := (List.getElem?_eq_some_iff.1 hj).1
      rwa [flat_len arcV_len] at this
    have := World.ownsRow.cellAt hy j hlt
    rw [hj] at this
    have hadd : (⟨gx, 0, none⟩ : Addr).add j = ⟨gx, j, none⟩ := by unfold Addr.add; split <;> simp_all
    rw [hadd]; exact this
  · obtain ⟨y, _, hy⟩ := List.mem_flatMap.1 hu
    exact arcV_one y u hy
  · intro v' w' h1 h2 _ h3
    refine hK v' w' ?_ h2
    unfold Arcs OwnK
    simpa using h1

theorem flat_take {pss : List (List ArcT)} {k : Nat} (hk : k < pss.length) : (pss.take (k + 1)).flatten = (pss.take k).flatten ++ pss.getD k [] := by
  rw [List.take_succ_eq_append_getElem hk, List.flatten_append]
  simp [hk]
theorem flat_le (pss : List (List ArcT)) (k : Nat) : (pss.take k).flatten.length ≤ pss.flatten.length := by
  have h := congrArg List.length (congrArg List.flatten (List.take_append_drop k pss))
  rw [List.flatten_append, List.length_append] at h
  omega

end Go.Proofs.YtdghbbnddgngoaaDoor
