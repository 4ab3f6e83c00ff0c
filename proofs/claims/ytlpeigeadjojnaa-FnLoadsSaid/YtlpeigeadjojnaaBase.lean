/- Words on slices of int64 numbers that every text of this seat uses, and what a call that writes nothing old keeps of them. No conditions. -/
import Derived.Test.YtlpeigeadjojnaaRows
import Derived.WalkKit
import Derived.ProofKit
import Derived.OpenShut
import Derived.ShutString
import Derived.ChangeOld
import Derived.Below
import Derived.Lib.Hide
import Derived.Outline
import Derived.WalkSpells
import Derived.WalkSmall
import Derived.Deep.Draws
import Derived.Deep.QuietTactic
import Derived.BigQuiet
import Derived.WalkLawsBesides
namespace Go.Proofs.Ytlpeigeadjojnaa
open Go.RowKit
set_option linter.unusedSimpArgs false
set_option linter.unusedVariables false

/-- WHAT A WALK IS TOLD OF A SLICE OF INTEGERS THAT CAME IN. -/
def IsRow (k : IntKind) (w : World) (a : Option Addr) (len cap : Nat) (zs : List Int) : Prop :=
  (a = none ∧ len = 0 ∧ cap = 0 ∧ zs = []) ∨
  ∃ x, a = some x ∧ len ≤ cap ∧ cap ≤ maxLen ∧ zs.length = cap ∧ (∀ i, i < zs.length → w.cell? (x.add i) = some (.int k (zs.getD i 0))) ∧ ∀ n ∈ zs, (Lit.int k n).wf = true

/-- The slice value v holds the numbers xs, in a row of its own from block B on. -/
def Ints (w : World) (B : Nat) (v : Value) (xs : List Int) : Prop := w.ownsRow B 2 1 v xs.length (xs.map (Value.int .i64))

/-- All numbers are int64. -/
def Fit (xs : List Int) : Prop := ∀ x ∈ xs, -9223372036854775808 ≤ x ∧ x ≤ 9223372036854775807

theorem cell_block {w : World} {a : Addr} {v : Value} (h : w.cell? a = some v) : a.block < w.heap.size := by
  simp only [World.cell?] at h
  cases hh : w.heap[a.block]? with
  | none => simp [hh] at h
  | some o => exact (Array.getElem?_eq_some_iff.1 hh).1

theorem IsRow.fit {w : World} {a : Option Addr} {len cap : Nat} {zs : List Int} (h : IsRow .i64 w a len cap zs) : Fit (zs.take len) := by
  intro x hx
  have hx := List.mem_of_mem_take hx
  rcases h with ⟨_, _, _, rfl⟩ | ⟨_, _, _, _, _, _, hw⟩
  · simp at hx
  · exact bounds_i64 (hw x hx)

theorem IsRow.below {w w' : World} {k : IntKind} {a : Option Addr} {len cap : Nat} {zs : List Int} (h : IsRow k w a len cap zs) (hb : Below w.heap.size w w') : IsRow k w' a len cap zs := by
  rcases h with h | ⟨x, h1, h2, h3, h4, hc, h6⟩
  · exact .inl h
  · exact .inr ⟨x, h1, h2, h3, h4, fun i hi => (hb.cell (by have := cell_block (hc i hi); simpa using this)).trans (hc i hi), h6⟩

theorem IsRow.parts {w : World} {a : Option Addr} {len cap : Nat} {zs : List Int} (h : IsRow .i64 w a len cap zs) :
    len ≤ zs.length ∧ len ≤ maxLen ∧ (len = 0 ∨ ∃ b off, a = some ⟨b, off, none⟩ ∧ b < w.heap.size ∧ ∀ i, i < len → w.cell? ⟨b, off + i, none⟩ = some (.int .i64 (zs.getD i 0))) := by
  rcases h with ⟨_, rfl, _, rfl⟩ | ⟨x, rfl, hl, hm, hz, hc, _⟩
  · exact ⟨by simp, by simp [maxLen], .inl rfl⟩
  · refine ⟨by omega, by omega, ?_⟩
    by_cases h0 : len = 0
    · exact .inl h0
    · right
      obtain ⟨b, off, spot⟩ := x
      have hc0 := hc 0 (by omega)
      have hspot : spot = none := by simpa [Addr.add] using World.cell?_spot hc0
      subst hspot
      exact ⟨b, off, rfl, cell_block hc0, fun i hi => by rw [← hc i (by omega)]; by_cases h0 : i = 0 <;> simp [Addr.add, h0]⟩

theorem Ints.shape {w : World} {B : Nat} {v : Value} {xs : List Int} (h : Ints w B v xs) :
    (v = .slice none 0 0 ∧ xs = []) ∨ ∃ g cap, v = .slice (some ⟨g, 0, none⟩) xs.length cap ∧ B ≤ g ∧ g < w.heap.size ∧ xs.length ≤ cap := by
  rcases h.2 with ⟨h1, h2⟩ | ⟨g, cap, cur, h1, h2, h3, h4, _⟩
  · exact .inl ⟨h1, List.length_eq_zero_iff.1 h2⟩
  · exact .inr ⟨g, cap, h1, h2, (Array.getElem?_eq_some_iff.1 h3).1, h4⟩

theorem Ints.len {w : World} {B : Nat} {v : Value} {xs : List Int} (h : Ints w B v xs) : xs.length ≤ 9223372036854775807 := by
  rcases h.2 with ⟨h1, h2⟩ | ⟨g, cap, cur, h1, h2, h3, h4, h5, _⟩
  · omega
  · unfold maxLen at h5; omega

theorem Ints.cell {w : World} {B g n cap : Nat} {xs : List Int} (h : Ints w B (.slice (some ⟨g, 0, none⟩) n cap) xs) (j : Nat) (hj : j < xs.length) : w.cell? ⟨g, j, none⟩ = some (.int .i64 (xs.getD j 0)) := by
  have hn : n = xs.length := by
    rcases h.2 with ⟨h1, _⟩ | ⟨_, _, _, h1, _⟩
    · simp at h1
    · simp at h1; omega
  subst hn
  have := World.ownsRow.cellAt h j (by omega)
  rw [this]
  simp [hj]

theorem Ints.free {w : World} {B g n cap : Nat} {xs : List Int} (h : Ints w B (.slice (some ⟨g, 0, none⟩) n cap) xs) (j : Nat) : w.frozen? ⟨g, j, none⟩ = false := by
  have hn : n = xs.length := by
    rcases h.2 with ⟨h1, _⟩ | ⟨_, _, _, h1, _⟩
    · simp at h1
    · simp at h1; omega
  subst hn
  exact World.ownsRow.frozenAt h j

theorem Ints.block {w w' : World} {B : Nat} {v : Value} {xs : List Int} (h : Ints w B v xs) (hk : ∀ g, v.ownBlock = some g → g < w.heap.size → w'.heap[g]? = w.heap[g]?) : Ints w' B v xs := by
  refine ⟨h.1, ?_⟩
  rcases h.2 with h2 | ⟨g, cap, cur, rfl, hb, hg, rest⟩
  · exact .inl h2
  · exact .inr ⟨g, cap, cur, rfl, hb, by rw [hk g rfl (Array.getElem?_eq_some_iff.1 hg).1]; exact hg, rest⟩

theorem Ints.below {w w' : World} {B : Nat} {v : Value} {xs : List Int} (h : Ints w B v xs) (hb : Below w.heap.size w w') : Ints w' B v xs :=
  h.block fun g _ hg => hb.block g hg

theorem Ints.mono {w : World} {B B' : Nat} {v : Value} {xs : List Int} (h : Ints w B v xs) (hb : B' ≤ B) : Ints w B' v xs := by
  refine ⟨h.1, ?_⟩
  rcases h.2 with h2 | ⟨g, cap, cur, hv, hbg, rest⟩
  · exact .inl h2
  · exact .inr ⟨g, cap, cur, hv, by omega, rest⟩

theorem Ints.alloc {w : World} {B : Nat} {v : Value} {xs : List Int} (h : Ints w B v xs) (o : Obj) : Ints (w.alloc o) B v xs :=
  h.below ((Below.refl _ _).alloc (Nat.le_refl _) o)

theorem Ints.nil (w : World) (B : Nat) : Ints w B (.slice none 0 0) [] := World.ownsRow_nil _ _ _ _

theorem Try.info64 : (Try.prog.info? 2).map (fun i => (i.zero, i.size, i.bytes)) = some (some (.int .i64 0), 1, 8) := by kernel_rfl

/-- a store into the row -/
theorem Ints.set {w : World} {B g n cap : Nat} {xs : List Int} (h : Ints w B (.slice (some ⟨g, 0, none⟩) n cap) xs) (j : Nat) (x : Int) :
    Ints (w.setCell ⟨g, j, none⟩ (.int .i64 x)) B (.slice (some ⟨g, 0, none⟩) n cap) (xs.set j x) := by
  have hn : n = xs.length := by
    rcases h.2 with ⟨h1, _⟩ | ⟨_, _, _, h1, _⟩
    · simp at h1
    · simp at h1; omega
  subst hn
  have := (World.ownsRow.stored h j (.int .i64 x)).1
  unfold Ints
  rw [List.length_set, List.map_set]
  exact this

theorem Ints.stored {w wr : World} {B g n cap : Nat} {xs : List Int} (h : Ints wr B (.slice (some ⟨g, 0, none⟩) n cap) xs) (j : Nat) (x : Int) (hg : w.grownBy wr (some g)) :
    w.grownBy (wr.setCell ⟨g, j, none⟩ (.int .i64 x)) (some g) := by
  refine ⟨hg.os, hg.tape, hg.output, by simpa using hg.size, fun k hk hne => ?_⟩
  rw [Below.heap_setCell _ _ _ _ (by simpa using fun e => hne (by rw [e]))]
  exact hg.block k hk hne

/-- behind a write to what is owned from block B on, all below B stands -/
theorem Ints.below_grown {w w0 w' : World} {B : Nat} {v : Value} {xs : List Int} (h : Ints w0 B v xs) (hb : Below B w w0) (hB : B ≤ w0.heap.size) (hg : w0.grownBy w' v.ownBlock) : Below B w w' :=
  hb.trans ⟨hg.os, hg.tape, hg.output, hg.size, fun k hk => hg.block k (by omega) fun e => by
    rcases h.shape with ⟨rfl, _⟩ | ⟨g, cap, rfl, h1, _, _⟩
    · simp [Value.ownBlock] at e
    · simp [Value.ownBlock] at e; omega⟩

/-- 'append(out, y)', one number, out nil or a row of its own -/
theorem append_int (w0 : World) {ops : Array Oper} {rest : List Oper} {o : Oper} {a : Act} {Q : Exit → Act → World → Prop} (hgd : o.guard = none) (s x : Operand)
    (ho : o.op = .call { callee := .builtin .append, args := #[s, x], argTypes := #[24, 24] }) (B : Nat) (v : Value) (xs : List Int) (hs : a.eval s = v) (h : Ints w0 B v xs) (y : Int)
    (hx : a.eval x = .slice (some ⟨w0.heap.size, 0, none⟩) 1 1) (hlen : xs.length ≤ 1000000000) (hB : B ≤ w0.heap.size)
    (hK : ∀ v' w', Ints w' B v' (xs ++ [y]) → w0.grownBy w' v.ownBlock → wpList Try.prog ops Q rest (a.put o.dst v') w') :
    wpList Try.prog ops Q (o :: rest) a (w0.alloc (.cells #[.int .i64 y] 2)) := by
  obtain ⟨i0, hi, hz0, hz1, hz2⟩ := info_parts Try.info64
  refine wpList_append_own (w0.alloc (.cells #[.int .i64 y] 2)) hgd s x 24 ho B 2 i0 (.int .i64 0) 1 8 Try.underlying24 hi hz0 hz1 hz2 rfl (by decide) v xs.length _ hs (World.ownsRow.alloc h _)
    ⟨w0.heap.size, 0, none⟩ 1 1 [.int .i64 y] hx rfl ?_ ?_ (by unfold maxLen; omega) (by omega) (by simp; omega) ?_
  · intro j u hj
    match j, hj with
    | 0, hj => simp at hj; subst hj; simp [Addr.add]
  · intro u hu; simp at hu; subst hu; rfl
  · intro v' w' h1 h2 _
    refine hK v' w' ?_ ⟨h2.os, h2.tape, h2.output, by have := h2.size; simp at this; omega, fun k hk hne => ?_⟩
    · unfold Ints
      simpa using h1
    · rw [h2.block k (by simp; omega) hne]
      exact Below.heap_alloc _ _ _ hk

/-- v's array, if it has one, is a block below N -/
def Under (N : Nat) (v : Value) : Prop := ∀ g, v.ownBlock = some g → g < N
theorem Ints.under {w : World} {B : Nat} {v : Value} {xs : List Int} (h : Ints w B v xs) : Under w.heap.size v := by
  intro g hg
  rcases h.shape with ⟨rfl, _⟩ | ⟨g', cap, rfl, _, h2, _⟩
  · simp [Value.ownBlock] at hg
  · simp [Value.ownBlock] at hg; omega
theorem Ints.own_ge {w : World} {B : Nat} {v : Value} {xs : List Int} (h : Ints w B v xs) {g : Nat} (hg : v.ownBlock = some g) : B ≤ g := by
  rcases h.shape with ⟨rfl, _⟩ | ⟨g', cap, rfl, h1, _, _⟩
  · simp [Value.ownBlock] at hg
  · simp [Value.ownBlock] at hg; omega
/-- u, made after v, stays when v is written -/
theorem Ints.kept_after {w w' : World} {N C : Nat} {u v : Value} {ys : List Int} (h : Ints w C u ys) (gr : w.grownBy w' v.ownBlock) (hv : Under N v) (hN : N ≤ C) : Ints w' C u ys :=
  h.block fun g hg hlt => gr.block g hlt fun e => by have := hv g e.symm; have := h.own_ge hg; omega
/-- u, made before v, stays when v is written -/
theorem Ints.kept_before {w w' : World} {N C D : Nat} {u v : Value} {ys xs : List Int} (h : Ints w C u ys) (hu : Under N u) (gr : w.grownBy w' v.ownBlock) (hv : Ints w D v xs) (hN : N ≤ D) : Ints w' C u ys :=
  h.block fun g hg hlt => gr.block g hlt fun e => by have := hu g hg; have := hv.own_ge e.symm; omega
theorem marked_below {W w w' : World} {D : Nat} {v : Value} {xs : List Int} (hb : Below W.heap.size W w) (hv : Ints w D v xs) (hD : W.heap.size ≤ D) (gr : w.grownBy w' v.ownBlock) : Below W.heap.size W w' :=
  hb.trans ⟨gr.os, gr.tape, gr.output, gr.size, fun k hk => gr.block k (by have := hb.size; omega) fun e => by have := hv.own_ge e.symm; omega⟩

/-- an iterator's block is no row of numbers -/
theorem Ints.ne_iter {w : World} {B k pos : Nat} {v : Value} {xs : List Int} {s : ByteArray} (h : Ints w B v xs) (hk : w.heap[k]? = some (.stringIter s pos)) : some k ≠ v.ownBlock := by
  intro e
  rcases h.2 with ⟨h1, _⟩ | ⟨g, cap, cur, rfl, _, hg, _⟩
  · subst h1; simp [Value.ownBlock] at e
  · simp [Value.ownBlock] at e
    subst e
    rw [hk] at hg
    cases hg

theorem cells_lift {w w' : World} (hb : Below w.heap.size w w') {b off len : Nat} {zs : List Int} (hbk : b < w.heap.size) (hc : ∀ i, i < len → w.cell? ⟨b, off + i, none⟩ = some (.int .i64 (zs.getD i 0))) :
    ∀ i, i < len → w'.cell? ⟨b, off + i, none⟩ = some (.int .i64 (zs.getD i 0)) :=
  fun i hi => (hb.cell (p := ⟨b, off + i, none⟩) hbk).trans (hc i hi)

end Go.Proofs.Ytlpeigeadjojnaa
