/- Words on slices of structs that a call has made itself: 'OwnK e k c w B v xs': the slice value v owns, from block B on, the cells c x (k of them) of each x of the list xs, of the element type e. No conditions. -/
import Derived.Test.YtlpeigeadjojnaaBase
import Derived.Deep.AppendLies
namespace Go.Proofs.Ytlpeigeadjojnaa
open Go.RowKit
set_option linter.unusedSimpArgs false
set_option linter.unusedVariables false

def OwnK {α : Type} (e : TypeId) (k : Nat) (c : α → List Value) (w : World) (B : Nat) (v : Value) (xs : List α) : Prop := w.ownsRow B e k v xs.length (xs.flatMap c)

section
variable {α : Type} {k : Nat} {c : α → List Value}

theorem flat_len (hk : ∀ x, (c x).length = k) : ∀ xs : List α, (xs.flatMap c).length = xs.length * k
  | [] => by simp
  | x :: xs => by
    rw [List.flatMap_cons, List.length_append, hk, flat_len hk xs, List.length_cons, Nat.add_mul]; omega
theorem flat_at (hk : ∀ x, (c x).length = k) (d : α) : ∀ (xs : List α) (j t : Nat), j < xs.length → t < k → (xs.flatMap c)[j * k + t]? = (c (xs.getD j d))[t]?
  | [], j, t, hj, _ => by simp at hj
  | x :: xs, 0, t, _, ht => by
    rw [List.flatMap_cons, Nat.zero_mul, Nat.zero_add, List.getElem?_append_left (by rw [hk]; exact ht)]
    rfl
  | x :: xs, j + 1, t, hj, ht => by
    have e : (j + 1) * k + t = k + (j * k + t) := by rw [Nat.add_mul]; omega
    rw [List.flatMap_cons, e, List.getElem?_append_right (by rw [hk]; omega), hk, Nat.add_sub_cancel_left, flat_at hk d xs j t (by simp at hj; omega) ht]
    rfl
theorem flat_set (hk : ∀ x, (c x).length = k) (d : α) : ∀ (xs : List α) (j t : Nat) (u : Value) (y : α), j < xs.length → t < k → c y = (c (xs.getD j d)).set t u → (xs.flatMap c).set (j * k + t) u = (xs.set j y).flatMap c
  | [], j, t, _, _, hj, _, _ => by simp at hj
  | x :: xs, 0, t, u, y, _, ht, hy => by
    rw [List.flatMap_cons, Nat.zero_mul, Nat.zero_add, List.set_append_left _ _ (by rw [hk]; exact ht), List.set_cons_zero, List.flatMap_cons, hy]
    rfl
  | x :: xs, j + 1, t, u, y, hj, ht, hy => by
    have e : (j + 1) * k + t = k + (j * k + t) := by rw [Nat.add_mul]; omega
    rw [List.flatMap_cons, e, List.set_append_right _ _ (by rw [hk]; omega), hk, Nat.add_sub_cancel_left, flat_set hk d xs j t u y (by simp at hj; omega) ht hy, List.set_cons_succ, List.flatMap_cons]

variable {e : TypeId} {w w' : World} {B B' : Nat} {v : Value} {xs : List α}

theorem OwnK.shape (h : OwnK e k c w B v xs) : (v = .slice none 0 0 ∧ xs = []) ∨ ∃ g cap, v = .slice (some ⟨g, 0, none⟩) xs.length cap ∧ B ≤ g ∧ g < w.heap.size ∧ xs.length ≤ cap ∧ cap ≤ 9223372036854775807 := by
  rcases h.2 with ⟨h1, h2⟩ | ⟨g, cap, cur, h1, h2, h3, h4, h5, _⟩
  · exact .inl ⟨h1, List.length_eq_zero_iff.1 h2⟩
  · exact .inr ⟨g, cap, h1, h2, (Array.getElem?_eq_some_iff.1 h3).1, h4, by unfold maxLen at h5; omega⟩
theorem OwnK.shape2 (h : OwnK e k c w B v xs) (h1 : 1 ≤ xs.length) : ∃ g cap, v = .slice (some ⟨g, 0, none⟩) xs.length cap ∧ B ≤ g ∧ g < w.heap.size ∧ xs.length ≤ cap ∧ cap ≤ 9223372036854775807 :=
  h.shape.resolve_left fun e => by rw [e.2] at h1; simp at h1
theorem OwnK.sl (h : OwnK e k c w B v xs) : ∃ a cap, v = .slice a xs.length cap := by
  rcases h.shape with ⟨rfl, rfl⟩ | ⟨g, cap, rfl, _⟩
  · exact ⟨_, _, rfl⟩
  · exact ⟨_, _, rfl⟩
theorem OwnK.len (h : OwnK e k c w B v xs) : xs.length ≤ 9223372036854775807 := by
  rcases h.shape with ⟨_, h2⟩ | ⟨g, cap, _, _, _, h4, h5⟩
  · rw [h2]; simp
  · omega
theorem OwnK.num {a : Option Addr} {n cap : Nat} (h : OwnK e k c w B (.slice a n cap) xs) : n = xs.length := by
  rcases h.shape with ⟨h1, h2⟩ | ⟨_, _, h1, _⟩
  · simp at h1; simp [h2, h1]
  · simp at h1; omega
theorem OwnK.cell {g n cap : Nat} (h : OwnK e k c w B (.slice (some ⟨g, 0, none⟩) n cap) xs) (hk : ∀ x, (c x).length = k) (d : α) (j t : Nat) (hj : j < xs.length) (ht : t < k) : w.cell? ⟨g, j * k + t, none⟩ = (c (xs.getD j d))[t]? := by
  have hn := h.num
  subst hn
  rw [World.ownsRow.cellAt h (j * k + t) (by have := Nat.mul_le_mul_right k (show j + 1 ≤ xs.length from hj); rw [Nat.add_mul] at this; omega)]
  exact flat_at hk d xs j t hj ht
theorem OwnK.free {g n cap : Nat} (h : OwnK e k c w B (.slice (some ⟨g, 0, none⟩) n cap) xs) (j : Nat) : w.frozen? ⟨g, j, none⟩ = false := by
  have hn := h.num
  subst hn
  exact World.ownsRow.frozenAt h j
theorem OwnK.block (h : OwnK e k c w B v xs) (hk : ∀ g, v.ownBlock = some g → g < w.heap.size → w'.heap[g]? = w.heap[g]?) : OwnK e k c w' B v xs := by
  refine ⟨h.1, ?_⟩
  rcases h.2 with h2 | ⟨g, cap, cur, rfl, hb, hg, rest⟩
  · exact .inl h2
  · exact .inr ⟨g, cap, cur, rfl, hb, by rw [hk g rfl (Array.getElem?_eq_some_iff.1 hg).1]; exact hg, rest⟩
theorem OwnK.below (h : OwnK e k c w B v xs) (hb : Below w.heap.size w w') : OwnK e k c w' B v xs := h.block fun g _ hg => hb.block g hg
theorem OwnK.mono (h : OwnK e k c w B v xs) (hb : B' ≤ B) : OwnK e k c w B' v xs := by
  refine ⟨h.1, ?_⟩
  rcases h.2 with h2 | ⟨g, cap, cur, hv, hbg, rest⟩
  · exact .inl h2
  · exact .inr ⟨g, cap, cur, hv, by omega, rest⟩
theorem OwnK.alloc (h : OwnK e k c w B v xs) (o : Obj) : OwnK e k c (w.alloc o) B v xs := h.below ((Below.refl _ _).alloc (Nat.le_refl _) o)
theorem OwnK.nil (e : TypeId) (k : Nat) (c : α → List Value) (w : World) (B : Nat) : OwnK e k c w B (.slice none 0 0) [] := World.ownsRow_nil _ _ _ _
theorem OwnK.empty (e : TypeId) (k : Nat) (c : α → List Value) (w : World) (hB : B ≤ w.heap.size) : OwnK e k c (w.alloc (.cells #[] e)) B (.slice (some ⟨w.heap.size, 0, none⟩) 0 0) ([] : List α) := World.ownsRow_lit w #[] 0 hB (by simp [maxLen]) (by simp)
/-- a store into one cell of an element -/
theorem OwnK.put {g n cap : Nat} (h : OwnK e k c w B (.slice (some ⟨g, 0, none⟩) n cap) xs) (hk : ∀ x, (c x).length = k) (d : α) (j t : Nat) (u : Value) (y : α) (hj : j < xs.length) (ht : t < k) (hy : c y = (c (xs.getD j d)).set t u) :
    OwnK e k c (w.setCell ⟨g, j * k + t, none⟩ u) B (.slice (some ⟨g, 0, none⟩) n cap) (xs.set j y) := by
  have hn := h.num
  subst hn
  have := (World.ownsRow.stored h (j * k + t) u).1
  unfold OwnK
  rw [List.length_set, ← flat_set hk d xs j t u y hj ht hy]
  exact this
theorem OwnK.under (h : OwnK e k c w B v xs) : Under w.heap.size v := by
  intro g hg
  rcases h.shape with ⟨rfl, _⟩ | ⟨g', cap, rfl, _, h2, _⟩
  · simp [Value.ownBlock] at hg
  · simp [Value.ownBlock] at hg; omega
theorem OwnK.own_ge (h : OwnK e k c w B v xs) {g : Nat} (hg : v.ownBlock = some g) : B ≤ g := by
  rcases h.shape with ⟨rfl, _⟩ | ⟨g', cap, rfl, h1, _, _⟩
  · simp [Value.ownBlock] at hg
  · simp [Value.ownBlock] at hg; omega
theorem OwnK.below_grown {w0 : World} (h : OwnK e k c w0 B v xs) (hb : Below B w w0) (hB : B ≤ w0.heap.size) (hg : w0.grownBy w' v.ownBlock) : Below B w w' :=
  hb.trans ⟨hg.os, hg.tape, hg.output, hg.size, fun q hq => hg.block q (by omega) fun e => by have := h.own_ge e.symm; omega⟩
/-- u, made after v, stays when v is written -/
theorem OwnK.kept_after {N C : Nat} {u v : Value} {ys : List α} (h : OwnK e k c w C u ys) (gr : w.grownBy w' v.ownBlock) (hv : Under N v) (hN : N ≤ C) : OwnK e k c w' C u ys :=
  h.block fun g hg hlt => gr.block g hlt fun e => by have := hv g e.symm; have := h.own_ge hg; omega
/-- u, made before v, stays when v is written -/
theorem OwnK.kept_before {N C D : Nat} {u v : Value} {ys xs : List α} (h : OwnK e k c w C u ys) (hu : Under N u) (gr : w.grownBy w' v.ownBlock) (hv : OwnK e k c w D v xs) (hN : N ≤ D) : OwnK e k c w' C u ys :=
  h.block fun g hg hlt => gr.block g hlt fun e => by have := hu g hg; have := hv.own_ge e.symm; omega
theorem OwnK.marked {W : World} {D : Nat} (hb : Below W.heap.size W w) (hv : OwnK e k c w D v xs) (hD : W.heap.size ≤ D) (gr : w.grownBy w' v.ownBlock) : Below W.heap.size W w' :=
  hb.trans ⟨gr.os, gr.tape, gr.output, gr.size, fun q hq => gr.block q (by have := hb.size; omega) fun e => by have := hv.own_ge e.symm; omega⟩

/-- the cells of a row that has just been made -/
theorem made_flat (hk : ∀ x, (c x).length = k) (z : α) (n : Nat) (h0 : 0 < k) : (madeCells (c z).toArray (n * k)).toList = (List.replicate n z).flatMap c := by
  apply List.ext_getElem?
  intro i
  have hz : (List.replicate n z).length = n := List.length_replicate
  by_cases hi : i < n * k
  · have hj : i / k < n := (Nat.div_lt_iff_lt_mul h0).2 hi
    have ht : i % k < k := Nat.mod_lt _ h0
    have e : i = i / k * k + i % k := by rw [Nat.mul_comm]; exact (Nat.div_add_mod i k).symm
    have h2 := flat_at hk z (List.replicate n z) (i / k) (i % k) (by omega) ht
    rw [← e] at h2
    rw [h2]
    have h3 : i % (c z).length < (c z).length := by rw [hk]; exact ht
    simp [madeCells, hi, hj, hk, ht, List.getElem?_eq_getElem, List.getElem!_eq_getElem?_getD]
  · rw [List.getElem?_eq_none (by simp [madeCells]; omega), List.getElem?_eq_none (by rw [flat_len hk, hz]; omega)]
end

theorem marked_any {W w w' : World} {D : Nat} {v : Value} (hb : Below W.heap.size W w) (hv : ∀ g, v.ownBlock = some g → D ≤ g) (hD : W.heap.size ≤ D) (gr : w.grownBy w' v.ownBlock) : Below W.heap.size W w' :=
  hb.trans ⟨gr.os, gr.tape, gr.output, gr.size, fun q hq => gr.block q (by have := hb.size; omega) fun e => by have := hv _ e.symm; omega⟩
/-- what was made before v stays when v is written -/
theorem OwnK.keptB {α : Type} {e : TypeId} {k : Nat} {c : α → List Value} {w w' : World} {N C D : Nat} {u v : Value} {ys : List α} (h : OwnK e k c w C u ys) (hu : Under N u) (gr : w.grownBy w' v.ownBlock) (hv : ∀ g, v.ownBlock = some g → D ≤ g) (hN : N ≤ D) : OwnK e k c w' C u ys :=
  h.block fun g hg hlt => gr.block g hlt fun e => by have := hu g hg; have := hv _ e.symm; omega
theorem Ints.keptB {w w' : World} {N C D : Nat} {u v : Value} {ys : List Int} (h : Ints w C u ys) (hu : Under N u) (gr : w.grownBy w' v.ownBlock) (hv : ∀ g, v.ownBlock = some g → D ≤ g) (hN : N ≤ D) : Ints w' C u ys :=
  h.block fun g hg hlt => gr.block g hlt fun e => by have := hu g hg; have := hv _ e.symm; omega

/-- WHAT A WALK IS TOLD OF A SLICE OF STRUCTS THAT CAME IN: k cells an element, each element good. -/
def IsK {α : Type} (k : Nat) (c : α → List Value) (good : α → Prop) (w : World) (a : Option Addr) (len cap : Nat) (zs : List α) : Prop :=
  (a = none ∧ len = 0 ∧ cap = 0 ∧ zs = []) ∨
  ∃ x, a = some x ∧ len ≤ cap ∧ cap ≤ maxLen ∧ zs.length = len ∧ (∀ s ∈ zs, good s) ∧ ∀ (i : Nat) (hi : i < zs.length) (t : Nat), t < k → w.cell? (x.add (i * k + t)) = (c zs[i])[t]?
section
variable {α : Type} {k : Nat} {c : α → List Value} {good : α → Prop} {w w' : World} {a : Option Addr} {len cap : Nat} {zs : List α}
theorem IsK.num (h : IsK k c good w a len cap zs) : zs.length = len := by
  rcases h with ⟨_, rfl, _, rfl⟩ | ⟨_, _, _, _, h, _⟩
  · rfl
  · exact h
theorem IsK.fine (h : IsK k c good w a len cap zs) : ∀ s ∈ zs, good s := by
  rcases h with ⟨_, _, _, rfl⟩ | ⟨_, _, _, _, _, h, _⟩
  · intro s hs; cases hs
  · exact h
theorem IsK.max (h : IsK k c good w a len cap zs) : len ≤ 9223372036854775807 := by
  rcases h with ⟨_, rfl, _, rfl⟩ | ⟨_, _, h1, h2, _⟩
  · simp
  · unfold maxLen at h2; omega
theorem IsK.below (h : IsK k c good w a len cap zs) (hk : ∀ x, (c x).length = k) (hb : Below w.heap.size w w') : IsK k c good w' a len cap zs := by
  rcases h with h | ⟨x, h1, h2, h3, h4, h5, hc⟩
  · exact .inl h
  · refine .inr ⟨x, h1, h2, h3, h4, h5, fun i hi t ht => ?_⟩
    have := hc i hi t ht
    obtain ⟨u, hu⟩ : ∃ u, (c (zs[i]'hi))[t]? = some u := by
      have h9 : t < (c (zs[i]'hi)).length := by rw [hk]; exact ht
      exact ⟨_, List.getElem?_eq_getElem h9⟩
    rw [hu] at this ⊢
    exact (hb.cell (by have := cell_block this; simpa using this)).trans this
theorem IsK.parts (h : IsK k c good w a len cap zs) (hk : ∀ x, (c x).length = k) (h0 : 0 < k) (d : α) :
    len = 0 ∨ ∃ b off, a = some ⟨b, off, none⟩ ∧ b < w.heap.size ∧ ∀ i t, i < len → t < k → w.cell? ⟨b, off + (i * k + t), none⟩ = (c (zs.getD i d))[t]? := by
  rcases h with ⟨_, rfl, _, rfl⟩ | ⟨x, rfl, hl, hm, hz, _, hc⟩
  · exact .inl rfl
  · by_cases hn : len = 0
    · exact .inl hn
    · right
      obtain ⟨b, off, spot⟩ := x
      have hc0 := hc 0 (by omega) 0 h0
      have hz0 : 0 < zs.length := by omega
      obtain ⟨u, hu⟩ : ∃ u, (c (zs[0]'hz0))[0]? = some u := by
        have h9 : 0 < (c (zs[0]'hz0)).length := by rw [hk]; exact h0
        exact ⟨_, List.getElem?_eq_getElem h9⟩
      rw [hu] at hc0
      have hspot : spot = none := by simpa [Addr.add] using World.cell?_spot hc0
      subst hspot
      refine ⟨b, off, rfl, by have := cell_block hc0; simpa [Addr.add] using this, fun i t hi ht => ?_⟩
      have h1 := hc i (by omega) t ht
      have e : zs.getD i d = zs[i]'(by omega) := by simp [show i < zs.length by omega]
      rw [e, ← h1, Addr.add_lit]
end

/-- block b holds the cells cs, none frozen -/
def Blk (w : World) (b : Nat) (cs : List Value) (T : TypeId) : Prop := w.heap[b]? = some (.cells cs.toArray T)
section
variable {w w' : World} {b : Nat} {cs : List Value} {T : TypeId}
theorem Blk.lt (h : Blk w b cs T) : b < w.heap.size := (Array.getElem?_eq_some_iff.1 h).1
theorem Blk.cell (h : Blk w b cs T) (j : Nat) : w.cell? ⟨b, j, none⟩ = cs[j]? := by
  unfold Blk at h; simp [World.cell?, h]
theorem Blk.free (h : Blk w b cs T) (j : Nat) : w.frozen? ⟨b, j, none⟩ = false := by
  unfold Blk at h; simp [World.frozen?, h]
theorem Blk.below {N : Nat} (h : Blk w b cs T) (hb : Below N w w') (hN : b < N) : Blk w' b cs T := (hb.block b hN).trans h
theorem Blk.block (h : Blk w b cs T) (e : w'.heap[b]? = w.heap[b]?) : Blk w' b cs T := e.trans h
theorem Blk.made (w : World) (cs : Array Value) (T : TypeId) : Blk (w.alloc (.cells cs T)) w.heap.size cs.toList T := by
  unfold Blk; rw [heap_alloc_new]
theorem Blk.alloc (h : Blk w b cs T) (o : Obj) : Blk (w.alloc o) b cs T := (Below.heap_alloc w o b h.lt).trans h
theorem Blk.set (h : Blk w b cs T) (j : Nat) (u : Value) : Blk (w.setCell ⟨b, j, none⟩ u) b (cs.set j u) T := by
  unfold Blk at h ⊢
  simp [World.setCell, Array.getElem?_modify, h]
theorem Blk.other (h : Blk w b cs T) {p : Addr} (hp : b ≠ p.block) (u : Value) : Blk (w.setCell p u) b cs T := (Below.heap_setCell w p u b hp).trans h
end
end Go.Proofs.Ytlpeigeadjojnaa
