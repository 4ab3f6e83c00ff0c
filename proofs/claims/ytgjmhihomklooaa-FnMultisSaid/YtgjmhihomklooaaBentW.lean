/- Words for l04Bent: a row's head is changed where its own block or a new one holds what is meant; the first rows of a grid. No conditions. -/
import Derived.Test.YtgjmhihomklooaaDrMw
import Derived.Test.YtgjmhihomklooaaDrawC
import Derived.Maps.AppendAt
import Derived.Test.YtgjmhihomklooaaAddM
namespace Go.Proofs.Ytgjmhihomklooaa
open Go.RowKit
set_option linter.unusedSimpArgs false
set_option linter.unusedVariables false

theorem among_mem (a : Option Addr) (len cap b k B : Nat) (v : Value) (xs : List Int) (zs : List Int) (w : World) (hs : Src w b k (.slice a len cap)) (hr : IsRow .u8 w a len cap zs) (hlen : len ≤ 1000000000) (hk : k ≤ 1000000000) (hv : Ints w B v xs) (hB : b < B) (h1 : 1 ≤ xs.length) (h2 : xs.length ≤ 200) :
    Calls Try.prog 112 #[.pointer (some ⟨b, 0, none⟩), v] w fun e w' => ∃ x, e = .returned (.int .i64 x) ∧ x ∈ xs ∧ Src w' b (k + 1) (.slice a len cap) ∧ w.grownBy w' (some b) := by
  obtain ⟨g, c, rfl, hBg, hg, hc, hm⟩ := hv.shape2 h1
  have HP := pick_any a len cap b k xs.length zs w hs hr hlen hk (by omega)
  have HV := Lib.hid hv
  obtain ⟨n, hn⟩ : ∃ n, n = xs.length := ⟨_, rfl⟩
  rw [← hn] at HP h1 h2 hc ⊢
  have HN := Lib.hid hn
  clear hn hv
  go_enter Try.func112, Try.ntmps112
  go_wp2_with fail
  refine HP.mono ?_
  rintro e w1 ⟨x, rfl, hx, s1, g1⟩
  obtain ⟨j, rfl⟩ : ∃ j : Nat, x = j := ⟨x.toNat, by omega⟩
  have hj : j < n := by omega
  have hv1 := HV.out.keepb g1 hB
  have hcell := hv1.cell j (by have := HN.out; omega)
  clear HP HV hv1 hx
  have hmem : Hid (xs.getD j 0 ∈ xs) := by
    have hjx : j < xs.length := by have := HN.out; omega
    unfold Hid
    rw [List.getD_eq_getElem?_getD, List.getElem?_eq_getElem hjx]
    exact List.getElem_mem hjx
  generalize xs.getD j 0 = y at *
  go_wp2
  go_ret
  exact ⟨_, rfl, hmem.out, s1, g1⟩

theorem append_int_at (w0 : World) {ops : Array Oper} {rest : List Oper} {o : Oper} {a : Act} {Q : Exit → Act → World → Prop} (hgd : o.guard = none) (s x : Operand)
    (ho : o.op = .call { callee := .builtin .append, args := #[s, x], argTypes := #[32, 32] }) (B : Nat) (v : Value) (xs : List Int) (hs : a.eval s = v) (h : Ints w0 B v xs) (y : Int)
    (hx : a.eval x = .slice (some ⟨w0.heap.size, 0, none⟩) 1 1) (hlen : xs.length ≤ 1000000000) (hB : B ≤ w0.heap.size)
    (hK : ∀ v' w', Ints w' B v' (xs ++ [y]) → w0.grownBy w' v.ownBlock → (v'.ownBlock = v.ownBlock ∨ v'.ownBlock = some (w0.heap.size + 1)) → wpList Try.prog ops Q rest (a.put o.dst v') w') :
    wpList Try.prog ops Q (o :: rest) a (w0.alloc (.cells #[.int .i64 y] 2)) := by
  obtain ⟨i0, hi, hz0, hz1, hz2⟩ := info_parts Try.info64
  refine wpList_append_own_at (w0.alloc (.cells #[.int .i64 y] 2)) hgd s x 32 ho B 2 i0 (.int .i64 0) 1 8 Try.underlying32 hi hz0 hz1 hz2 rfl (by decide) v xs.length _ hs (World.ownsRow.alloc h _)
    ⟨w0.heap.size, 0, none⟩ 1 1 [.int .i64 y] hx rfl ?_ ?_ (by unfold maxLen; omega) (by omega) (by simp; omega) ?_
  · intro j u hj
    match j, hj with
    | 0, hj => simp at hj; subst hj; simp [Addr.add]
  · intro u hu; simp at hu; subst hu; rfl
  · intro v' w' h1 h2 _ h4
    refine hK v' w' ?_ ⟨h2.os, h2.tape, h2.output, by have := h2.size; simp at this; omega, fun k hk hne => ?_⟩ (by simpa using h4)
    · unfold Ints
      simpa using h1
    · rw [h2.block k (by simp; omega) hne]
      exact Below.heap_alloc _ _ _ hk

theorem step_append_one (w : World) {ops : Array Oper} {o : Oper} {a : Act} {K : Act → World → Prop} {Q : Exit → Act → World → Prop} {E : Prop} (hgd : o.guard = none) (s x : Operand)
    (ho : o.op = .call { callee := .builtin .append, args := #[s, x], argTypes := #[32, 32] }) (B : Nat) (v : Value) (xs : List Int) (hs : a.eval s = v) (h : Ints w B v xs) (G cx : Nat) (y : Int)
    (hx : a.eval x = .slice (some ⟨G, 0, none⟩) 1 cx) (hcell : w.cell? ⟨G, 0, none⟩ = some (.int .i64 y)) (hlen : xs.length ≤ 1000000) (hB : B ≤ w.heap.size)
    (hK : ∀ g cap l w', Ints w' B (.slice (some ⟨g, 0, none⟩) l cap) (xs ++ [y]) → w.grownBy w' v.ownBlock → (v.ownBlock = some g ∨ g = w.heap.size) → K (a.put o.dst (.slice (some ⟨g, 0, none⟩) l cap)) w') :
    if Region.wanted o (yielded ops a.tmps) = true then Oper.wp Try.prog o a w K Q else E := by
  obtain ⟨i0, hi, hz0, hz1, hz2⟩ := info_parts Try.info64
  refine step_append_lies w hgd s x 32 ho B 2 i0 (.int .i64 0) 1 8 Try.underlying32 hi hz0 hz1 hz2 rfl (by decide) v xs.length _ hs h ⟨G, 0, none⟩ 1 cx [.int .i64 y] hx (by simp) ?_ ?_ (by omega) (by unfold maxLen; omega) (by omega) hB w.heap.size rfl ?_
  · intro j u hj
    match j, hj with
    | 0, hj => simp at hj; subst hj; simpa [Addr.add] using hcell
  · intro u hu; simp at hu; subst hu; rfl
  · intro g cap w' h1 h2 h3 _
    refine hK g cap (xs.length + 1) w' ?_ h2 h3
    unfold Ints
    simpa using h1

section
variable {E : TypeId} {w w' : World} {B C : Nat} {v : Value} {pss : List (List Int)}
/-- the row's block, or a new one, now holds p; then its head is laid -/
theorem Grid.swap {g n cap C' : Nat} (hE : E ≠ 2) (h : Grid E w B C (.slice (some ⟨g, 0, none⟩) n cap) pss) (i : Nat) (hi : i < pss.length) {u u' : Value} (hc : w.cell? ⟨g, i, none⟩ = some u) {p : List Int}
    (hn : Ints w' B u' p) (gr : w.grownBy w' u.ownBlock) (ho' : u'.ownBlock = u.ownBlock ∨ ∀ g', u'.ownBlock = some g' → w.heap.size ≤ g') (hC : C ≤ w.heap.size) (hC' : w'.heap.size ≤ C') :
    Grid E (w'.setCell ⟨g, i, none⟩ u') B C' (.slice (some ⟨g, 0, none⟩) n cap) (pss.set i p) := by
  obtain ⟨hs, hl, ho, hu, hr, ha⟩ := h
  have hcu := ho.cell none i (by omega)
  rw [hc] at hcu
  obtain rfl := Option.some.inj hcu
  obtain ⟨d, rfl⟩ := hn.hd
  have hri := hr i hi
  have hz := gr.size
  have hgC : g < C := hu g (by simp [Value.ownBlock])
  have hO' : Own E hdV w' B (.slice (some ⟨g, 0, none⟩) n cap) hs := ho.block fun g' hg' hlt => gr.block g' hlt fun e => own_ne_row hE ho hri.1 hg' e.symm
  have hset : ∀ {u : Value} {q : List Int} {D : Nat}, Ints w' D u q → Ints (w'.setCell ⟨g, i, none⟩ (hdV d)) D u q := fun {u q D} hq => hq.block fun g' hg' hlt =>
    Below.heap_setCell _ _ _ _ (fun e => own_ne_row hE hO' hq (g := g') (by simp [Value.ownBlock]; exact e.symm) hg')
  have hfar : ∀ j g', j < pss.length → i ≠ j → (hdV d).ownBlock = some g' → (hdV (hs.getD j none)).ownBlock = some g' → False := fun j g' hj e h1 h2 => by
    rcases ho' with h3 | h3
    · rw [h3] at h1
      exact e (ha i j g' hi hj h1 h2)
    · have := h3 g' h1
      have := (hr j hj).2 g' h2
      omega
  refine ⟨hs.set i d, by simp [hl], hO'.set i d, fun g' hg' => by have := hu g' hg'; omega, fun j hj => ?_, fun j k g' hj hk hj1 hk1 => ?_⟩
  · have hj' : j < pss.length := by simpa using hj
    by_cases e : i = j
    · subst e
      rw [show (pss.set i p).getD i [] = p by simp [hi], show (hs.set i d).getD i none = d by simp [hl, hi]]
      exact ⟨hset hn, fun g' hg' => by have := hn.ownUnder g' hg'; omega⟩
    · rw [show (pss.set i p).getD j [] = pss.getD j [] by simp [List.getElem?_set_ne e], show (hs.set i d).getD j none = hs.getD j none by simp [List.getElem?_set_ne e]]
      obtain ⟨h1, h2⟩ := hr j hj'
      exact ⟨hset (h1.block fun g' hg' hlt => gr.block g' hlt fun e' => e (ha i j g' hi hj' e'.symm hg')), fun g' hg' => by have := h2 g' hg'; omega⟩
  · have hj' : j < pss.length := by simpa using hj
    have hk' : k < pss.length := by simpa using hk
    by_cases e : i = j
    · by_cases e' : i = k
      · omega
      · exfalso
        subst e
        rw [show (hs.set i d).getD i none = d by simp [hl, hi]] at hj1
        rw [show (hs.set i d).getD k none = hs.getD k none by simp [List.getElem?_set_ne e']] at hk1
        exact hfar k g' hk' e' hj1 hk1
    · by_cases e' : i = k
      · exfalso
        subst e'
        rw [show (hs.set i d).getD i none = d by simp [hl, hi]] at hk1
        rw [show (hs.set i d).getD j none = hs.getD j none by simp [List.getElem?_set_ne e]] at hj1
        exact hfar j g' hj' e hk1 hj1
      · rw [show (hs.set i d).getD j none = hs.getD j none by simp [List.getElem?_set_ne e]] at hj1
        rw [show (hs.set i d).getD k none = hs.getD k none by simp [List.getElem?_set_ne e']] at hk1
        exact ha j k g' hj' hk' hj1 hk1
/-- its first m rows -/
theorem Grid.cut {g n cap : Nat} (h : Grid E w B C (.slice (some ⟨g, 0, none⟩) n cap) pss) (m : Nat) (hm : m ≤ pss.length) : Grid E w B C (.slice (some ⟨g, 0, none⟩) m cap) (pss.take m) := by
  obtain ⟨hs, hl, ho, hu, hr, ha⟩ := h
  have hlen : (pss.take m).length = m := by rw [List.length_take]; omega
  have hget : ∀ j, j < m → (hs.take m).getD j none = hs.getD j none := fun j hj => by simp [List.getD_eq_getElem?_getD, List.getElem?_take, hj]
  have hget' : ∀ j, j < m → (pss.take m).getD j [] = pss.getD j [] := fun j hj => by simp [List.getD_eq_getElem?_getD, List.getElem?_take, hj]
  refine ⟨hs.take m, by rw [List.length_take, List.length_take, hl], ?_, fun g' hg' => hu g' (by simpa [Value.ownBlock] using hg'), fun j hj => ?_, fun j k g' hj hk h1 h2 => ?_⟩
  · obtain ⟨h1, h2⟩ := ho
    have hml : (hs.take m).length = m := by rw [List.length_take]; omega
    refine ⟨by simp, .inr ?_⟩
    rcases h2 with ⟨h2, _⟩ | ⟨g1, c1, cur, h2, h3, h4, h5, h6, h7, h8⟩
    · simp at h2
    · simp at h2
      obtain ⟨rfl, rfl, rfl⟩ := h2
      refine ⟨g, cap, cur, by rw [hml], h3, h4, by rw [hml]; omega, h6, h7, ?_⟩
      rw [hml, Nat.mul_one, List.map_take, ← h8, List.take_take]
      congr 1
      omega
  · rw [hlen] at hj
    rw [hget j hj, hget' j hj]
    exact hr j (by omega)
  · rw [hlen] at hj hk
    rw [hget j hj] at h1
    rw [hget k hk] at h2
    exact ha j k g' (by omega) (by omega) h1 h2
end
section
variable {w : World} {b N K K' B C : Nat} {cv v : Value} {p : List (List Int)} {W W' : World}
theorem Var1.off {w : World} {b c j : Nat} {v : Value} (h : Var1 w b v) (y : Value) (hne : b ≠ c) : Var1 (w.setCell ⟨c, j, none⟩ y) b v := h.block (Below.heap_setCell _ _ _ _ hne)
/-- a cell elsewhere is written, the rows are now others -/
theorem DrM.poke (h : DrM w b N K B C cv v p W) {q j B' C' : Nat} {u : Value} {p' : List (List Int)} (hg : Grid 32 (W.setCell ⟨q, j, none⟩ u) B' C' v p') (h1 : w.heap.size < q) (h2 : N ≠ q) (hb : b < w.heap.size) (hC : C' ≤ W.heap.size) :
    DrM w b N K B' C' cv v p' (W.setCell ⟨q, j, none⟩ u) :=
  ⟨h.src.set j (by omega) u, grown_new h.grown j (by omega) u, hg, h.var.off _ h2, h.res.off _ (by omega), by simpa using hC⟩
/-- the variable holds the first rows alone -/
theorem DrM.recut {g n cap : Nat} (h : DrM w b N K B C cv (.slice (some ⟨g, 0, none⟩) n cap) p W) (m : Nat) (hm : m ≤ p.length) (hN : w.heap.size < N) (hb : b < w.heap.size) (hC : C ≤ N) :
    DrM w b N K B C cv (.slice (some ⟨g, 0, none⟩) m cap) (p.take m) (W.setCell ⟨N, 0, none⟩ (.slice (some ⟨g, 0, none⟩) m cap)) :=
  ⟨h.src.set 0 (by omega) _, grown_new h.grown 0 (by omega) _, (h.rows.cut m hm).keep fun k hk e1 e2 => Below.heap_setCell _ _ _ _ (by show k ≠ N; omega), h.var.set _, h.res.off _ (by omega), by simpa using h.top⟩
/-- what a row holds at its first place is changed -/
theorem DrM.first {g n cap : Nat} (h : DrM w b N K B C cv (.slice (some ⟨g, 0, none⟩) n cap) p W) (i : Nat) (hi : i < p.length) (h1 : 1 ≤ (p.getD i []).length) (hB : w.heap.size < B) (hb : b < w.heap.size) (hC : C ≤ N) (hCW : C ≤ W.heap.size) :
    ∃ gr c, W.cell? ⟨g, i, none⟩ = some (.slice (some ⟨gr, 0, none⟩) (p.getD i []).length c) ∧ W.cell? ⟨gr, 0, none⟩ = some (.int .i64 ((p.getD i []).getD 0 0)) ∧ W.frozen? ⟨gr, 0, none⟩ = false ∧ gr ≠ g ∧ gr < C ∧
      ∀ x : Int, DrM w b N K B C cv (.slice (some ⟨g, 0, none⟩) n cap) (p.set i ((p.getD i []).set 0 x)) (W.setCell ⟨gr, 0, none⟩ (.int .i64 x)) := by
  obtain ⟨u, h2, h3, h4⟩ := h.rows.row i hi
  obtain ⟨gr, c, rfl, hBg, hgs, hc, hm⟩ := h3.shape2 h1
  have hgC : gr < C := h4 gr (by simp [Value.ownBlock])
  have hne : gr ≠ g := by
    intro e
    obtain ⟨hs, hl, ho, _⟩ := h.rows
    exact own_ne_row (g := g) (by decide) ho h3 (by simp [Value.ownBlock]) (by simp [Value.ownBlock]; exact e)
  refine ⟨gr, c, h2, h3.cell 0 (by omega), h3.free 0, hne, hgC, fun x => ?_⟩
  have hw := h.rows.wrote (w' := W.setCell ⟨gr, 0, none⟩ (.int .i64 x)) (by decide) i hi h2 (h3.set 0 x) (h3.stored 0 x (World.grownBy.refl W _))
  exact h.poke hw.1 (by omega) (by omega) hb hCW
/-- a row has grown, in its own block or a new one, and its head is laid -/
theorem DrM.swap {g n cap : Nat} (h : DrM w b N K B C cv (.slice (some ⟨g, 0, none⟩) n cap) p W) (i : Nat) (hi : i < p.length) {gr L cr g4 l4 c4 : Nat} {p' : List Int} (hc : W.cell? ⟨g, i, none⟩ = some (.slice (some ⟨gr, 0, none⟩) L cr))
    (hn : Ints W' B (.slice (some ⟨g4, 0, none⟩) l4 c4) p') (gr4 : W.grownBy W' (some gr)) (ho : gr = g4 ∨ g4 = W.heap.size) (hb : b < w.heap.size) (hN : w.heap.size < N) (hB : w.heap.size < B) (hC : C ≤ N) :
    DrM w b N K B W'.heap.size cv (.slice (some ⟨g, 0, none⟩) n cap) (p.set i p') (W'.setCell ⟨g, i, none⟩ (.slice (some ⟨g4, 0, none⟩) l4 c4)) ∧ W'.cell? ⟨g, i, none⟩ = some (.slice (some ⟨gr, 0, none⟩) L cr) ∧ W'.frozen? ⟨g, i, none⟩ = false ∧ W'.cell? ⟨N, 0, none⟩ = some (.slice (some ⟨g, 0, none⟩) n cap) := by
  obtain ⟨u, h2, h3, h4⟩ := h.rows.row i hi
  rw [hc] at h2
  obtain rfl := Option.some.inj h2
  have hgC : gr < C := h4 gr (by simp [Value.ownBlock])
  have hgB : B ≤ gr := h3.own_ge (by simp [Value.ownBlock])
  have hz := gr4.size
  have hg1 : g < C ∧ B ≤ g := by
    obtain ⟨hs, hl, ho1, hu, _⟩ := h.rows
    exact ⟨hu g (by simp [Value.ownBlock]), ho1.own_ge (by simp [Value.ownBlock])⟩
  have hne : gr ≠ g := by
    intro e
    obtain ⟨hs, hl, ho, _⟩ := h.rows
    exact own_ne_row (g := g) (by decide) ho h3 (by simp [Value.ownBlock]) (by simp [Value.ownBlock]; exact e)
  have htop := h.top
  have hkg : W'.heap[g]? = W.heap[g]? := gr4.block g (by omega) (by intro e; cases e; omega)
  have hsw := h.rows.swap (w' := W') (C' := W'.heap.size) (by decide) i hi hc hn (by simpa [Value.ownBlock] using gr4) (by
    rcases ho with e | e
    · exact .inl (by simp [Value.ownBlock, e])
    · exact .inr fun g' hg' => by simp [Value.ownBlock] at hg'; omega) (by omega) (Nat.le_refl _)
  have hv := h.var.block (gr4.block _ h.var.lt (by intro e; cases e; omega))
  have hr := h.res.block (gr4.block _ h.res.lt (by intro e; cases e; omega))
  have hs := h.src.keep gr4 (by intro e; cases e; omega)
  have hG : w.grownBy W' (some b) := h.grown.andThen gr4 (fun q hq => .inl (by cases hq; omega))
  refine ⟨⟨hs.set i (by omega) _, grown_new hG i (by omega) _, hsw, hv.off _ (by omega), hr.off _ (by omega), by simp⟩, ?_, ?_, hv.1⟩
  · rw [← hc]; simp [World.cell?, hkg]
  · have := h.rows.free i
    rw [← this]; simp [World.frozen?, hkg]
end
end Go.Proofs.Ytgjmhihomklooaa
