/- A strings.Builder of the call's own beside other blocks that are read while it is written: its row lies from block R on, its own block b may lie below. WriteString; the way back to the elder word. Condition: at most 10^9 bytes. -/
import Derived.Test.YtdgmmaghmdbnjaaDoorBuilder
import Derived.Test.YtdgmmaghmdbnjaaDoorOwnK
import Derived.Test.YtdgmmaghmdbnjaaDoorText
import Derived.Lib.AppendStr
namespace Go.Proofs.YtdgmmaghmdbnjaaDoor
open Go.RowKit
set_option linter.unusedSimpArgs false
set_option linter.unusedVariables false

/-- all blocks below R but b stand -/
structure Beside (b R : Nat) (w w' : World) : Prop where
  os : w'.os = w.os
  tape : w'.tape = w.tape
  output : w'.output = w.output
  size : w.heap.size ≤ w'.heap.size
  block : ∀ k, k < R → k ≠ b → w'.heap[k]? = w.heap[k]?
theorem Beside.refl (b R : Nat) (w : World) : Beside b R w w := ⟨rfl, rfl, rfl, Nat.le_refl _, fun _ _ _ => rfl⟩
theorem Beside.trans {b R : Nat} {w w1 w2 : World} (h : Beside b R w w1) (k : Beside b R w1 w2) : Beside b R w w2 :=
  ⟨k.os.trans h.os, k.tape.trans h.tape, k.output.trans h.output, Nat.le_trans h.size k.size, fun i hi hb => (k.block i hi hb).trans (h.block i hi hb)⟩
theorem Beside.of_below {b R N : Nat} {w w' : World} (h : Below N w w') (hN : R ≤ N) : Beside b R w w' := ⟨h.os, h.tape, h.output, h.size, fun k hk _ => h.block k (by omega)⟩
theorem Beside.below {b R N : Nat} {w w' : World} (h : Beside b R w w') (hN : N ≤ R) (hb : N ≤ b) : Below N w w' := ⟨h.os, h.tape, h.output, h.size, fun k hk => h.block k (by omega) (by omega)⟩
theorem Beside.cell {b R : Nat} {w w' : World} (h : Beside b R w w') {p : Addr} (hp : p.block < R) (hb : p.block ≠ b) : w'.cell? p = w.cell? p := World.cell?_of_block (h.block _ hp hb)
theorem Beside.drew {b R : Nat} {w w' : World} (h : Beside b R w w') : Beside b R w w'.drew := ⟨h.os, h.tape, h.output, h.size, h.block⟩
theorem Beside.setCell {b R : Nat} {w w' : World} (h : Beside b R w w') (j : Nat) (u : Value) : Beside b R w (w'.setCell ⟨b, j, none⟩ u) :=
  ⟨h.os, h.tape, h.output, by simpa using h.size, fun k hk hb => (Below.heap_setCell w' ⟨b, j, none⟩ u k hb).trans (h.block k hk hb)⟩
theorem Beside.grown {b R : Nat} {w w1 w' : World} {row : Option Nat} (h : Beside b R w w1) (g : w1.grownBy w' row) (hR : R ≤ w1.heap.size) (hr : ∀ k, row = some k → R ≤ k) : Beside b R w w' :=
  ⟨g.os.trans h.os, g.tape.trans h.tape, g.output.trans h.output, Nat.le_trans h.size g.size, fun k hk hb => (g.block k (by omega) (fun e => by have := hr k e.symm; omega)).trans (h.block k hk hb)⟩

theorem row_kept {w w' : World} {B : Nat} {e : TypeId} {v : Value} {bs : List Value} (h : w.ownsRow B e 1 v bs.length bs) (hk : ∀ g, v.ownBlock = some g → g < w.heap.size → w'.heap[g]? = w.heap[g]?) : w'.ownsRow B e 1 v bs.length bs := by
  have h1 : OwnK e 1 (fun x : Value => [x]) w B v bs := by unfold OwnK; simpa using h
  have h2 := h1.block hk
  unfold OwnK at h2
  simpa using h2
theorem row_mono {w : World} {B B' : Nat} {e : TypeId} {v : Value} {bs : List Value} (h : w.ownsRow B e 1 v bs.length bs) (hB : B' ≤ B) : w.ownsRow B' e 1 v bs.length bs := by
  have h1 : OwnK e 1 (fun x : Value => [x]) w B v bs := by unfold OwnK; simpa using h
  have h2 := h1.mono hB
  unfold OwnK at h2
  simpa using h2

/-- the builder's block at b, fresh or used; its row from R on -/
def BldX (w : World) (R b : Nat) (l : List UInt8) : Prop :=
  ∃ p v, (p = .pointer none ∨ p = .pointer (some ⟨b, 0, none⟩)) ∧ w.heap[b]? = some (.cells #[p, v] 45 (0, 0)) ∧ w.ownsRow R 5 1 v (Lib.byteCells l).length (Lib.byteCells l) ∧ v.ownBlock ≠ some b
theorem BldX.fresh {w : World} {R b : Nat} (h : w.heap[b]? = some (.cells #[.pointer none, .slice none 0 0] 45)) : BldX w R b [] :=
  ⟨.pointer none, .slice none 0 0, .inl rfl, h, World.ownsRow_nil _ _ _ _, by simp [Value.ownBlock]⟩
theorem BldX.lt {w : World} {R b : Nat} {l : List UInt8} (h : BldX w R b l) : b < w.heap.size := by
  obtain ⟨_, _, _, hb, _⟩ := h
  exact (Array.getElem?_eq_some_iff.1 hb).1
theorem BldX.below {w w' : World} {R b : Nat} {l : List UInt8} (h : BldX w R b l) (hb : Below w.heap.size w w') : BldX w' R b l := by
  have hlt := h.lt
  obtain ⟨p, v, hp, hbk, hown, hne⟩ := h
  exact ⟨p, v, hp, (hb.block b hlt).trans hbk, row_kept hown fun g _ hg => hb.block g hg, hne⟩
theorem BldX.old {w : World} {R b B : Nat} {l : List UInt8} (h : BldX w R b l) (hB : B ≤ b) (hR : B ≤ R) : Bld w B b l := by
  obtain ⟨p, v, hp, hbk, hown, hne⟩ := h
  rcases hp with rfl | rfl
  · exact .inl ⟨hB, v, hbk, row_mono hown hR, hne⟩
  · exact .inr ⟨hB, v, hbk, row_mono hown hR, hne⟩

theorem copyCheck_x (R b : Nat) (l : List UInt8) (w : World) (h : BldX w R b l) :
    Calls Tryd.prog 45 #[.pointer (some ⟨b, 0, none⟩)] w fun e w' => e = .returned (.tuple #[]) ∧
      (∃ p v, w.heap[b]? = some (.cells #[p, v] 45 (0, 0)) ∧ w'.heap[b]? = some (.cells #[.pointer (some ⟨b, 0, none⟩), v] 45 (0, 0)) ∧ w'.ownsRow R 5 1 v (Lib.byteCells l).length (Lib.byteCells l) ∧ v.ownBlock ≠ some b) ∧ ∀ R', Beside b R' w w' := by
  obtain ⟨p, v, hp, hbk, hown, hne⟩ := h
  have c0 : w.cell? ⟨b, 0, none⟩ = some p := by rw [Lib.cell_of_heap hbk]; rfl
  rcases hp with rfl | rfl
  · refine (copyCheck_fresh b w c0 (by simp [World.shape?, hbk]) (Lib.frozen_of_heap hbk 0)).mono ?_
    rintro e w' ⟨rfl, rfl⟩
    refine ⟨rfl, ⟨_, v, hbk, by simp [World.setCell, Array.getElem?_modify, hbk], row_kept hown fun g hg _ => Below.heap_setCell _ _ _ _ fun e => hne (by rw [hg, e]), hne⟩, fun R' => (Beside.refl b R' w).setCell 0 _⟩
  · refine (copyCheck_used b w c0).mono ?_
    rintro e w' ⟨rfl, rfl⟩
    exact ⟨rfl, ⟨_, v, hbk, hbk, hown, hne⟩, fun R' => Beside.refl b R' _⟩

theorem strCells_bytes (m : List UInt8) : Lib.strCells (bytesOf m) = Lib.byteCells m := by simp [Lib.strCells, Lib.byteCells, bytesOf]

set_option maxRecDepth 100000 in
theorem writeString_x (R b : Nat) (l m : List UInt8) (w : World) (h : BldX w R b l) (hm : 1 ≤ m.length) (hlen : l.length + m.length ≤ 1000000000) (hR : R ≤ w.heap.size) (N : Nat) (hbN : b < N) (hN : ∀ p v, w.heap[b]? = some (.cells #[p, v] 45 (0, 0)) → ∀ g, v.ownBlock = some g → g < N) :
    Calls Tryd.prog 24 #[.pointer (some ⟨b, 0, none⟩), .string (bytesOf m)] w fun e w' => (∃ x, e = .returned x) ∧ BldX w' R b (l ++ m) ∧ Beside b R w w' ∧ ∀ k, N ≤ k → k < w.heap.size → w'.heap[k]? = w.heap[k]? := by
  obtain ⟨i0, hi, hz0, hz1, hz2⟩ := info_parts Tryd.info8
  go_enter Tryd.func24, Tryd.ntmps24
  go_wp2_with fail
  refine (copyCheck_x R b l w h).mono ?_
  rintro e w1 ⟨rfl, ⟨p0, v, hbk0, hbk, hown, hne⟩, hb1'⟩
  have hb1 := hb1' R
  have HNW := Lib.hid (hN _ _ hbk0)
  have HOB := Lib.hid (fun k (hk : k < w.heap.size) (hkb : k ≠ b) => (hb1' w.heap.size).block k hk hkb)
  clear hN hbk0 hb1'
  have c0 : w1.cell? ⟨b, 0, none⟩ = some (.pointer (some ⟨b, 0, none⟩)) := by rw [Lib.cell_of_heap hbk]; rfl
  have c1 : w1.cell? ⟨b, 1, none⟩ = some v := by rw [Lib.cell_of_heap hbk]; rfl
  have hs1 := hb1.size
  have hlt : b < w1.heap.size := (Array.getElem?_eq_some_iff.1 hbk).1
  have HL := Lib.hid (Lib.byteCells_length l)
  have HM : Hid ((bytesOf m).size = m.length) := bytesOf_size m
  clear h
  go_wp2_with (at_builtin; refine Lib.wpList_append_own_string _ rfl _ _ 22 9 rfl R 5 i0 Tryd.underlying22 Tryd.underlying9 hi hz0 hz1 hz2 _ _ _ rfl hown (bytesOf m) rfl ?c3 ?c4 ?c5 ?_)
  case c3 => have := HL.out; have := HM.out; unfold maxLen; omega
  case c4 => have := HL.out; have := HM.out; omega
  case c5 => omega
  intro v' w2 hown' hgrow _
  have hb2 : w2.heap[b]? = some (.cells #[.pointer (some ⟨b, 0, none⟩), v] 45 (0, 0)) := by
    rw [hgrow.block b hlt (fun e => hne e.symm)]
    exact hbk
  have d0 : w2.cell? ⟨b, 0, none⟩ = some (.pointer (some ⟨b, 0, none⟩)) := by rw [Lib.cell_of_heap hb2]; rfl
  have d1 : w2.cell? ⟨b, 1, none⟩ = some v := by rw [Lib.cell_of_heap hb2]; rfl
  have f1 : w2.frozen? ⟨b, 1, none⟩ = false := Lib.frozen_of_heap hb2 1
  have HB := Lib.hid (hb1.grown hgrow (by omega) (fun k hk => (hown.lt k hk).1))
  have HKN := Lib.hid (fun k (h1 : N ≤ k) (h2 : k < w.heap.size) => show w2.heap[k]? = w.heap[k]? from (hgrow.block k (by omega) (fun e => by have := HNW.out k e.symm; omega)).trans (HOB.out k h2 (by omega)))
  have HCAT : Hid (Lib.byteCells l ++ Lib.strCells (bytesOf m) = Lib.byteCells (l ++ m)) := by unfold Hid; rw [strCells_bytes]; simp [Lib.byteCells]
  have hform : ∃ g cap, v' = .slice (some ⟨g, 0, none⟩) ((Lib.byteCells l).length + (bytesOf m).size) cap := by
    rcases hown'.2 with ⟨_, h0⟩ | ⟨g, cap, cur, hv, _⟩
    · have := HM.out; omega
    · exact ⟨g, cap, hv⟩
  obtain ⟨g, cap, rfl⟩ := hform
  have HOWN := Lib.hid hown'
  have hgb : g ≠ b := by
    intro e
    subst e
    rcases hown'.2 with ⟨hx, _⟩ | ⟨g', cap', cur, hv, _, hg', _⟩
    · cases hx
    · simp only [Value.slice.injEq, Option.some.injEq, Addr.mk.injEq] at hv
      obtain ⟨⟨rfl, _, _⟩, _, _⟩ := hv
      rw [hb2] at hg'
      simp only [Option.some.injEq, Obj.cells.injEq] at hg'
      exact absurd hg'.2.1 (by decide)
  have hbig : ((bytesOf m).size : Int) = (m.length : Int) := by rw [HM.out]
  clear hgrow hown' hown hi hz0 hz1 hz2
  go_wp2
  go_ret2
  refine ⟨⟨_, rfl⟩, ?_, ?_, fun k h1 h2 => (Below.heap_setCell _ _ _ _ (by show k ≠ b; omega)).trans (HKN.out k h1 h2)⟩
  · refine ⟨.pointer (some ⟨b, 0, none⟩), .slice (some ⟨g, 0, none⟩) ((Lib.byteCells l).length + (bytesOf m).size) cap, .inr rfl, by simp [World.setCell, Array.getElem?_modify, hb2], ?_, by simp [Value.ownBlock, hgb]⟩
    rw [← HCAT.out]
    refine row_kept (w := w2) (by have := HOWN.out; rw [List.length_append, Lib.strCells_length]; exact this) fun q hq _ => Below.heap_setCell _ _ _ _ fun e => hgb (by simp [Value.ownBlock] at hq; rw [hq]; exact e)
  · exact HB.out.setCell 1 _
/-- .. told at a world behind the one where the row was last seen -/
theorem writeString_at (R b : Nat) (l m : List UInt8) (w0 w : World) (h : BldX w0 R b l) (hb : Below w0.heap.size w0 w) (hm : 1 ≤ m.length) (hlen : l.length + m.length ≤ 1000000000) (hR : R ≤ w0.heap.size) :
    Calls Tryd.prog 24 #[.pointer (some ⟨b, 0, none⟩), .string (bytesOf m)] w fun e w' => (∃ x, e = .returned x) ∧ BldX w' R b (l ++ m) ∧ Beside b R w0 w' ∧ ∀ k, w0.heap.size ≤ k → k < w.heap.size → w'.heap[k]? = w.heap[k]? := by
  have hlt := h.lt
  refine (writeString_x R b l m w (h.below hb) hm hlen (Nat.le_trans hR hb.size) w0.heap.size hlt ?_).mono fun e w' ⟨h1, h2, h3, h4⟩ => ⟨h1, h2, (Beside.of_below hb hR).trans h3, h4⟩
  intro p v hpv g hg
  obtain ⟨p', v', _, hbk, hown, _⟩ := h
  rw [hb.block b hlt, hbk] at hpv
  simp only [Option.some.injEq, Obj.cells.injEq, Array.mk.injEq, List.cons.injEq, and_true] at hpv
  obtain ⟨_, rfl⟩ := hpv
  exact (hown.lt g hg).2
end Go.Proofs.YtdgmmaghmdbnjaaDoor
