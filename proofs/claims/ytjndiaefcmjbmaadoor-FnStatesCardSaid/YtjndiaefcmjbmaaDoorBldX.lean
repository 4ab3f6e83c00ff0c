/- A strings.Builder of the call's own beside other blocks that are read while it is written: its row lies from block R on, its own block b may lie below. WriteString; the way back to the elder word. Condition: at most 10^9 bytes. -/
import Derived.Test.YtjndiaefcmjbmaaDoorBuilder
import Derived.Test.YtjndiaefcmjbmaaDoorOwnK
import Derived.Test.YtjndiaefcmjbmaaDoorText
import Derived.Lib.AppendStr
namespace Go.Proofs.YtjndiaefcmjbmaaDoor
open Go.RowKit
set_option linter.unusedSimpArgs false
set_option linter.unusedVariables false

/-- all blocks below R but b stand -/
structure Beside (b R : Nat) (w w' : World) : Prop where
  os : w'.os = w.os
  tape : w'.tape = w.tape
  output : w'.output = w.output
  size : w.heap.size ≤ w'.heap.size
  block : ∀ k, k < R → k ≠ b → w'.heap[k]? = w.heap[k]?
theorem Beside.refl (b R : Nat) (w : World) : Beside b R w w := ⟨rfl, rfl, rfl, Nat.le_refl _, fun _ _ _ => rfl⟩
theorem Beside.trans {b R : Nat} {w w1 w2 : World} (h : Beside b R w w1) (k : Beside b R w1 w2) : Beside b R w w2 :=
  ⟨k.os.trans h.os, k.tape.trans h.tape, k.output.trans h.output, Nat.le_trans h.size k.size, fun i hi hb => (k.block i hi hb).trans (h.block i hi hb)⟩
theorem Beside.of_below {b R N : Nat} {w w' : World} (h : Below N w w') (hN : R ≤ N) : Beside b R w w' := ⟨h.os, h.tape, h.output, h.size, fun k hk _ => h.block k (by omega)⟩
theorem Beside.below {b R N : Nat} {w w' : World} (h : Beside b R w w') (hN : N ≤ R) (hb : N ≤ b) : Below N w w' := ⟨h.os, h.tape, h.output, h.size, fun k hk => h.block k (by omega) (by omega)⟩
theorem Beside.cell {b R : Nat} {w w' : World} (h : Beside b R w w') {p : Addr} (hp : p.block < R) (hb : p.block ≠ b) : w'.cell? p = w.cell? p := World.cell?_of_block (h.block _ hp hb)
theorem Beside.drew {b R : Nat} {w w' : World} (h : Beside b R w w') : Beside b R w w'.drew := ⟨h.os, h.tape, h.output, h.size, h.block⟩
theorem Beside.setCell {b R : Nat} {w w' : World} (h : Beside b R w w') (j : Nat) (u : Value) : Beside b R w (w'.setCell ⟨b, j, none⟩ u) :=
  ⟨h.os, h.tape, h.output, by simpa using h.size, fun k hk hb => (Below.heap_setCell w' ⟨b, j, none⟩ u k hb).trans (h.block k hk hb)⟩
theorem Beside.grown {b R : Nat} {w w1 w' : World} {row : Option Nat} (h : Beside b R w w1) (g : w1.grownBy w' row) (hR : R ≤ w1.heap.size) (hr : ∀ k, row = some k → R ≤ k) : Beside b R w w' :=
  ⟨g.os.trans h.os, g.tape.trans h.tape, g.output.trans h.output, Nat.le_trans h.size g.size, fun k hk hb => (g.block k (by omega) (fun e => by have := hr k e.symm; omega)).trans (h.block k hk hb)⟩

theorem row_kept {w w' : World} {B : Nat} {e : TypeId} {v : Value} {bs : List Value} (h : w.ownsRow B e 1 v bs.length bs) (hk : ∀ g, v.ownBlock = some g → g < w.heap.size → w'.heap[g]? = w.heap[g]?) : w'.ownsRow B e 1 v bs.length bs := by
  have h1 : OwnK e 1 (fun x : Value => [x]) w B v bs := by unfold OwnK; simpa using h
  have h2 := h1.block hk
  unfold OwnK at h2
  simpa using h2
theorem row_mono {w : World} {B B' : Nat} {e : TypeId} {v : Value} {bs : List Value} (h : w.ownsRow B e 1 v bs.length bs) (hB : B' ≤ B) : w.ownsRow B' e 1 v bs.length bs := by
  have h1 : OwnK e 1 (fun x : Value => [x]) w B v bs := by unfold OwnK; simpa using h
  have h2 := h1.mono hB
  unfold OwnK at h2
  simpa using h2

/-- the builder's block at b, fresh or used; its row from R on -/
def BldX (w : World) (R b : Nat) (l : List UInt8) : Prop :=
  ∃ p v, (p = .pointer none ∨ p = .pointer (some ⟨b, 0, none⟩)) ∧ w.heap[b]? = some (.cells #[p, v] 116 (0, 0)) ∧ w.ownsRow R 5 1 v (Lib.byteCells l).length (Lib.byteCells l) ∧ v.ownBlock ≠ some b
theorem BldX.fresh {w : World} {R b : Nat} (h : w.heap[b]? = some (.cells #[.pointer none, .slice none 0 0] 116)) : BldX w R b [] :=
  ⟨.pointer none, .slice none 0 0, .inl rfl, h, World.ownsRow_nil _ _ _ _, by simp [Value.ownBlock]⟩
theorem BldX.lt {w : World} {R b : Nat} {l : List UInt8} (h : BldX w R b l) : b < w.heap.size := by
  obtain ⟨_, _, _, hb, _⟩ := h
  exact (Array.getElem?_eq_some_iff.1 hb).1
theorem BldX.below {w w' : World} {R b : Nat} {l : List UInt8} (h : BldX w R b l) (hb : Below w.heap.size w w') : BldX w' R b l := by
  have hlt := h.lt
  obtain ⟨p, v, hp, hbk, hown, hne⟩ := h
  exact ⟨p, v, hp, (hb.block b hlt).trans hbk, row_kept hown fun g _ hg => hb.block g hg, hne⟩
theorem BldX.old {w : World} {R b B : Nat} {l : List UInt8} (h : BldX w R b l) (hB : B ≤ b) (hR : B ≤ R) : Bld w B b l := by
  obtain ⟨p, v, hp, hbk, hown, hne⟩ := h
  rcases hp with rfl | rfl
  · exact .inl ⟨hB, v, hbk, row_mono hown hR, hne⟩
  · exact .inr ⟨hB, v, hbk, row_mono hown hR, hne⟩

theorem copyCheck_x (R b : Nat) (l : List UInt8) (w : World) (h : BldX w R b l) :
    Calls Tryd.prog 118 #[.pointer (some ⟨b, 0, none⟩)] w fun e w' => e = .returned (.tuple #[]) ∧
      (∃ p v, w.heap[b]? = some (.cells #[p, v] 116 (0, 0)) ∧ w'.heap[b]? = some (.cells #[.pointer (some ⟨b, 0, none⟩), v] 116 (0, 0)) ∧ w'.ownsRow R 5 1 v (Lib.byteCells l).length (Lib.byteCells l) ∧ v.ownBlock ≠ some b) ∧ ∀ R', Beside b R' w w' := by
  obtain ⟨p, v, hp, hbk, hown, hne⟩ := h
  have c0 : w.cell? ⟨b, 0, none⟩ = some p := by rw [Lib.cell_of_heap hbk]; rfl
  rcases hp with rfl | rfl
  · refine (copyCheck_fresh b w c0 (by simp [World.shape?, hbk]) (Lib.frozen_of_heap hbk 0)).mono ?_
    rintro e w' ⟨rfl, rfl⟩
    refine ⟨rfl, ⟨_, v, hbk, by simp [World.setCell, Array.getElem?_modify, hbk], row_kept hown fun g hg _ => Below.heap_setCell _ _ _ _ fun e => hne (by rw [hg, e]), hne⟩, fun R' => (Beside.refl b R' w).setCell 0 _⟩
  · refine (copyCheck_used b w c0).mono ?_
    rintro e w' ⟨rfl, rfl⟩
    exact ⟨rfl, ⟨_, v, hbk, hbk, hown, hne⟩, fun R' => Beside.refl b R' _⟩

theorem strCells_bytes (m : List UInt8) : Lib.strCells (bytesOf m) = Lib.byteCells m := by simp [Lib.strCells, Lib.byteCells, bytesOf]

end Go.Proofs.YtjndiaefcmjbmaaDoor
