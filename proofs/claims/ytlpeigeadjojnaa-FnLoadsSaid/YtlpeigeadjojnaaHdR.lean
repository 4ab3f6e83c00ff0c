/- A range over a bound iterator (a method value) that has a box of its own, the loop's variable in a box too: the contract SeqBx and its law. No conditions. -/
import Derived.Test.YtlpeigeadjojnaaOwnK
import Derived.RangeFuncNested
import Derived.RangeFuncBound
import Derived.RangeFuncCalls
import Derived.RangeFuncLeaves
import Derived.RangeFuncBox
import Derived.RangeFuncWrites
import Derived.OwnWalkIn
import Derived.TacticsInMore
import Derived.LoopNIn
import Derived.LoopIn
import Derived.Maps.AppendAt
import Derived.Shelf.Abstract
import Derived.Shelf.RegionOpen
import Derived.Stop.RegionWithIn
namespace Go.Proofs.Ytlpeigeadjojnaa
open Go.RowKit Go.Shelf
set_option linter.unusedSimpArgs false
set_option linter.unusedVariables false
attribute [local go_sem] Oper.semAt_some

/-- an iterator's contract, with arguments bound ahead (bs): a round keeps the iterator's own box, the block that comes first behind the world in which it is called -/
def SeqBx {α : Type} (F : Fence) (n : Nat) (P : Program) (g : Nat) (bs lb : Array Value) (encs : α → Array Value) (T : World → Prop) (S : List α → Prop) (N : Nat) (w : World) : Prop :=
  ∀ (l : Nat) (J : List α → World → Prop) (W : World), Below w.heap.size w W → OwnFrom W.heap.size J → (∀ pre W1, J pre W1 → T W1) →
    (∀ pre x W1, J pre W1 → pre.length < N → W.heap.size < W1.heap.size → YieldAt F (n - 1) P l (encs x) W1 fun e W' => e = .returned (.bool true) ∧ J (pre ++ [x]) W' ∧ W1.heap.size ≤ W'.heap.size ∧ W'.heap[W.heap.size]? = W1.heap[W.heap.size]?) →
    J [] W → CallsIn F n P g (bs ++ #[.func (.yield l) #[] #[]] ++ lb) W fun e W' => (∃ v, e = .returned v) ∧ ∃ xs, S xs ∧ J xs W'

def endBx {α : Type} (B : Nat) (I : List α → World → Prop) (xs : List α) (W : World) : Exit → Act → World → Prop
  | .normal, _, W' => KeepsFrom B W W' ∧ I xs W' ∧ W'.heap[B + 2]? = W.heap[B + 2]?
  | _, _, _ => False

theorem row_farX {A B : World} {row : Option Nat} {M k : Nat} {o : Obj} (hg : A.grownBy B row) (hr : ∀ r, row = some r → M ≤ r ∧ ∃ o : Obj, A.heap[r]? = some o ∧ o.isCells = false) (hk : k < M) (h : A.heap[k]? = some o) : B.heap[k]? = some o :=
  (hg.block k (Array.getElem?_eq_some_iff.1 h).1 fun e => by have := (hr k e.symm).1; omega).trans h

set_option maxHeartbeats 1000000 in
theorem range_bx {F : Fence} {n : Nat} {P : Program} {α : Type} {g : Operand} {ps : Array Tmp} {assign body : Code} {Q : Exit → Act → World → Prop} {a : Act} {w : World}
    (hro : F.round = none) (h1 : 1 ≤ n) {gf : Nat} {bs lb : Array Value} (hg : a.eval g = .func (.func gf) bs lb) (hFg : F.fn gf) (eg : ∀ args w, (callFunc gf args).run P w = .ok (.enter gf args) w)
    {encs : α → Array Value} {T : World → Prop} {S : List α → Prop} {N : Nat} (hseq : SeqBx F (n - 1) P gf bs lb encs T S N w) (hps : ∀ x, (encs x).size = ps.size)
    (I : List α → World → Prop) (hI : OwnFrom w.heap.size I) (hIT : ∀ pre W, I pre W → T W) (h0 : I [] w) (Ax : α → Act → World → Prop) (hAx : ∀ x a', OwnFrom w.heap.size (fun (_ : Unit) W => Ax x a' W))
    (hassign : ∀ (l : Nat) (pre : List α) (x : α) (W : World) (K : Act → World → Prop), I pre W → w.heap.size + 2 < W.heap.size → (∀ a' W', KeepsFrom w.heap.size W W' → I pre W' → Ax x a' W' → W.heap.size ≤ W'.heap.size → W'.heap[w.heap.size + 2]? = W.heap[w.heap.size + 2]? → K a' W') →
      assign.wpIn (F.inRound l) (n - 1 - 1) P (Exit.then K (fun _ _ _ => False)) { tmps := (ps.zip (encs x)).foldl (fun t (p, v) => t.setIfInBounds p v) a.tmps, defers := [] } W)
    (hbody : ∀ (l : Nat) (pre : List α) (x : α) (a' : Act) (W : World), w.heap.size + 2 < W.heap.size → I pre W → Ax x a' W → pre.length < N → body.wpIn (F.inRound l) (n - 1 - 1) P (endBx w.heap.size I (pre ++ [x]) W) a' W)
    (hdone : ∀ (D : Nat) (xs : List α) (W : World), w.heap.size ≤ D → S xs → I xs W → W.heap[D]? = some (.deferred (some [])) → Q .normal { a with defers := { target := .collected D, args := #[] } :: a.defers } W) :
    (Code.rangeFunc g ps assign body).wpIn F n P Q a w := by
  refine wpIn_rangeFunc fun fn hfn => ?_
  rw [hro]
  obtain ⟨R, hR⟩ : ∃ R : LoopState → Option Code → Loop, R = fun st pe => { state := st, pending := pe, fn := fn, tmps := a.tmps, params := ps, assign := assign, body := body, defers := w.heap.size } := ⟨_, rfl⟩
  have hbz : ∀ st pe st', ({ R st pe with state := st' } : Loop) = R st' pe := fun st pe st' => by rw [hR]
  have hbe : ∀ st pe st' pe', ({ R st pe with state := st', pending := pe' } : Loop) = R st' pe' := fun st pe st' pe' => by rw [hR]
  have hst : ∀ st pe, (R st pe).state = st := fun st pe => by rw [hR]
  have hpe : ∀ st pe, (R st pe).pending = pe := fun st pe => by rw [hR]
  have hpa : ∀ st pe, (R st pe).params = ps := fun st pe => by rw [hR]
  obtain ⟨L, hL⟩ : ∃ L, L = w.heap.size + 1 := ⟨_, rfl⟩
  obtain ⟨W1, hW1⟩ : ∃ W1, W1 = (w.alloc (.deferred (some []))).alloc (.loop (R .ready none)) := ⟨_, rfl⟩
  have z1 : W1.heap.size = w.heap.size + 2 := by rw [hW1]; simp
  have l1 : W1.heap[L]? = some (.loop (R .ready none)) := by
    have := World.alloc_heap_new (w.alloc (.deferred (some []))) (.loop (R .ready none))
    rw [hW1, hL]; rwa [World.size_alloc] at this
  have k1 : W1.heap[w.heap.size]? = some (.deferred (some [])) := by rw [hW1]; exact (Below.heap_alloc _ _ _ (by simp)).trans (World.alloc_heap_new w _)
  have i1 : I [] W1 := by rw [hW1]; exact hI.alloc _ (hI.alloc _ h0)
  have b1 : Below w.heap.size w W1 := by rw [hW1]; exact ((Below.refl _ w).alloc (Nat.le_refl _) _).alloc (by simp) _
  have far : ∀ {A B : World} {row : Option Nat}, (∀ r, row = some r → W1.heap.size ≤ r ∧ ∃ o : Obj, A.heap[r]? = some o ∧ o.isCells = false) → ∀ r, row = some r → w.heap.size ≤ r ∧ ∃ o : Obj, A.heap[r]? = some o ∧ o.isCells = false :=
    fun hr r e => ⟨by have := (hr r e).1; omega, (hr r e).2⟩
  have hcall := hseq L (fun pre W => I pre W ∧ W.heap[L]? = some (.loop (R .ready none)) ∧ W.heap[w.heap.size]? = some (.deferred (some []))) W1 b1
    (fun s A B row hs hg' hr => ⟨hI s A B row hs.1 hg' (far (B := B) hr), row_farX hg' hr (by omega) hs.2.1, row_farX hg' hr (by omega) hs.2.2⟩)
    (fun pre W hs => hIT pre W hs.1)
    ?round ⟨i1, l1, k1⟩
  case round =>
    rintro pre x W ⟨hi, hl, hk⟩ hlen hsz
    rw [z1] at hsz ⊢
    have hy := run_yield (P := P) (args := encs x) hl (by rw [hpa]; exact hps x)
    rw [hR] at hy
    refine ⟨fn, _, assign, body, hy, roundIn_of_wpIn hfn (hassign L pre x W _ hi hsz fun a' W' kf hi' hax hzz hbx => ?_)⟩
    clear hy
    have hl' := kf.same L _ (by omega) hl rfl
    have hk' := kf.same w.heap.size _ (Nat.le_refl _) hk rfl
    have hlt : L < W'.heap.size := (Array.getElem?_eq_some_iff.1 hl').1
    have hbg := run_beginRound (P := P) hl' (hst _ _)
    rw [hbz] at hbg
    refine ⟨_, hbg, ?_⟩
    clear hbg
    have l2 : (W'.putObj L (.loop (R .busy none))).heap[L]? = some (.loop (R .busy none)) := World.putObj_heap_same hlt
    have k2 : (W'.putObj L (.loop (R .busy none))).heap[w.heap.size]? = some (.deferred (some [])) := (World.putObj_heap_other (by omega)).trans hk'
    have s2 : (W'.putObj L (.loop (R .busy none))).heap.size = W'.heap.size := by simp [World.putObj]
    have c2 : (W'.putObj L (.loop (R .busy none))).heap[w.heap.size + 2]? = W.heap[w.heap.size + 2]? := (World.putObj_heap_other (by omega)).trans hbx
    refine wpIn_mono (hbody L pre x a' _ (by rw [s2]; omega) (hI.putObj _ hi' (by omega) hl' rfl) ((hAx x a').putObj (s := ()) _ hax (by omega) hl' rfl) hlen) ?_
    rintro e a3 X hp
    cases e with
    | normal =>
      obtain ⟨q1, q3, q4⟩ := hp
      have e1 := q1.same L _ (by omega) l2 rfl
      have e2 := q1.same w.heap.size _ (Nat.le_refl _) k2 rfl
      have e3 := run_endRound (P := P) none e1
      rw [hbe] at e3
      have sX := q1.size
      rw [s2] at sX
      refine ⟨_, _, e3, rfl, ⟨hI.putObj _ q3 (by omega) e1 rfl, World.putObj_heap_same (Array.getElem?_eq_some_iff.1 e1).1, (World.putObj_heap_other (by omega)).trans e2⟩, ?_, ?_⟩
      · simp [World.putObj]; omega
      · exact (World.putObj_heap_other (by omega)).trans (q4.trans c2)
    | ret => exact hp.elim
    | exit id => exact hp.elim
    | goto t => exact hp.elim
    | panic ch => exact hp.elim
    | outgrown => exact hp.elim
  refine ⟨L, [{ target := .collected w.heap.size, args := #[] }], W1, { target := .fn (.func gf) lb, args := bs ++ #[.func (.yield L) #[] #[]] }, W1, gf, bs ++ #[.func (.yield L) #[] #[]] ++ lb, W1, ?_, ?_, ?_, ?_, fun _ => h1, ?_⟩
  · have e := run_enterLoop_outer (P := P) (w := w) fn a.tmps ps assign body
    rw [hL, hW1, hR]; exact e
  · simp only [resolve, hg]
    simp [go_sem]
  · intro f' hf'; simp [Target.leads] at hf'; subst hf'; exact hFg
  · simp [invoke, go_sem, eg]
  · refine hcall.mono ?_
    rintro e X ⟨⟨v, rfl⟩, xs, hS, q1, q2, q3⟩
    have e := run_endLoop (P := P) q2 (by rw [hst]; simp)
    rw [hbz, hpe] at e
    exact ⟨none, _, e, hdone _ xs _ (Nat.le_refl _) hS (hI.putObj _ q1 (by omega) q2 rfl) ((World.putObj_heap_other (by omega)).trans q3)⟩
end Go.Proofs.Ytlpeigeadjojnaa
