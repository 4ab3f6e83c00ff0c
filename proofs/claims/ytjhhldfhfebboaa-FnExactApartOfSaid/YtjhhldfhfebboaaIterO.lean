/- A law for a range over an iterator whose own body ranges over another iterator: what the caller holds must abide the turn of any block that is no cells and was made since the loop began. -/
import Derived.Test.YtjhhldfhfebboaaIterL
namespace Go.Proofs.Ytjhhldfhfebboaa
open Go.RowKit Go.Shelf
set_option linter.unusedSimpArgs false
set_option linter.unusedVariables false

/-- what lay from B on lies as it lay -/
structure KeepsAll (B : Nat) (W W' : World) : Prop where
  size : W.heap.size ≤ W'.heap.size
  same : ∀ (k : Nat) (o : Obj), B ≤ k → W.heap[k]? = some o → W'.heap[k]? = some o
theorem KeepsAll.from {B : Nat} {W W' : World} (h : KeepsAll B W W') : KeepsFrom B W W' := ⟨h.size, fun k o hk h0 _ => h.same k o hk h0⟩
theorem KeepsAll.trans {B : Nat} {X Y Z : World} (h : KeepsAll B X Y) (k : KeepsAll B Y Z) : KeepsAll B X Z := ⟨Nat.le_trans h.size k.size, fun i o hB hi => k.same i o hB (h.same i o hB hi)⟩
theorem KeepsAll.mono {B C : Nat} {X Y : World} (h : KeepsAll B X Y) (hBC : B ≤ C) : KeepsAll C X Y := ⟨h.size, fun i o hC hi => h.same i o (by omega) hi⟩
theorem keepsAll_below {W W' : World} (B : Nat) (h : Below W.heap.size W W') : KeepsAll B W W' := ⟨h.size, fun k o _ h0 => (h.block k (Array.getElem?_eq_some_iff.1 h0).1).trans h0⟩

/-- an iterator's contract, for all J that abide the turn of a block from the world's end on that is no cells -/
def SeqOwn {α : Type} (F : Fence) (n : Nat) (P : Program) (g : Nat) (lb : Array Value) (encs : α → Array Value) (Kp : World → World → Prop) (S Sp : List α → Prop) (N : Nat) (w : World) : Prop :=
  ∀ (l : Nat) (J Jx : List α → World → Prop) (W : World), Below w.heap.size w W → OwnFrom W.heap.size J → OwnFrom W.heap.size Jx →
    (∀ pre x W1, J pre W1 → pre.length < N → YieldAt F (n - 1) P l (encs x) W1 fun e W' => (e = .returned (.bool true) ∧ J (pre ++ [x]) W' ∧ Kp W1 W' ∧ KeepsAll W.heap.size W1 W') ∨ (e = .returned (.bool false) ∧ Jx (pre ++ [x]) W' ∧ KeepsAll W.heap.size W1 W')) →
    J [] W → CallsIn F n P g (#[.func (.yield l) #[] #[]] ++ lb) W fun e W' => (∃ v, e = .returned v) ∧ ((∃ xs, S xs ∧ J xs W') ∨ ∃ pre, Sp pre ∧ Jx pre W')

/-- what a body's walk ends in -/
def bodyEnd {α : Type} (B : Nat) (Kp : World → World → Prop) (I : List α → World → Prop) (Ix : Code → List α → World → Prop) (xs : List α) (W : World) : Exit → Act → World → Prop
  | .normal, _, W' => KeepsAll B W W' ∧ Kp W W' ∧ I xs W'
  | .ret, _, W' => KeepsAll B W W' ∧ Ix .ret xs W'
  | .exit id, _, W' => KeepsAll B W W' ∧ Ix (.exit id) xs W'
  | .goto t, _, W' => KeepsAll B W W' ∧ Ix (.goto t) xs W'
  | .panic _, _, _ => False
  | .outgrown, _, _ => False

theorem row_far {A B : World} {row : Option Nat} {M k : Nat} {o : Obj} (hg : A.grownBy B row) (hr : ∀ r, row = some r → M ≤ r ∧ ∃ o : Obj, A.heap[r]? = some o ∧ o.isCells = false) (hk : k < M) (h : A.heap[k]? = some o) : B.heap[k]? = some o :=
  (hg.block k (Array.getElem?_eq_some_iff.1 h).1 fun e => by have := (hr k e.symm).1; omega).trans h

set_option maxHeartbeats 1000000 in
theorem range_own {F : Fence} {n : Nat} {P : Program} {α : Type} {g : Operand} {ps : Array Tmp} {assign body : Code} {Q : Exit → Act → World → Prop} {a : Act} {w : World}
    (hro : F.round = none) (h1 : 1 ≤ n) {gf : Nat} {lb : Array Value} (hg : a.eval g = .func (.func gf) #[] lb) (hFg : F.fn gf) (eg : ∀ args w, (callFunc gf args).run P w = .ok (.enter gf args) w)
    {encs : α → Array Value} {Kp : World → World → Prop} {S Sp : List α → Prop} {N : Nat} (hseq : SeqOwn F (n - 1) P gf lb encs Kp S Sp N w) (hKt : ∀ {A B C : World}, Kp A B → Kp B C → Kp A C) (hKb : ∀ (W : World) (l : Nat) (o o' : Obj), w.heap.size ≤ l → W.heap[l]? = some o → o.isCells = false → Kp W (W.putObj l o')) (hps : ∀ x, (encs x).size = ps.size)
    (I : List α → World → Prop) (Ix : Code → List α → World → Prop) (hI : OwnFrom w.heap.size I) (hIx : ∀ c, OwnFrom w.heap.size (Ix c)) (h0 : I [] w) (a₁ : α → Act)
    (hassign : ∀ (l : Nat) (x : α) (W : World) (K : Act → World → Prop), K (a₁ x) W → assign.wpIn (F.inRound l) (n - 1 - 1) P (Exit.then K (fun _ _ _ => False)) { tmps := (ps.zip (encs x)).foldl (fun t (p, v) => t.setIfInBounds p v) a.tmps, defers := [] } W)
    (hbody : ∀ (l : Nat) (pre : List α) (x : α) (W : World), I pre W → pre.length < N → body.wpIn (F.inRound l) (n - 1 - 1) P (bodyEnd w.heap.size Kp I Ix (pre ++ [x]) W) (a₁ x) W)
    (hdone : ∀ (D : Nat) (xs : List α) (W : World), w.heap.size ≤ D → S xs → I xs W → W.heap[D]? = some (.deferred (some [])) → Q .normal { a with defers := { target := .collected D, args := #[] } :: a.defers } W)
    (hstop : ∀ (D : Nat) (c : Code) (pre : List α) (W : World), w.heap.size ≤ D → Sp pre → Ix c pre W → W.heap[D]? = some (.deferred (some [])) → c.wpIn F n P Q { a with defers := { target := .collected D, args := #[] } :: a.defers } W) :
    (Code.rangeFunc g ps assign body).wpIn F n P Q a w := by
  refine wpIn_rangeFunc fun fn hfn => ?_
  rw [hro]
  obtain ⟨R, hR⟩ : ∃ R : LoopState → Option Code → Loop, R = fun st pe => { state := st, pending := pe, fn := fn, tmps := a.tmps, params := ps, assign := assign, body := body, defers := w.heap.size } := ⟨_, rfl⟩
  have hbz : ∀ st pe st', ({ R st pe with state := st' } : Loop) = R st' pe := fun st pe st' => by rw [hR]
  have hbe : ∀ st pe st' pe', ({ R st pe with state := st', pending := pe' } : Loop) = R st' pe' := fun st pe st' pe' => by rw [hR]
  have hst : ∀ st pe, (R st pe).state = st := fun st pe => by rw [hR]
  have hpe : ∀ st pe, (R st pe).pending = pe := fun st pe => by rw [hR]
  have hpa : ∀ st pe, (R st pe).params = ps := fun st pe => by rw [hR]
  obtain ⟨L, hL⟩ : ∃ L, L = w.heap.size + 1 := ⟨_, rfl⟩
  obtain ⟨W1, hW1⟩ : ∃ W1, W1 = (w.alloc (.deferred (some []))).alloc (.loop (R .ready none)) := ⟨_, rfl⟩
  have z1 : W1.heap.size = w.heap.size + 2 := by rw [hW1]; simp
  have l1 : W1.heap[L]? = some (.loop (R .ready none)) := by
    have := World.alloc_heap_new (w.alloc (.deferred (some []))) (.loop (R .ready none))
    rw [hW1, hL]; rwa [World.size_alloc] at this
  have k1 : W1.heap[w.heap.size]? = some (.deferred (some [])) := by rw [hW1]; exact (Below.heap_alloc _ _ _ (by simp)).trans (World.alloc_heap_new w _)
  have i1 : I [] W1 := by rw [hW1]; exact hI.alloc _ (hI.alloc _ h0)
  have b1 : Below w.heap.size w W1 := by rw [hW1]; exact ((Below.refl _ w).alloc (Nat.le_refl _) _).alloc (by simp) _
  have far : ∀ {A B : World} {row : Option Nat}, (∀ r, row = some r → W1.heap.size ≤ r ∧ ∃ o : Obj, A.heap[r]? = some o ∧ o.isCells = false) → ∀ r, row = some r → w.heap.size ≤ r ∧ ∃ o : Obj, A.heap[r]? = some o ∧ o.isCells = false :=
    fun hr r e => ⟨by have := (hr r e).1; omega, (hr r e).2⟩
  have hcall := hseq L (fun pre W => I pre W ∧ W.heap[L]? = some (.loop (R .ready none)) ∧ W.heap[w.heap.size]? = some (.deferred (some [])))
    (fun pre W => ∃ c, Ix c pre W ∧ W.heap[L]? = some (.loop (R .done (some c))) ∧ W.heap[w.heap.size]? = some (.deferred (some []))) W1 b1
    (fun s A B row hs hg' hr => ⟨hI s A B row hs.1 hg' (far (B := B) hr), row_far hg' hr (by omega) hs.2.1, row_far hg' hr (by omega) hs.2.2⟩)
    (fun s A B row hs hg' hr => by
      obtain ⟨c, e1, e2, e3⟩ := hs
      exact ⟨c, hIx c s A B row e1 hg' (far (B := B) hr), row_far hg' hr (by omega) e2, row_far hg' hr (by omega) e3⟩)
    ?round ⟨i1, l1, k1⟩
  case round =>
    rintro pre x W ⟨hi, hl, hk⟩ hlen
    have hy := run_yield (P := P) (args := encs x) hl (by rw [hpa]; exact hps x)
    rw [hR] at hy
    have hlt : L < W.heap.size := (Array.getElem?_eq_some_iff.1 hl).1
    have hbg := run_beginRound (P := P) hl (hst _ _)
    rw [hbz] at hbg
    refine ⟨fn, _, assign, body, hy, roundIn_of_wpIn hfn (hassign L x W _ ⟨_, hbg, ?_⟩)⟩
    clear hy hbg
    have l2 : (W.putObj L (.loop (R .busy none))).heap[L]? = some (.loop (R .busy none)) := World.putObj_heap_same hlt
    have k2 : (W.putObj L (.loop (R .busy none))).heap[w.heap.size]? = some (.deferred (some [])) := (World.putObj_heap_other (by omega)).trans hk
    have keepAll : ∀ (o : Obj) (X : World), KeepsAll w.heap.size (W.putObj L (.loop (R .busy none))) X → KeepsAll W1.heap.size W (X.putObj L o) := fun o X hX =>
      ⟨by have := hX.size; simp at this ⊢; exact this, fun k o' hk h0 => (World.putObj_heap_other (by omega)).trans (hX.same k o' (by omega) ((World.putObj_heap_other (by omega)).trans h0))⟩
    have shut : ∀ (jump : Option Code) (X : World), KeepsAll w.heap.size (W.putObj L (.loop (R .busy none))) X →
        (Instr.endRound L jump).run P X = .ok (.bool jump.isNone) (X.putObj L (.loop (R (if jump.isNone then .ready else .done) jump))) ∧ X.heap[L]? = some (.loop (R .busy none)) ∧
        (X.putObj L (.loop (R (if jump.isNone then .ready else .done) jump))).heap[L]? = some (.loop (R (if jump.isNone then .ready else .done) jump)) ∧ (X.putObj L (.loop (R (if jump.isNone then .ready else .done) jump))).heap[w.heap.size]? = some (.deferred (some [])) := fun jump X hX => by
      have e1 := hX.same L _ (by omega) l2
      have e2 := hX.same w.heap.size _ (Nat.le_refl _) k2
      have e3 := run_endRound (P := P) jump e1
      rw [hbe] at e3
      exact ⟨e3, e1, World.putObj_heap_same (Array.getElem?_eq_some_iff.1 e1).1, (World.putObj_heap_other (by omega)).trans e2⟩
    refine wpIn_mono (hbody L pre x _ (hI.putObj _ hi (by omega) hl rfl) hlen) ?_
    rintro e a3 X hp
    cases e with
    | normal =>
      obtain ⟨q1, q2, q3⟩ := hp
      obtain ⟨r1, r2, r3, r4⟩ := shut none X q1
      exact ⟨_, _, r1, .inl ⟨rfl, ⟨hI.putObj _ q3 (by omega) r2 rfl, r3, r4⟩, hKt (hKt (hKb W L _ _ (by omega) hl rfl) q2) (hKb X L _ _ (by omega) r2 rfl), keepAll _ X q1⟩⟩
    | ret =>
      obtain ⟨r1, r2, r3, r4⟩ := shut (some .ret) X hp.1
      exact ⟨_, _, r1, .inr ⟨rfl, ⟨.ret, (hIx _).putObj _ hp.2 (by omega) r2 rfl, r3, r4⟩, keepAll _ X hp.1⟩⟩
    | exit id =>
      obtain ⟨r1, r2, r3, r4⟩ := shut (some (.exit id)) X hp.1
      exact ⟨_, _, r1, .inr ⟨rfl, ⟨.exit id, (hIx _).putObj _ hp.2 (by omega) r2 rfl, r3, r4⟩, keepAll _ X hp.1⟩⟩
    | goto t =>
      obtain ⟨r1, r2, r3, r4⟩ := shut (some (.goto t)) X hp.1
      exact ⟨_, _, r1, .inr ⟨rfl, ⟨.goto t, (hIx _).putObj _ hp.2 (by omega) r2 rfl, r3, r4⟩, keepAll _ X hp.1⟩⟩
    | panic ch => exact hp.elim
    | outgrown => exact hp.elim
  refine ⟨L, [{ target := .collected w.heap.size, args := #[] }], W1, { target := .fn (.func gf) lb, args := #[.func (.yield L) #[] #[]] }, W1, gf, #[.func (.yield L) #[] #[]] ++ lb, W1, ?_, ?_, ?_, ?_, fun _ => h1, ?_⟩
  · have e := run_enterLoop_outer (P := P) (w := w) fn a.tmps ps assign body
    rw [hL, hW1, hR]; exact e
  · simp only [resolve, hg]
    simp [go_sem]
  · intro f' hf'; simp [Target.leads] at hf'; subst hf'; exact hFg
  · simp [invoke, go_sem, eg]
  · refine hcall.mono ?_
    rintro e X ⟨⟨v, rfl⟩, (⟨xs, hS, q1, q2, q3⟩ | ⟨pre, hSp, c, q1, q2, q3⟩)⟩
    · have e := run_endLoop (P := P) q2 (by rw [hst]; simp)
      rw [hbz, hpe] at e
      exact ⟨none, _, e, hdone _ xs _ (Nat.le_refl _) hS (hI.putObj _ q1 (by omega) q2 rfl) ((World.putObj_heap_other (by omega)).trans q3)⟩
    · have e := run_endLoop (P := P) q2 (by rw [hst]; simp)
      rw [hbz, hpe] at e
      exact ⟨some c, _, e, hstop _ c pre _ (Nat.le_refl _) hSp ((hIx c).putObj _ q1 (by omega) q2 rfl) ((World.putObj_heap_other (by omega)).trans q3)⟩
end Go.Proofs.Ytjhhldfhfebboaa
