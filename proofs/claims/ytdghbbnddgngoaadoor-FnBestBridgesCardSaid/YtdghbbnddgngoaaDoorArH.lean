/- The words for a graph that is filled row by row in a range over a function: its heads, the marks of ranges that are over. No conditions. -/
import Derived.Test.YtdghbbnddgngoaaDoorArI
import Derived.Test.YtdghbbnddgngoaaDoorArS
import Derived.Test.YtdghbbnddgngoaaDoorHeldIn
import Derived.OwnWalkIn
import Derived.RangeFuncWrites
import Derived.RangeFuncLeaves
import Derived.Test.YtdghbbnddgngoaaDoorStU
namespace Go.Proofs.YtdghbbnddgngoaaDoor
open Go.RowKit Go.Shelf
open Go.Maps (Keyed)
set_option linter.unusedSimpArgs false
set_option linter.unusedVariables false
attribute [local go_sem] Oper.semAt_some

theorem wpListIn_make_full {F : Fence} {n : Nat} {P : Program} (w : World) {ops : Array Oper} {rest : List Oper} {o : Oper} {a : Act} {Q : Exit → Act → World → Prop}
    (hg : o.guard = none) (l c : Operand) (t : TypeId) (hop : o.op = Op.makeSlice t l c)
    (base : Nat) (e : TypeId) (i : TypeInfo) (z : Value) (size : Nat) (h1 : P.underlying t = some (.slice e)) (h2 : P.info? e = some i) (h3 : i.zero = some z) (h4 : i.size = size)
    (kl kc : IntKind) (L C : Int) (m : Nat) (hl : a.eval l = .int kl L) (hc : a.eval c = .int kc C) (hL : L = (m : Int)) (hC : C = (m : Int)) (b2 : i.bytes * m ≤ 281474976710656) (b3 : m ≤ maxLen) (b4 : base ≤ w.heap.size)
    (hK : ∀ w', w'.ownsRow base e size (.slice (some ⟨w.heap.size, 0, none⟩) m m) m (madeCells z.cells (m * size)).toList → w.grownBy w' none → wpListIn F n P ops Q rest (a.put o.dst (.slice (some ⟨w.heap.size, 0, none⟩) m m)) w') :
    wpListIn F n P ops Q (o :: rest) a w := by
  refine wpListIn_plain hg fun K hK' => ?_
  obtain ⟨w', hrun, r1, r2⟩ := run_make_full (P := P) w base t e i z size h1 h2 h3 h4 kl kc m b2 b3 b4
  subst hL
  subst hC
  unfold Oper.wpIn
  refine ⟨?_, ?_⟩
  · simp [Oper.about, hop]
  · rw [Oper.semAt_plain F _ _ (by rw [hop]; intro c hc'; cases hc')]
    simp [execOp, hop, hl, hc, hrun, Result.andThen]
    exact hK' _ _ (hK w' r1 r2)

/-- the heads of the rows -/
def hd1 (v : Value) : List Value := [v]
theorem hd1_len (v : Value) : (hd1 v).length = 1 := rfl
theorem hd1_flat (l : List Value) : l.flatMap hd1 = l := by
  induction l with
  | nil => rfl
  | cons a l ih => simp [List.flatMap_cons, ih, hd1]
abbrev Hds (w : World) (B gb n : Nat) (hs : List Value) : Prop := OwnK 88 1 hd1 w B (.slice (some ⟨gb, 0, none⟩) n n) hs
def nilV : Value := .slice none 0 0
/-- the value is a graph: a row of arcs for each state -/
def GraphIs (w : World) (B : Nat) (v : Value) (pss : List (List ArcT)) : Prop :=
  ∃ gb hs, v = .slice (some ⟨gb, 0, none⟩) pss.length pss.length ∧ hs.length = pss.length ∧ Hds w B gb pss.length hs ∧ ∀ j, j < pss.length → Arcs w B (hs.getD j nilV) (pss.getD j [])
theorem GraphIs.below {w w' : World} {B : Nat} {v : Value} {pss : List (List ArcT)} (h : GraphIs w B v pss) (hb : Below w.heap.size w w') : GraphIs w' B v pss := by
  obtain ⟨gb, hs, h1, h2, h3, h4⟩ := h
  exact ⟨gb, hs, h1, h2, h3.below hb, fun j hj => (h4 j hj).below hb⟩
theorem Tryd.infoHd : (Tryd.prog.info? 88).map (fun i => (i.zero, i.size, i.bytes)) = some (some (.slice none 0 0), 1, 24) := by kernel_rfl

/-- the mark of a range over a function that is over -/
def markD (D : Nat) : Deferred := { target := .collected D, args := #[] }
def Coll (N : Nat) (ds : List Deferred) (W : World) : Prop := ∃ Ds : List Nat, ds = Ds.map markD ∧ Ds.Nodup ∧ ∀ D ∈ Ds, N ≤ D ∧ W.heap[D]? = some (.deferred (some []))
theorem Coll.nil (N : Nat) (W : World) : Coll N [] W := ⟨[], rfl, List.nodup_nil, fun D hD => by cases hD⟩
theorem Coll.keep {N : Nat} {ds : List Deferred} {W W' : World} (h : Coll N ds W) (hk : ∀ D : Nat, W.heap[D]? = some (.deferred (some [])) → W'.heap[D]? = some (.deferred (some []))) : Coll N ds W' := by
  obtain ⟨Ds, rfl, h2, h3⟩ := h
  exact ⟨Ds, rfl, h2, fun D hD => ⟨(h3 D hD).1, hk D (h3 D hD).2⟩⟩
theorem Coll.add {N D : Nat} {ds : List Deferred} {W W' : World} (h : Coll N ds W) (hk : ∀ D : Nat, W.heap[D]? = some (.deferred (some [])) → W'.heap[D]? = some (.deferred (some []))) (hD : W.heap.size ≤ D) (hN : N ≤ D) (hK : W'.heap[D]? = some (.deferred (some []))) : Coll N (markD D :: ds) W' := by
  obtain ⟨Ds, rfl, h2, h3⟩ := h
  refine ⟨D :: Ds, rfl, List.nodup_cons.2 ⟨fun hm => ?_, h2⟩, fun E hE => ?_⟩
  · have := (Array.getElem?_eq_some_iff.1 (h3 D hm).2).1
    omega
  · rcases List.mem_cons.1 hE with rfl | hE
    · exact ⟨hN, hK⟩
    · exact ⟨(h3 E hE).1, hk E (h3 E hE).2⟩
/-- what stays while the marks are taken -/
structure Taken (N : Nat) (W W' : World) : Prop where
  os : W'.os = W.os
  tape : W'.tape = W.tape
  output : W'.output = W.output
  size : W.heap.size ≤ W'.heap.size
  low : ∀ k, k < N → W'.heap[k]? = W.heap[k]?
  cells : ∀ (k : Nat) (o : Obj), o.isCells = true → W.heap[k]? = some o → W'.heap[k]? = some o
theorem Taken.refl (N : Nat) (W : World) : Taken N W W := ⟨rfl, rfl, rfl, Nat.le_refl _, fun _ _ => rfl, fun _ _ _ h => h⟩
theorem Taken.put {N D : Nat} {W W' : World} (h : Taken N W W') (hD : N ≤ D) (hd : W.heap[D]? = some (.deferred (some []))) (o' : Obj) : Taken N W (W'.putObj D o') := by
  have g := grownBy_putObj' W' D o'
  refine ⟨g.os.trans h.os, g.tape.trans h.tape, g.output.trans h.output, Nat.le_trans h.size g.size, fun k hk => ?_, fun k o ho hk => ?_⟩
  · by_cases hl : k < W'.heap.size
    · rw [g.block k hl (fun e => by cases e; omega)]; exact h.low k hk
    · have h1 : W'.heap[k]? = none := by simp; omega
      have := h.low k hk
      rw [← this, h1]
      have h2 : (W'.putObj D o').heap.size = W'.heap.size := by simp [World.putObj]
      simp [h2]; omega
  · have h1 := h.cells k o ho hk
    rw [g.block k (Array.getElem?_eq_some_iff.1 h1).1 (fun e => by cases e; rw [hd] at hk; cases hk; cases ho)]
    exact h1
theorem Taken.below {N : Nat} {w W W' : World} (h : Taken N W W') (hb : Below N w W) : Below N w W' :=
  ⟨h.os.trans hb.os, h.tape.trans hb.tape, h.output.trans hb.output, Nat.le_trans hb.size h.size, fun k hk => (h.low k hk).trans (hb.block k hk)⟩
theorem OwnK.taken {α : Type} {e : TypeId} {k : Nat} {c : α → List Value} {w w' : World} {B N : Nat} {v : Value} {xs : List α} (h : OwnK e k c w B v xs) (ht : Taken N w w') : OwnK e k c w' B v xs := by
  refine ⟨h.1, ?_⟩
  rcases h.2 with h2 | ⟨g, cap, cur, rfl, hb, hg, rest⟩
  · exact .inl h2
  · exact .inr ⟨g, cap, cur, rfl, hb, ht.cells g _ rfl hg, rest⟩
theorem coll_leaves {F : Fence} {n : Nat} {P : Program} {fn : Func} {tmps : Array Value} {R : Ending → World → Prop} {N : Nat} {W : World} (hR : ∀ W', Taken N W W' → ∃ v, (results fn tmps).run P W' = .ok v W' ∧ R (.returned v) W') :
    ∀ (Ds : List Nat) (W' : World), Taken N W W' → Ds.Nodup → (∀ D ∈ Ds, N ≤ D ∧ W.heap[D]? = some (.deferred (some [])) ∧ W'.heap[D]? = some (.deferred (some []))) → LeavesInM F n P fn tmps R (Ds.map markD) .returning W' := by
  intro Ds
  induction Ds with
  | nil => intro W' ht _ _; exact hR W' ht
  | cons D Ds ih =>
    intro W' ht hn hd
    obtain ⟨h1, h2, h3⟩ := hd D (by simp)
    have hn2 := List.nodup_cons.1 hn
    refine ⟨by simp, .inl ⟨_, _, rfl, run_takeDeferred h3, ih _ (ht.put h1 h2 _) hn2.2 fun E hE => ?_⟩⟩
    obtain ⟨k1, k2, k3⟩ := hd E (by simp [hE])
    refine ⟨k1, k2, ?_⟩
    rw [(grownBy_putObj' W' D (.deferred none)).block E (Array.getElem?_eq_some_iff.1 k3).1 (fun e => by cases e; exact hn2.1 hE)]
    exact k3
theorem OwnK.row_cells {α : Type} {e : TypeId} {k : Nat} {c : α → List Value} {w : World} {B : Nat} {v : Value} {xs : List α} (h : OwnK e k c w B v xs) : ∀ (j : Nat) (o : Obj), v.ownBlock = some j → w.heap[j]? = some o → o.isCells = true := by
  intro j o hj ho
  rcases h.2 with ⟨h1, _⟩ | ⟨g', cap, cur, rfl, _, hg', _⟩
  · subst h1; simp [Value.ownBlock] at hj
  · simp [Value.ownBlock] at hj
    subst hj
    rw [hg'] at ho
    cases ho
    rfl
/-- the block of a list of arcs is not that of the heads -/
theorem hds_ne {w : World} {B B' gb n : Nat} {hs : List Value} {v : Value} {xs : List ArcT} (h : Hds w B gb n hs) (ha : Arcs w B' v xs) : v.ownBlock ≠ some gb := by
  intro e
  rcases ha.2 with ⟨h1, _⟩ | ⟨g', cap, cur, rfl, _, hg', _⟩
  · subst h1; simp [Value.ownBlock] at e
  · simp [Value.ownBlock] at e
    subst e
    rcases h.2 with ⟨h1, _⟩ | ⟨g2, cap2, cur2, h1, _, hg2, _⟩
    · simp at h1
    · simp at h1
      obtain ⟨rfl, _⟩ := h1
      rw [hg'] at hg2
      simp at hg2
theorem grown_far {w a b : World} {r o : Option Nat} (h : w.grownBy a r) (k : a.grownBy b o) (ho : ∀ g, o = some g → w.heap.size ≤ g ∨ r = some g) : w.grownBy b r :=
  ⟨k.os.trans h.os, k.tape.trans h.tape, k.output.trans h.output, Nat.le_trans h.size k.size, fun i hi hne => by
    rw [k.block i (by have := h.size; omega) (fun e => by rcases ho i e.symm with h9 | h9; (· omega); exact hne h9.symm), h.block i hi hne]⟩
theorem grown_set {w a : World} {g : Nat} (h : w.grownBy a (some g)) (i : Nat) (v : Value) : w.grownBy (a.setCell ⟨g, i, none⟩ v) (some g) :=
  ⟨h.os, h.tape, h.output, by simpa using h.size, fun k hk hne => by rw [Below.heap_setCell _ _ _ _ (by simpa using fun e => hne (by rw [e]))]; exact h.block k hk hne⟩
theorem keepsOthers_below {w a : World} (h : Below w.heap.size w a) : KeepsOthers w a := ⟨h.size, fun k o hk _ => (h.block k (Array.getElem?_eq_some_iff.1 hk).1).trans hk⟩
/-- what a round of the range over the throws of a state keeps: the heads, of which the k-th has turned, and its arcs -/
def RowI {α : Type} (W1 : World) (B gb n k : Nat) (hs : List Value) (f : α → ArcT) (pre : List α) (W : World) : Prop := W1.grownBy W (some gb) ∧ ∃ d, Hds W B gb n (hs.set k d) ∧ Arcs W W1.heap.size d (pre.map f)
theorem rowI_own {α : Type} (W1 : World) (B gb n k : Nat) (hs : List Value) (f : α → ArcT) (hgb : gb < W1.heap.size) : OwnFrom W1.heap.size (RowI W1 B gb n k hs f) := by
  rintro pre W W' row ⟨h1, d, h2, h3⟩ hg hr
  refine ⟨grown_far h1 hg fun g e => .inl (hr g e).1, d, h2.block fun g e hlt => hg.block g hlt fun e2 => ?_, h3.block fun g e hlt => hg.block g hlt fun e2 => ?_⟩
  · simp [Value.ownBlock] at e
    have := (hr g e2.symm).1
    omega
  · obtain ⟨_, o, ho, hc⟩ := hr g e2.symm
    exact absurd (h3.row_cells g o e ho) (by rw [hc]; decide)
theorem set_nil {hs : List Value} {k : Nat} (hk : hs.getD k nilV = nilV) : hs.set k nilV = hs := by
  apply List.ext_getElem?
  intro i
  rw [List.getElem?_set]
  split
  · rename_i e
    subst e
    split
    · rename_i hl
      have : hs.getD k nilV = hs[k] := by simp [hl]
      rw [this] at hk
      simp [hl, hk]
    · rename_i hl
      simp; omega
  · rfl
theorem getD_set_self {l : List Value} {k : Nat} {d : Value} (h : k < l.length) : (l.set k d).getD k nilV = d := by simp [h]
theorem getD_set_ne {l : List Value} {k j : Nat} {d : Value} (h : k ≠ j) : (l.set k d).getD j nilV = l.getD j nilV := by simp [List.getD_eq_getElem?_getD, h]
theorem look_idx {W : World} {b nn h p q : Nat} {D : DS} (ho : W.ownsMap Tryd.prog 35 (plainElem Tryd.prog 2) b nn D) (hD : IdxMap D h p (cntG h p)) (hh : h ≤ 10) (hq : q < 2 ^ h) (hp : popN q = p) :
    (Instr.lookup 58 (.map (some b)) (.agg #[.int .i64 h, .int .i64 q]) false).run Tryd.prog W = .ok (.int .i64 (idxN q : Nat)) W := by
  have h9 := pow_lt_1024 hh
  obtain ⟨c, hrun, hat, _⟩ := ho.lookup_int (q := .i64) stateKeyed Tryd.underlying58 Tryd.underlying2 (zero64 W) (key := .agg #[.int .i64 h, .int .i64 q]) (kl := slit h q) (slit_key (h := (h : Int)) (v := (q : Int)) (by omega) (by omega) (by omega) (by omega))
  obtain ⟨k1, k2⟩ := idx_in (h := h) hq hp
  have h2 := hD.2 (idxN q) k1
  rw [k2, hat] at h2
  simp at h2
  rw [hrun, h2]
theorem throwsSt_bndS (n : Nat) (hn : 1 ≤ n) (h m : Nat) (hh : h ≤ 10) (hm : m < 2 ^ h) (w : World) :
    SeqBnd Fence.wide n Tryd.prog 52 #[.agg #[.int .i64 h, .int .i64 m]] #[] (fun x : {t : Nat // t ∈ thrN h m} => encT x.1) CtzTab (fun xs => xs.map Subtype.val = thrN h m) 100 w := by
  intro l J W hW hJ hT hY h0
  have hb12 : bitsUp 12 (possM h m) = thrN h m := by rw [bitsUp_throws h (by omega) m hm]; rfl
  refine (throwsSt_in n hn l h m hh hm (fun pre W => ∃ q : List {t : Nat // t ∈ thrN h m}, q.map Subtype.val = pre ∧ J q W) ?_ ?_ (fun _ _ h b => h.below b) W (hT _ _ h0) ⟨[], rfl, h0⟩).mono ?_
  · rintro pre W1 W2 ⟨q, hq, hj⟩ hb
    exact ⟨q, hq, hJ q W1 W2 none hj ⟨hb.os, hb.tape, hb.output, hb.size, fun k hk _ => hb.block k hk⟩ (fun r e => by cases e)⟩
  · rintro pre x W1 ⟨q, hq, hj⟩ ht hp
    rw [hb12] at hp
    have hx : x ∈ thrN h m := hp.subset (by simp)
    have hl := hp.length_le
    have h11 := thrN_len h m
    have hql := congrArg List.length hq
    simp at hl hql
    refine (hY q ⟨x, hx⟩ W1 hj (by omega)).mono ?_
    rintro e W' ⟨k1, k2⟩
    exact ⟨k1, ⟨q ++ [⟨x, hx⟩], by simp [hq], k2⟩, hT _ _ k2⟩
  · rintro e W' ⟨k1, q, hq, hj⟩
    exact ⟨k1, q, hq.trans hb12, hj⟩
end Go.Proofs.YtdghbbnddgngoaaDoor
