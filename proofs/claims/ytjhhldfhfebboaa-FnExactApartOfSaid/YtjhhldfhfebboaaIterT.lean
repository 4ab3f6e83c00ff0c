/- The program's iterator over the throws of both jugglers: its contract: all throws of A and then those of B, or a part of them. Conditions: both have n throws, 1 to 8. -/
import Derived.Test.YtjhhldfhfebboaaPasW
import Derived.RangeFuncNested
import Derived.RangeFuncBound
import Derived.RangeFuncCalls
import Derived.RangeFuncLeaves
import Derived.Shelf.Abstract
import Derived.Shelf.RegionOpen
import Derived.OwnWalkIn
import Derived.TacticsInMore
import Derived.LoopNIn
import Derived.LoopIn
namespace Go.Proofs.Ytjhhldfhfebboaa
open Go.RowKit Go.Shelf
set_option linter.unusedSimpArgs false
set_option linter.unusedVariables false
attribute [local go_sem] Oper.semAt_some

/-- a throw with its juggler and its beat -/
abbrev Mt := Pt × Nat × Nat
def encM (x : Mt) : Array Value := #[.agg #[.int .i64 x.1.1, .bool x.1.2, .int .i64 x.2.1, .int .i64 x.2.2]]
def mtsOf (j : Nat) (a : List Pt) (t : Nat) : List Mt := (List.range t).map fun i => (a.getD i p0, j, i)
theorem mtsOf_succ (j : Nat) (a : List Pt) (t : Nat) : mtsOf j a (t + 1) = mtsOf j a t ++ [(a.getD t p0, j, t)] := by simp [mtsOf, List.range_succ]
theorem mtsOf_len (j : Nat) (a : List Pt) (t : Nat) : (mtsOf j a t).length = t := by simp [mtsOf]
def mts (n : Nat) (a b : List Pt) : List Mt := mtsOf 0 a n ++ mtsOf 1 b n
theorem mtsOf_pre (j : Nat) (a : List Pt) (t n : Nat) (h : t ≤ n) : mtsOf j a t <+: mtsOf j a n := by
  refine ⟨(mtsOf j a n).drop t, ?_⟩
  have : mtsOf j a t = (mtsOf j a n).take t := by
    unfold mtsOf
    rw [← List.map_take, List.take_range, Nat.min_eq_left h]
  rw [this, List.take_append_drop]
theorem mts_pre0 (n : Nat) (a b : List Pt) (t : Nat) (h : t ≤ n) : mtsOf 0 a t <+: mts n a b := (mtsOf_pre 0 a t n h).trans (List.prefix_append _ _)
theorem mts_pre1 (n : Nat) (a b : List Pt) (t : Nat) (h : t ≤ n) : mtsOf 0 a n ++ mtsOf 1 b t <+: mts n a b := by
  obtain ⟨r, hr⟩ := mtsOf_pre 1 b t n h
  exact ⟨r, by unfold mts; rw [← hr, List.append_assoc]⟩
/-- all throws are read from blocks below n₀ -/
def ReadP (n₀ : Nat) (W : World) (g n : Nat) (a : List Pt) : Prop := g < n₀ ∧ ∀ i, i < n → TwoP W g (i * 2) (a.getD i p0)
theorem ReadP.below {n₀ : Nat} {W W' : World} {g n : Nat} {a : List Pt} (h : ReadP n₀ W g n a) (hb : Below n₀ W W') : ReadP n₀ W' g n a := ⟨h.1, fun i hi => (h.2 i hi).below hb h.1⟩

theorem grown_al (w : World) (o : Obj) : w.grownBy (w.alloc o) none := ⟨rfl, rfl, rfl, by simp, fun k hk _ => Below.heap_alloc w o k hk⟩
theorem Try.infoJ : (Try.prog.info? 62).map (fun i => (i.zero, i.size, i.bytes)) = some (some (.agg #[.slice none 0 0, .slice none 0 0]), 2, 48) := by kernel_rfl
theorem index_j0 (a b : Option Addr) (n m c d : Nat) (w : World) : (Instr.index 63 (.agg #[.slice a n c, .slice b m d]) (.int .i64 0)).run Try.prog w = .ok (.slice a n c) w := by
  show Sem.run _ _ _ = _
  kernel_rfl
theorem index_j1 (a b : Option Addr) (n m c d : Nat) (w : World) : (Instr.index 63 (.agg #[.slice a n c, .slice b m d]) (.int .i64 1)).run Try.prog w = .ok (.slice b m d) w := by
  show Sem.run _ _ _ = _
  kernel_rfl

set_option maxRecDepth 100000 in
set_option maxHeartbeats 4000000 in
theorem throws1_in (F : Fence) (n : Nat) (h6 : F.fn 87) (hro : F.round = none) (hn : 1 ≤ n) (l Bj n₀ ga gb ca cb len : Nat) (a b : List Pt) (hlen : len ≤ 8) (J Jx : List Mt → World → Prop)
    (hJ : ∀ pre W1 W2, J pre W1 → W1.grownBy W2 none → J pre W2)
    (hY : ∀ pre x W, J pre W → pre.length < 2 * len → pre ++ [x] <+: mts len a b → YieldAt F (n - 1) Try.prog l (encM x) W fun e W' =>
      (e = .returned (.bool true) ∧ J (pre ++ [x]) W' ∧ Below n₀ W W') ∨ (e = .returned (.bool false) ∧ Jx (pre ++ [x]) W'))
    (W : World) (hn₀ : n₀ ≤ W.heap.size) (hBj0 : W.cell? ⟨Bj, 0, none⟩ = some (.slice (some ⟨ga, 0, none⟩) len ca)) (hBj1 : W.cell? ⟨Bj, 1, none⟩ = some (.slice (some ⟨gb, 0, none⟩) len cb))
    (hra : ReadP n₀ W ga len a) (hrb : ReadP n₀ W gb len b) (h0 : J [] W) :
    CallsIn F n Try.prog 87 #[.func (.yield l) #[] #[], .pointer (some ⟨Bj, 0, none⟩)] W fun e W' => (∃ v, e = .returned v) ∧
      ((∃ ys, ys = mts len a b ∧ J ys W') ∨ (∃ pre, pre <+: mts len a b ∧ Jx pre W')) := by
  refine callsIn_of_wp Try.func87 rfl h6 ?_ hro
  simp only [Try.ntmps87, List.size_toArray, List.length_cons, List.length_nil, Nat.reduceAdd, Nat.reduceSub, Array.replicate_succ, Array.replicate_zero, List.push_toArray, List.append_toArray, List.nil_append, List.cons_append]
  have HSZ := Lib.hid (fun W2 (hW : Below n₀ W W2) => (Nat.le_trans hn₀ hW.size : n₀ ≤ W2.heap.size))
  gi_wp2
  gi_loopw [8] (fun i wr => ((i = .int .i64 0 ∧ J [] wr) ∨ (i = .int .i64 1 ∧ J (mtsOf 0 a len) wr) ∨ (i = .int .i64 2 ∧ J (mts len a b) wr)) ∧ Below n₀ W wr) (fun i _ => 2 - (intOf i).toNat)
  case atStart => exact ⟨.inl ⟨rfl, h0⟩, Below.refl _ _⟩
  case round =>
    obtain ⟨⟨rfl, hJs⟩ | ⟨rfl, hJs⟩ | ⟨rfl, hJs⟩, hnx⟩ := hrel
    · -- juggler 0
      have hix := fun W => index_j0 (some ⟨ga, 0, none⟩) (some ⟨gb, 0, none⟩) len len ca cb W
      gi_wp2
      gi_loopw [14] (fun i wr2 => ∃ t : Nat, t ≤ len ∧ i = .int .i64 t ∧ J (mtsOf 0 a t) wr2 ∧ Below n₀ W wr2) (fun i _ => len - (intOf i).toNat)
      case atStart => exact ⟨0, Nat.zero_le _, rfl, by simpa [mtsOf] using hJs, hnx⟩
      case round =>
        obtain ⟨t, ht, rfl, hJ2, hn2⟩ := hrel
        by_cases hlt : t < len
        · obtain ⟨c0, c1⟩ := (hra.below hn2).2 t hlt
          have HQ := Lib.hid (fun W2 (hW : Below n₀ W W2 ∧ J (mtsOf 0 a t) W2) => hY _ (a.getD t p0, 0, t) W2 hW.2 (by simp [mtsOf_len]; omega) (by rw [← mtsOf_succ]; exact mts_pre0 len a b (t + 1) (by omega)))
          have HN := Lib.hid (show (mtsOf 0 a t) ++ [(a.getD t p0, 0, t)] = mtsOf 0 a (t + 1) from by rw [mtsOf_succ])
          generalize a.getD t p0 = y at *
          obtain ⟨y0, y1⟩ := y
          simp only at c0 c1
          have hz2 : n₀ ≤ wr.heap.size := HSZ.out _ hn2
          obtain ⟨fn, tmps, assign, body, hy, hR⟩ := HQ.out (wr.alloc (.cells #[.int .i64 y0, .bool y1] 67)) ⟨hn2.alloc hz2 _, hJ _ _ _ hJ2 (grown_al wr _)⟩
          replace hy : (Instr.yield l #[.agg #[.int .i64 y0, .bool y1, .int .i64 0, .int .i64 t]]).run Try.prog (wr.alloc (.cells #[.int .i64 y0, .bool y1] 67)) = .ok (.round l fn tmps assign body) (wr.alloc (.cells #[.int .i64 y0, .bool y1] 67)) := hy
          have hn3 := hn2.alloc hz2 (.cells #[.int .i64 y0, .bool y1] 67)
          clear HQ
          gi_wp2
          refine hR.mono ?_
          rintro e W3 (⟨rfl, hJ3, hk3⟩ | ⟨rfl, hJx3⟩)
          · rw [HN.out] at hJ3
            gi_wp2
            go_roundw
            case rel => exact ⟨t + 1, by omega, by go_num, hJ3, hn3.trans hk3⟩
            case measure => simp [intOf]; omega
          · rw [HN.out] at hJx3
            gi_wp2
            refine bodyPost_ret (results_none rfl _ _ _) rfl ?_
            exact ⟨⟨_, rfl⟩, .inr ⟨_, mts_pre0 len a b (t + 1) (by omega), hJx3⟩⟩
        · obtain rfl : t = len := by omega
          gi_wp2
          go_roundw
          case rel => exact ⟨.inr (.inl ⟨rfl, hJ2⟩), hn2⟩
          case measure => simp [intOf]
    · -- juggler 1
      have hix := fun W => index_j1 (some ⟨ga, 0, none⟩) (some ⟨gb, 0, none⟩) len len ca cb W
      gi_wp2
      gi_loopw [14] (fun i wr2 => ∃ t : Nat, t ≤ len ∧ i = .int .i64 t ∧ J (mtsOf 0 a len ++ mtsOf 1 b t) wr2 ∧ Below n₀ W wr2) (fun i _ => len - (intOf i).toNat)
      case atStart => exact ⟨0, Nat.zero_le _, rfl, by simpa [mtsOf] using hJs, hnx⟩
      case round =>
        obtain ⟨t, ht, rfl, hJ2, hn2⟩ := hrel
        by_cases hlt : t < len
        · obtain ⟨c0, c1⟩ := (hrb.below hn2).2 t hlt
          have HQ := Lib.hid (fun W2 (hW : Below n₀ W W2 ∧ J (mtsOf 0 a len ++ mtsOf 1 b t) W2) => hY _ (b.getD t p0, 1, t) W2 hW.2 (by simp [mtsOf_len]; omega) (by rw [List.append_assoc, ← mtsOf_succ]; exact mts_pre1 len a b (t + 1) (by omega)))
          have HN := Lib.hid (show (mtsOf 0 a len ++ mtsOf 1 b t) ++ [(b.getD t p0, 1, t)] = mtsOf 0 a len ++ mtsOf 1 b (t + 1) from by rw [mtsOf_succ, List.append_assoc])
          generalize b.getD t p0 = y at *
          obtain ⟨y0, y1⟩ := y
          simp only at c0 c1
          have hz2 : n₀ ≤ wr.heap.size := HSZ.out _ hn2
          obtain ⟨fn, tmps, assign, body, hy, hR⟩ := HQ.out (wr.alloc (.cells #[.int .i64 y0, .bool y1] 67)) ⟨hn2.alloc hz2 _, hJ _ _ _ hJ2 (grown_al wr _)⟩
          replace hy : (Instr.yield l #[.agg #[.int .i64 y0, .bool y1, .int .i64 1, .int .i64 t]]).run Try.prog (wr.alloc (.cells #[.int .i64 y0, .bool y1] 67)) = .ok (.round l fn tmps assign body) (wr.alloc (.cells #[.int .i64 y0, .bool y1] 67)) := hy
          have hn3 := hn2.alloc hz2 (.cells #[.int .i64 y0, .bool y1] 67)
          clear HQ
          gi_wp2
          refine hR.mono ?_
          rintro e W3 (⟨rfl, hJ3, hk3⟩ | ⟨rfl, hJx3⟩)
          · rw [HN.out] at hJ3
            gi_wp2
            go_roundw
            case rel => exact ⟨t + 1, by omega, by go_num, hJ3, hn3.trans hk3⟩
            case measure => simp [intOf]; omega
          · rw [HN.out] at hJx3
            gi_wp2
            refine bodyPost_ret (results_none rfl _ _ _) rfl ?_
            exact ⟨⟨_, rfl⟩, .inr ⟨_, mts_pre1 len a b (t + 1) (by omega), hJx3⟩⟩
        · obtain rfl : t = len := by omega
          gi_wp2
          go_roundw
          case rel => exact ⟨.inr (.inr ⟨rfl, hJ2⟩), hn2⟩
          case measure => simp [intOf]
    · gi_wp2
      go_end0
      exact ⟨⟨_, rfl⟩, .inl ⟨_, rfl, hJs⟩⟩

set_option maxRecDepth 100000 in
set_option maxHeartbeats 1000000 in
theorem throws_in (F : Fence) (n : Nat) (h5 : F.fn 52) (hro : F.round = none) (sa sb : Value) (w : World) :
    CallsIn F n Try.prog 52 #[.agg #[sa, sb]] w fun e w' => e = .returned (.func (.func 87) #[] #[.pointer (some ⟨w.heap.size, 0, none⟩)]) ∧ w' = w.alloc (.cells #[sa, sb] 63) := by
  refine callsIn_of_wp Try.func52 rfl h5 ?_ hro
  simp only [Try.ntmps52, List.size_toArray, List.length_cons, List.length_nil, Nat.reduceAdd, Nat.reduceSub, Array.replicate_succ, Array.replicate_zero, List.push_toArray, List.append_toArray, List.nil_append, List.cons_append]
  gi_wp2
  go_ret
  exact ⟨rfl, rfl⟩

theorem throws_stops (F : Fence) (n : Nat) (h6 : F.fn 87) (hro : F.round = none) (hn : 1 ≤ n) (Bj n₀ ga gb ca cb len : Nat) (a b : List Pt) (hlen : len ≤ 8) (w : World) (hBj : Bj < w.heap.size) (hn₀ : n₀ ≤ w.heap.size)
    (hBj0 : w.cell? ⟨Bj, 0, none⟩ = some (.slice (some ⟨ga, 0, none⟩) len ca)) (hBj1 : w.cell? ⟨Bj, 1, none⟩ = some (.slice (some ⟨gb, 0, none⟩) len cb)) (hra : ReadP n₀ w ga len a) (hrb : ReadP n₀ w gb len b) :
    SeqStopsK F n Try.prog 87 #[.pointer (some ⟨Bj, 0, none⟩)] encM (Below n₀) (fun ys => ys = mts len a b) (fun pre => pre <+: mts len a b) (2 * len) w := fun l J Jx W hW hJ _ hY h0 =>
  throws1_in F n h6 hro hn l Bj n₀ ga gb ca cb len a b hlen J Jx (fun pre W1 W2 h1 hg => hJ pre W1 W2 none h1 hg (fun r e => by cases e)) (fun pre x W h1 h2 _ => hY pre x W h1 h2) W (Nat.le_trans hn₀ hW.size) ((hW.cell (p := ⟨Bj, 0, none⟩) hBj).trans hBj0) ((hW.cell (p := ⟨Bj, 1, none⟩) hBj).trans hBj1) (hra.below (hW.mono hn₀)) (hrb.below (hW.mono hn₀)) h0

/-- a block of cells lies on where only what is no cells is turned -/
theorem blk_own {β : Type} (b : Nat) (cs : β → List Value) (T : TypeId) : Go.Own (fun (s : β) W => Blk W b (cs s) T) := fun s W W' row hs hg hr =>
  (hg.block b hs.lt fun e => by
    obtain ⟨o, ho, hc⟩ := hr _ e.symm
    have := hs
    unfold Blk at this
    rw [this] at ho
    cases ho
    simp [Obj.isCells] at hc).trans hs
end Go.Proofs.Ytjhhldfhfebboaa
