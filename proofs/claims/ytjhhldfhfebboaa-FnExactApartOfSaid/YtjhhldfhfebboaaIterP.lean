/- The program's iterator over the landings of the throws of both jugglers. Conditions: both have n throws, 1 to 8, each as it should be. -/
import Derived.Test.YtjhhldfhfebboaaIterO
import Derived.Test.YtjhhldfhfebboaaImpl02
namespace Go.Proofs.Ytjhhldfhfebboaa
open Go.RowKit Go.Shelf
set_option linter.unusedSimpArgs false
set_option linter.unusedVariables false
attribute [local go_sem] Oper.semAt_some

/-- a throw that a juggler can make, at a beat -/
abbrev St := { x : Mt // okPt x.1 = true ∧ x.2.1 ≤ 1 ∧ x.2.2 < 8 }
def encS (x : St) : Array Value := encM x.1
/-- a juggler and a beat -/
abbrev Lt := { p : Int × Int // (0 ≤ p.1 ∧ p.1 ≤ 1) ∧ (0 ≤ p.2 ∧ p.2 < 8) }
def encL (x : Lt) : Array Value := #[.int .i64 x.1.1, .int .i64 x.1.2]
/-- with whom and when a throw lands -/
def landOf (n : Nat) (x : Mt) : Int × Int := (if x.1.2 then 1 - (x.2.1 : Int) else (x.2.1 : Int), ((x.2.2 : Int) + x.1.1) % (n : Int))
def lands (n : Nat) (a b : List Pt) : List (Int × Int) := (mts n a b).map (landOf n)
def toLt (n : Nat) (h : 1 ≤ n ∧ n ≤ 8) (x : St) : Lt := ⟨landOf n x.1, by
  have h1 := x.2.2.1
  have e0 := Int.emod_nonneg ((x.1.2.2 : Int) + x.1.1.1) (show (n : Int) ≠ 0 by omega)
  have e1 := Int.emod_lt_of_pos ((x.1.2.2 : Int) + x.1.1.1) (show 0 < (n : Int) by omega)
  refine ⟨?_, e0, by show _ % (n : Int) < 8; omega⟩
  unfold landOf
  simp only
  split <;> omega⟩
theorem mts_mem {n : Nat} {a b : List Pt} (h8 : n ≤ 8) {x : Mt} (hx : x ∈ mts n a b) (hok : (mts n a b).all (fun x => okPt x.1) = true) : okPt x.1 = true ∧ x.2.1 ≤ 1 ∧ x.2.2 < 8 := by
  refine ⟨List.all_eq_true.1 hok x hx, ?_⟩
  unfold mts mtsOf at hx
  rcases List.mem_append.1 hx with h | h
  · obtain ⟨i, hi, rfl⟩ := List.mem_map.1 h
    have := List.mem_range.1 hi
    exact ⟨by simp, by show i < 8; omega⟩
  · obtain ⟨i, hi, rfl⟩ := List.mem_map.1 h
    have := List.mem_range.1 hi
    exact ⟨by simp, by show i < 8; omega⟩

theorem throws_stopsS (F : Fence) (n : Nat) (h6 : F.fn 87) (hro : F.round = none) (hn : 1 ≤ n) (Bj n₀ ga gb ca cb len : Nat) (a b : List Pt) (hlen : len ≤ 8) (hok : (mts len a b).all (fun x => okPt x.1) = true) (w : World) (hBj : Bj < w.heap.size) (hn₀ : n₀ ≤ w.heap.size)
    (hBj0 : w.cell? ⟨Bj, 0, none⟩ = some (.slice (some ⟨ga, 0, none⟩) len ca)) (hBj1 : w.cell? ⟨Bj, 1, none⟩ = some (.slice (some ⟨gb, 0, none⟩) len cb)) (hra : ReadP n₀ w ga len a) (hrb : ReadP n₀ w gb len b) :
    SeqStopsK F n Try.prog 87 #[.pointer (some ⟨Bj, 0, none⟩)] encS (Below n₀) (fun ys => ys.map Subtype.val = mts len a b) (fun pre => pre.map Subtype.val <+: mts len a b) (2 * len) w := fun l J Jx W hW hJ _ hY h0 => by
  refine (throws1_in F n h6 hro hn l Bj n₀ ga gb ca cb len a b hlen (fun pre W => ∃ p : List St, p.map Subtype.val = pre ∧ J p W) (fun pre W => ∃ p : List St, p.map Subtype.val = pre ∧ Jx p W)
    (fun pre W1 W2 h1 hg => by obtain ⟨p, e, h⟩ := h1; exact ⟨p, e, hJ p W1 W2 none h hg (fun r e => by cases e)⟩)
    (fun pre x W h1 h2 h3 => by
      obtain ⟨p, rfl, h⟩ := h1
      have hx := mts_mem hlen (h3.subset (by simp : x ∈ p.map Subtype.val ++ [x])) hok
      obtain ⟨fn, tmps, assign, body, hy, hR⟩ := hY p ⟨x, hx⟩ W h (by simpa using h2)
      refine ⟨fn, tmps, assign, body, hy, hR.mono ?_⟩
      rintro e W' (⟨rfl, q1, q2⟩ | ⟨rfl, q1⟩)
      · exact .inl ⟨rfl, ⟨p ++ [⟨x, hx⟩], by simp, q1⟩, q2⟩
      · exact .inr ⟨rfl, ⟨p ++ [⟨x, hx⟩], by simp, q1⟩⟩)
    W (Nat.le_trans hn₀ hW.size) ((hW.cell (p := ⟨Bj, 0, none⟩) hBj).trans hBj0) ((hW.cell (p := ⟨Bj, 1, none⟩) hBj).trans hBj1) (hra.below (hW.mono hn₀)) (hrb.below (hW.mono hn₀)) ⟨[], rfl, h0⟩).mono ?_
  rintro e W' ⟨hv, ⟨ys, e1, p, e2, hj⟩ | ⟨pre, e1, p, e2, hj⟩⟩
  · exact ⟨hv, .inl ⟨p, e2.trans e1, hj⟩⟩
  · exact ⟨hv, .inr ⟨p, by show List.map Subtype.val p <+: _; rw [e2]; exact e1, hj⟩⟩

set_option maxRecDepth 10000 in
theorem catcher_any (v : Int) (c : Bool) (j i : Int) (w : World) (hj0 : 0 ≤ j) (hj1 : j ≤ 1) :
    Calls Try.prog 102 #[.agg #[.int .i64 v, .bool c, .int .i64 j, .int .i64 i]] w fun e w' => e = .returned (.int .i64 (if c then 1 - j else j)) ∧ Below w.heap.size w w' := by
  have b1 : Below w.heap.size w (w.alloc (.cells #[.int .i64 v, .bool c, .int .i64 j, .int .i64 i] 69)) := (Below.refl _ _).alloc (Nat.le_refl _) _
  cases c with
  | true =>
    go_enter Try.func102, Try.ntmps102
    go_wp2
    go_ret
    exact ⟨by simp, b1⟩
  | false =>
    go_enter Try.func102, Try.ntmps102
    go_wp2
    go_ret
    exact ⟨by simp, b1⟩

set_option maxRecDepth 100000 in
set_option maxHeartbeats 1000000 in
theorem landings_in (F : Fence) (n : Nat) (h5 : F.fn 83) (hro : F.round = none) (sa sb : Value) (w : World) :
    CallsIn F n Try.prog 83 #[.agg #[sa, sb]] w fun e w' => e = .returned (.func (.func 101) #[] #[.pointer (some ⟨w.heap.size, 0, none⟩)]) ∧ w' = w.alloc (.cells #[sa, sb] 63) := by
  refine callsIn_of_wp Try.func83 rfl h5 ?_ hro
  simp only [Try.ntmps83, List.size_toArray, List.length_cons, List.length_nil, Nat.reduceAdd, Nat.reduceSub, Array.replicate_succ, Array.replicate_zero, List.push_toArray, List.append_toArray, List.nil_append, List.cons_append]
  gi_wp2
  go_ret
  exact ⟨rfl, rfl⟩
end Go.Proofs.Ytjhhldfhfebboaa
