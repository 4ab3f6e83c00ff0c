/- The model's drawn patterns: pure facts on landings that are drawn, and the source's method one. No conditions. -/
import Derived.Test.YtlpeigeadjojnaaSrc
import Derived.Test.YtlpeigeadjojnaaSpec02b
import Derived.Test.YtlpeigeadjojnaaPat
namespace Go.Proofs.Ytlpeigeadjojnaa
open Go.RowKit
set_option linter.unusedSimpArgs false
set_option linter.unusedVariables false

theorem one_any (a : Option Addr) (len cap b k : Nat) (m : Int) (zs : List Int) (w : World) (hs : Src w b k (.slice a len cap)) (hr : IsRow .u8 w a len cap zs) (hlen : len ≤ 1000000000) (hk : k ≤ 1000000000) (hm : m ≤ 200) :
    Calls Try.prog 38 #[.pointer (some ⟨b, 0, none⟩), .int .i64 m] w fun e w' => ∃ x : Bool, e = .returned (.bool x) ∧ Src w' b (k + 1) (.slice a len cap) ∧ w.grownBy w' (some b) := by
  have HP := pick_any a len cap b k m zs w hs hr hlen hk hm
  go_enter Try.func38, Try.ntmps38
  go_wp2_with fail
  refine HP.mono ?_
  rintro e w' ⟨x, rfl, hx, hs', hg⟩
  go_wp2
  go_ret
  exact ⟨_, rfl, hs', hg⟩

/-- the numbers 0 .. k-1 in whatever order -/
def IsPerm (l : List Int) (k : Nat) : Prop := l.length = k ∧ (∀ i, i < k → 0 ≤ l.getD i 0 ∧ l.getD i 0 < k) ∧ ∀ i j, i < j → j < k → l.getD i 0 ≠ l.getD j 0
theorem IsPerm.nil : IsPerm [] 0 := ⟨rfl, fun i hi => by omega, fun i j _ hj => by omega⟩
theorem getD_set (l : List Int) (i j : Nat) (x : Int) (hi : i < l.length) : (l.set i x).getD j 0 = if j = i then x else l.getD j 0 := by
  by_cases h : j = i
  · subst h
    rw [if_pos rfl, List.getD_eq_getElem?_getD, List.getElem?_set_self hi]
    rfl
  · rw [if_neg h, List.getD_eq_getElem?_getD, List.getElem?_set_ne (Ne.symm h), List.getD_eq_getElem?_getD]
theorem getD_push (l : List Int) (j : Nat) (x : Int) : (l ++ [x]).getD j 0 = if j = l.length then x else l.getD j 0 := by
  by_cases h : j = l.length
  · subst h
    rw [if_pos rfl, List.getD_eq_getElem?_getD]
    simp
  · rw [if_neg h]
    by_cases h' : j < l.length
    · rw [List.getD_eq_getElem?_getD, List.getElem?_append_left h', List.getD_eq_getElem?_getD]
    · rw [List.getD_eq_getElem?_getD, List.getElem?_eq_none (by simp; omega), List.getD_eq_getElem?_getD, List.getElem?_eq_none (by omega)]
/-- the number k comes in at the place 'at', what stood there moves to the end -/
theorem IsPerm.more {l : List Int} {k p : Nat} (h : IsPerm l k) (hp : p ≤ k) : IsPerm (((l ++ [(k : Int)]).set k ((l ++ [(k : Int)]).getD p 0)).set p k) (k + 1) := by
  obtain ⟨hl, hb, hd⟩ := h
  have hg : ∀ j, (((l ++ [(k : Int)]).set k ((l ++ [(k : Int)]).getD p 0)).set p k).getD j 0 = if j = p then (k : Int) else if j = k then (if p = k then (k : Int) else l.getD p 0) else l.getD j 0 := by
    intro j
    rw [getD_set _ _ _ _ (by simp; omega), getD_set _ _ _ _ (by simp; omega), getD_push, getD_push, hl]
    by_cases h1 : j = p
    · rw [if_pos h1, if_pos h1]
    · rw [if_neg h1, if_neg h1]
      by_cases h2 : j = k
      · rw [if_pos h2, if_pos h2]
      · rw [if_neg h2, if_neg h2, if_neg h2]
  refine ⟨by simp [hl], fun i hi => ?_, fun i j hij hj => ?_⟩
  · rw [hg]
    by_cases h1 : i = p
    · rw [if_pos h1]; omega
    · rw [if_neg h1]
      by_cases h2 : i = k
      · rw [if_pos h2]
        by_cases h3 : p = k
        · omega
        · rw [if_neg h3]; have := hb p (by omega); omega
      · rw [if_neg h2]; have := hb i (by omega); omega
  · rw [hg, hg]
    by_cases h1 : i = p
    · subst h1
      rw [if_pos rfl, if_neg (by omega)]
      by_cases h2 : j = k
      · rw [if_pos h2, if_neg (by omega)]
        have := hb i (by omega)
        omega
      · rw [if_neg h2]
        have := hb j (by omega)
        omega
    · rw [if_neg h1, if_neg (by omega : ¬ i = k)]
      by_cases h2 : j = p
      · rw [if_pos h2]
        have := hb i (by omega)
        omega
      · rw [if_neg h2]
        by_cases h3 : j = k
        · rw [if_pos h3, if_neg (by omega)]
          rcases Nat.lt_trichotomy i p with h | h | h
          · exact hd i p h (by omega)
          · exact absurd h h1
          · exact Ne.symm (hd p i h (by omega))
        · rw [if_neg h3]
          exact hd i j hij (by omega)
theorem IsPerm.okPat {l p : List Int} {n : Nat} (h : IsPerm l n) (h1 : 1 ≤ n) (h2 : n ≤ 12) (hp : p.length = n) (hx : ∀ i, i < n → 0 ≤ p.getD i 0 ∧ p.getD i 0 ≤ 15) (hm : ∀ i, i < n → ((i : Int) + p.getD i 0) % (n : Int) = l.getD i 0) : okPat p = true := by
  have hL : okList p = true := by
    unfold okList
    rw [inB_true (by omega), Bool.and_true, List.all_eq_true]
    intro x hxm
    obtain ⟨i, hi, rfl⟩ := List.getElem_of_mem hxm
    have := hx i (by omega)
    rw [List.getD_eq_getElem?_getD, List.getElem?_eq_getElem hi] at this
    exact inB_true this
  have hD : distinct (lnd p) p.length := by
    intro i j hij hj
    have e1 : lnd p i = l.getD i 0 := by rw [lnd, hp]; exact hm i (by omega)
    have e2 : lnd p j = l.getD j 0 := by rw [lnd, hp]; exact hm j (by omega)
    rw [e1, e2]
    exact h.2.2 i j hij (by omega)
  rw [Proofs.Ytlpeigeadjojnaa.okPat, hL, clash_none hD]
  rfl

theorem IsRow.grown {w w' : World} {k : IntKind} {a : Option Addr} {len cap : Nat} {zs : List Int} {r : Option Nat} (h : IsRow k w a len cap zs) (hg : w.grownBy w' r) (hr : ∀ x, a = some x → 0 < zs.length → some x.block ≠ r) : IsRow k w' a len cap zs := by
  rcases h with h | ⟨x, h1, h2, h3, h4, hc, h6⟩
  · exact .inl h
  · exact .inr ⟨x, h1, h2, h3, h4, fun i hi => hg.cell (hc i hi) (by have := hr x h1 (by omega); unfold Addr.add; by_cases h0 : i = 0 <;> simpa [h0] using this), h6⟩

theorem grown_new {w wr : World} {r : Option Nat} (h : w.grownBy wr r) {g : Nat} (j : Nat) (hg : w.heap.size ≤ g) (v : Value) : w.grownBy (wr.setCell ⟨g, j, none⟩ v) r :=
  ⟨h.os, h.tape, h.output, by simpa using h.size, fun k hk hne => by rw [Below.heap_setCell _ _ _ _ (by simp; omega)]; exact h.block k hk hne⟩
theorem Src.set {w : World} {b k : Nat} {cv : Value} (h : Src w b k cv) {g : Nat} (j : Nat) (hg : b ≠ g) (v : Value) : Src (w.setCell ⟨g, j, none⟩ v) b k cv := by
  obtain ⟨n, seed, hn, h⟩ := h
  refine ⟨n, seed, hn, ?_⟩
  unfold SrcAt at *
  rw [Below.heap_setCell _ _ _ _ (by simpa using hg)]
  exact h

end Go.Proofs.Ytlpeigeadjojnaa
