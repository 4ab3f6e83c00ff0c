/- StatesOf, the model's and the program's. No conditions. -/
import Derived.Test.YtdghbbnddgngoaaStV
import Derived.Test.YtdghbbnddgngoaaStG
namespace Go.Proofs.Ytdghbbnddgngoaa
open Go.RowKit
set_option linter.unusedSimpArgs false
set_option linter.unusedVariables false

/-- the states of a pattern before all beats of its period -/
def ofL (p : List Int) (h : Nat) : List Sta := (List.range p.length).map fun i : Nat => ((h : Int), ((ofM p (i : Int) h : Nat) : Int))
theorem ofL_len (p : List Int) (h : Nat) : (ofL p h).length = p.length := by simp [ofL]
theorem ofL_at (p : List Int) (h k : Nat) (hk : k < p.length) : (ofL p h).getD k s0 = ((h : Int), ((ofM p (k : Int) h : Nat) : Int)) := by simp [ofL, hk]
theorem ofL_take (p : List Int) (h k : Nat) (hk : k < p.length) : (ofL p h).take (k + 1) = (ofL p h).take k ++ [((h : Int), ((ofM p (k : Int) h : Nat) : Int))] := by
  rw [List.take_succ_eq_append_getElem (by rw [ofL_len]; exact hk)]
  simp [ofL]
/-- what StatesOf answers -/
def ofLA (p : List Int) (height : Int) : List Sta := if ofC p 0 height = 0 then ofL p height.toNat else []

theorem ofLA_len (p : List Int) (height : Int) : (ofLA p height).length ≤ 12 := by
  unfold ofLA
  split
  · rename_i h
    rw [ofL_len]
    exact (okPat_len (ofC_zero h).1).2
  · simp
theorem stV_one (y : Sta) : ∀ u ∈ stV y, u.oneCell' = true := by
  intro u hu
  simp only [stV, List.mem_cons, List.not_mem_nil, or_false] at hu
  rcases hu with rfl | rfl <;> rfl
theorem append_st (w0 : World) {ops : Array Oper} {rest : List Oper} {o : Oper} {a : Act} {Q : Exit → Act → World → Prop} (hgd : o.guard = none) (s x : Operand)
    (ho : o.op = .call { callee := .builtin .append, args := #[s, x], argTypes := #[53, 53] }) (B : Nat) (v : Value) (xs : List Sta) (hs : a.eval s = v) (h : Sts w0 B v xs) (y : Sta)
    (hx : a.eval x = .slice (some ⟨w0.heap.size, 0, none⟩) 1 1) (hlen : xs.length ≤ 1000000) (hB : B ≤ w0.heap.size)
    (hK : ∀ v' w', Sts w' B v' (xs ++ [y]) → w0.grownBy w' v.ownBlock → wpList Try.prog ops Q rest (a.put o.dst v') w') :
    wpList Try.prog ops Q (o :: rest) a (w0.alloc (.cells #[.int .i64 y.1, .int .i64 y.2] 60)) := by
  obtain ⟨i0, hi, hz0, hz1, hz2⟩ := info_parts Try.infoSt
  refine wpList_append_own (w0.alloc (.cells (stV y).toArray 60)) hgd s x 53 ho B 60 i0 (.agg #[.int .i64 0, .int .i64 0]) 2 16 Try.underlying53 hi hz0 hz1 hz2 rfl (by decide) v xs.length _ hs (World.ownsRow.alloc h _)
    ⟨w0.heap.size, 0, none⟩ 1 1 (stV y) hx rfl ?_ (stV_one y) (by unfold maxLen; omega) (by omega) (by simp; omega) ?_
  · intro j u hj
    match j, hj with
    | 0, hj => simp [stV] at hj; subst hj; simp [Addr.add, stV]
    | 1, hj => simp [stV] at hj; subst hj; simp [Addr.add, stV]
    | j + 2, hj => simp [stV] at hj
  · intro v' w' h1 h2 _
    refine hK v' w' ?_ ⟨h2.os, h2.tape, h2.output, by have := h2.size; simp at this; omega, fun k hk hne => ?_⟩
    · unfold Sts OwnK
      simpa using h1
    · rw [h2.block k (by simp; omega) hne]
      exact Below.heap_alloc _ _ _ hk

set_option maxRecDepth 10000 in
set_option maxHeartbeats 1000000 in
theorem l08States_any (v : Value) (B : Nat) (p : List Int) (h : Nat) (w : World) (hI : Ints w B v p) (hok : okPat p = true) (h1 : 1 ≤ h) (hh : h ≤ 10) :
    Calls Try.prog 85 #[v, .int .i64 h] w fun e w' => ∃ u, e = .returned u ∧ Sts w' w.heap.size u (ofL p h) ∧ Below w.heap.size w w' := by
  obtain ⟨l1, l2⟩ := okPat_len hok
  have HOf := Lib.hid (fun (k : Nat) W (hW : Below w.heap.size w W) (hk : k < p.length) => l08Of_any v B p (k : Int) h W (hI.below hW) hok (by omega) (by omega) h1 hh)
  have HT := Lib.hid (fun k (hk : k < p.length) => ofL_take p h k hk)
  have HL := Lib.hid (ofL_len p h)
  obtain ⟨xa, xc, rfl⟩ := ints_slO hI
  clear hI hok
  generalize p.length = n at *
  go_enter Try.func85, Try.ntmps85
  go_wp2
  go_loopw [5, 6] (fun v i wr => ∃ k : Nat, k ≤ n ∧ i = .int .i64 k ∧ Sts wr w.heap.size v ((ofL p h).take k) ∧ Below w.heap.size w wr) (fun _ i _ => n - (intOf i).toNat)
  case atStart => exact ⟨0, Nat.zero_le _, rfl, OwnK.empty _ _ _ _ (Nat.le_refl _), (Below.refl _ _).alloc (Nat.le_refl _) _⟩
  case round =>
    obtain ⟨k, hk, rfl, hi, hb⟩ := hrel
    by_cases hlt : k < n
    · have HF := HOf.out k wr hb hlt
      have HTK := Lib.hid (HT.out k hlt)
      have hlen : ((ofL p h).take k).length ≤ 1000000 := by simp; have := HL.out; omega
      have hBs := hb.size
      clear HOf HT
      generalize ofM p (k : Int) h = mk at *
      go_wp2_with fail
      refine HF.mono ?_
      rintro e w1 ⟨rfl, b1⟩
      have hi1 := hi.below b1
      have hb1 := hb.trans (b1.mono hb.size)
      have hBs1 := hb1.size
      clear HF hi hb
      go_wp2_with (at_builtin; refine append_st _ rfl _ _ rfl _ _ _ rfl hi1 ((h : Int), (mk : Int)) rfl hlen hBs1 ?_; intro v' w2 hi2 hg2; refine Hid.out ?_)
      have hb2 := hi1.below_grown hb1 hBs1 hg2
      rw [← HTK.out] at hi2
      clear hg2 hi1 hb1
      refine Lib.hid ?_
      go_wp2
      go_roundw
      case rel => exact ⟨k + 1, by omega, by go_num, hi2, hb2⟩
      case measure => simp [intOf]; omega
    · obtain rfl : k = n := by omega
      rw [List.take_of_length_le (by rw [HL.out]; exact Nat.le_refl _)] at hi
      clear HOf HT
      go_wp2
      go_ret
      exact ⟨_, rfl, hi, hb⟩

end Go.Proofs.Ytdghbbnddgngoaa
