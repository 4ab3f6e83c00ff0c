/- TogetherOf, the model's and the program's: both juggle alone. No conditions. -/
import Derived.Test.YtomhhognfpfacaaPasW
import Derived.Test.YtomhhognfpfacaaImpl02
import Derived.Test.YtomhhognfpfacaaLens
namespace Go.Proofs.Ytomhhognfpfacaa
open Go.RowKit
set_option linter.unusedSimpArgs false
set_option linter.unusedVariables false

/-- the throws of a juggler who passes nothing -/
def selfP (p : List Int) : List Pt := p.map fun v => (v, false)
theorem selfP_len (p : List Int) : (selfP p).length = p.length := by simp [selfP]
theorem selfP_take (p : List Int) (k : Nat) (hk : k < p.length) : (selfP p).take (k + 1) = (selfP p).take k ++ [(p.getD k 0, false)] := by
  rw [List.take_succ_eq_append_getElem (by rw [selfP_len]; exact hk)]
  simp [selfP, hk]
theorem selfP_at (p : List Int) (k : Nat) (hk : k < p.length) : (selfP p).getD k p0 = (p.getD k 0, false) := by simp [selfP, hk]
def togOk (a b : List Int) : Bool := okPat a && okPat b && decide (a.length = b.length) && decide (a.length ≤ 8)
def togC (a b : List Int) : Int := if okPat a && okPat b then (if a.length = b.length then (if a.length ≤ 8 then 0 else 5) else 6) else 1
def togA (a b : List Int) : List Pt := if togOk a b then selfP a else []
def togB (a b : List Int) : List Pt := if togOk a b then selfP b else []

theorem pasV_one (y : Pt) : ∀ u ∈ pasV y, u.oneCell' = true := by
  intro u hu
  simp only [pasV, List.mem_cons, List.not_mem_nil, or_false] at hu
  rcases hu with rfl | rfl <;> rfl
theorem append_pas (w0 : World) {ops : Array Oper} {rest : List Oper} {o : Oper} {a : Act} {Q : Exit → Act → World → Prop} (hgd : o.guard = none) (s x : Operand)
    (ho : o.op = .call { callee := .builtin .append, args := #[s, x], argTypes := #[42, 42] }) (B : Nat) (v : Value) (xs : List Pt) (hs : a.eval s = v) (h : Pas w0 B v xs) (y : Pt)
    (hx : a.eval x = .slice (some ⟨w0.heap.size, 0, none⟩) 1 1) (hlen : xs.length ≤ 1000000) (hB : B ≤ w0.heap.size)
    (hK : ∀ v' w', Pas w' B v' (xs ++ [y]) → w0.grownBy w' v.ownBlock → wpList Try.prog ops Q rest (a.put o.dst v') w') :
    wpList Try.prog ops Q (o :: rest) a (w0.alloc (.cells #[.int .i64 y.1, .bool y.2] 93)) := by
  obtain ⟨i0, hi, hz0, hz1, hz2⟩ := info_parts Try.infoPas
  refine wpList_append_own (w0.alloc (.cells (pasV y).toArray 93)) hgd s x 42 ho B 93 i0 (.agg #[.int .i64 0, .bool false]) 2 16 Try.underlying42 hi hz0 hz1 hz2 rfl (by decide) v xs.length _ hs (World.ownsRow.alloc h _)
    ⟨w0.heap.size, 0, none⟩ 1 1 (pasV y) hx rfl ?_ (pasV_one y) (by unfold maxLen; omega) (by omega) (by simp; omega) ?_
  · intro j u hj
    match j, hj with
    | 0, hj => simp [pasV] at hj; subst hj; simp [Addr.add, pasV]
    | 1, hj => simp [pasV] at hj; subst hj; simp [Addr.add, pasV]
    | j + 2, hj => simp [pasV] at hj
  · intro v' w' h1 h2 _
    refine hK v' w' ?_ ⟨h2.os, h2.tape, h2.output, by have := h2.size; simp at this; omega, fun k hk hne => ?_⟩
    · unfold Pas OwnK
      simpa using h1
    · rw [h2.block k (by simp; omega) hne]
      exact Below.heap_alloc _ _ _ hk

theorem row_cells {w : World} {B : Nat} {v : Value} {p : List Int} (h : Ints w B v p) (h1 : 1 ≤ p.length) : ∃ g c, v = .slice (some ⟨g, 0, none⟩) p.length c ∧ g < w.heap.size ∧ ∀ i, i < p.length → w.cell? ⟨g, i, none⟩ = some (.int .i64 (p.getD i 0)) := by
  obtain ⟨g, c, rfl, _, hg, _⟩ := h.shape.resolve_left fun e => by rw [e.2] at h1; simp at h1
  exact ⟨g, c, rfl, hg, fun i hi => h.cell i hi⟩

set_option maxRecDepth 10000 in
set_option maxHeartbeats 1000000 in
theorem l06Self_row (g n c : Nat) (p : List Int) (w : World) (hn : n = p.length) (hn12 : n ≤ 12) (hg : g < w.heap.size) (hc : ∀ i, i < n → w.cell? ⟨g, i, none⟩ = some (.int .i64 (p.getD i 0))) :
    Calls Try.prog 103 #[.slice (some ⟨g, 0, none⟩) n c] w fun e w' => ∃ u, e = .returned u ∧ Pas w' w.heap.size u (selfP p) ∧ Below w.heap.size w w' := by
  have HT := Lib.hid (fun k (hk : k < n) => selfP_take p k (by omega))
  have HL : Hid ((selfP p).length = n) := by unfold Hid; rw [selfP_len, hn]
  have HC := Lib.hid hc
  clear hn hc
  go_enter Try.func103, Try.ntmps103
  go_wp2
  go_loopw [3, 4] (fun v i wr => ∃ k : Nat, k ≤ n ∧ i = .int .i64 k ∧ Pas wr w.heap.size v ((selfP p).take k) ∧ Below w.heap.size w wr) (fun _ i _ => n - (intOf i).toNat)
  case atStart => exact ⟨0, Nat.zero_le _, rfl, OwnK.empty _ _ _ _ (Nat.le_refl _), (Below.refl _ _).alloc (Nat.le_refl _) _⟩
  case round =>
    obtain ⟨k, hk, rfl, hi, hb⟩ := hrel
    by_cases hlt : k < n
    · have hcx := (hb.cell (p := ⟨g, k, none⟩) hg).trans (HC.out k hlt)
      have HTK := Lib.hid (HT.out k hlt)
      have hlen : ((selfP p).take k).length ≤ 1000000 := by simp; have := HL.out; omega
      have hBs := hb.size
      clear HC HT
      generalize p.getD k 0 = x at *
      go_wp2_with (at_builtin; refine append_pas _ rfl _ _ rfl _ _ _ rfl hi (x, false) rfl hlen hBs ?_; intro v' w1 hi1 hg1; refine Hid.out ?_)
      have hb1 := hi.below_grown hb hBs hg1
      rw [← HTK.out] at hi1
      clear hg1 hi hb
      refine Lib.hid ?_
      go_wp2
      go_roundw
      case rel => exact ⟨k + 1, by omega, by go_num, hi1, hb1⟩
      case measure => simp [intOf]; omega
    · obtain rfl : k = n := by omega
      rw [List.take_of_length_le (by rw [HL.out]; exact Nat.le_refl _)] at hi
      go_wp2
      go_ret
      exact ⟨_, rfl, hi, hb⟩

set_option maxRecDepth 10000 in
set_option maxHeartbeats 1000000 in
theorem throwsAlone_row (g n c : Nat) (p : List Int) (w : World) (hn : n = p.length) (hn12 : n ≤ 12) (hg : g < w.heap.size) (hc : ∀ i, i < n → w.cell? ⟨g, i, none⟩ = some (.int .i64 (p.getD i 0))) :
    Calls Try.prog 102 #[.slice (some ⟨g, 0, none⟩) n c] w fun e w' => ∃ u, e = .returned u ∧ Pas w' w.heap.size u (selfP p) ∧ Below w.heap.size w w' := by
  obtain ⟨i0, hi, hz0, hz1, hz2⟩ := info_parts Try.infoPas
  have hsl := selfP_len p
  rw [← hn] at hsl
  have HGD := Lib.hid (fun k (hk : k < n) => selfP_at p k (by omega))
  have HC := Lib.hid hc
  clear hn hc
  go_enter Try.func102, Try.ntmps102
  go_wp2_with (at_make; refine wpList_make_full _ rfl _ _ 42 rfl w.heap.size 93 i0 (.agg #[.int .i64 0, .bool false]) 2 Try.underlying42 hi hz0 hz1 _ _ _ _ n rfl rfl rfl rfl (by rw [hz2]; omega) (by unfold maxLen; omega) (Nat.le_refl _) ?_; intro w1 hown hgr; refine Hid.out ?_)
  have h1 : Pas w1 w.heap.size (.slice (some ⟨w.heap.size, 0, none⟩) n n) ((selfP p).take 0 ++ List.replicate (n - 0) p0) := by
    have e := made_flat pasV_len p0 n (by decide)
    unfold Pas OwnK
    rw [List.take_zero, List.nil_append, Nat.sub_zero, List.length_replicate, ← e]
    exact hown
  have hb1 : Below w.heap.size w w1 := (Below.refl _ _).grown hgr (Nat.le_refl _) (by simp)
  clear hown hgr hi hz0 hz1 hz2
  refine Lib.hid ?_
  go_wp2
  go_loopw [11] (fun i wr => ∃ k : Nat, k ≤ n ∧ i = .int .i64 k ∧ Pas wr w.heap.size (.slice (some ⟨w.heap.size, 0, none⟩) n n) ((selfP p).take k ++ List.replicate (n - k) p0) ∧ Below w.heap.size w wr) (fun i _ => n - (intOf i).toNat)
  case atStart => exact ⟨0, Nat.zero_le _, rfl, h1, hb1⟩
  case round =>
    obtain ⟨k, hk, rfl, hr, hbr⟩ := hrel
    by_cases hlt : k < n
    · have hcx := (hbr.cell (p := ⟨g, k, none⟩) hg).trans (HC.out k hlt)
      have hlk : ((selfP p).take k).length = k := by rw [List.length_take, hsl]; omega
      have hkl : k < ((selfP p).take k ++ List.replicate (n - k) p0).length := by rw [List.length_append, hlk, List.length_replicate]; omega
      have hz : ((selfP p).take k ++ List.replicate (n - k) p0).getD k p0 = p0 := by
        rw [List.getD_eq_getElem?_getD, List.getElem?_append_right (by omega), hlk, Nat.sub_self, List.getElem?_replicate]
        split <;> rfl
      obtain ⟨d0, d1⟩ := hr.twoP k hkl
      rw [hz] at d0 d1
      have f0 := hr.free (k * 2)
      have hN := hr.put pasV_len p0 k 0 (.int .i64 (p.getD k 0)) ((p.getD k 0), false) hkl (by decide) (by rw [hz]; rfl)
      have e := take_set_pas (selfP p) n k hlt (by omega)
      rw [HGD.out k hlt] at e
      rw [e] at hN
      have HNN := Lib.hid hN
      have hbn := Lib.hid (hbr.setCell (p := ⟨w.heap.size, k * 2 + 0, none⟩) (Nat.le_refl _) (.int .i64 (p.getD k 0)))
      clear h1 hb1 HC HGD hN e hr hbr hz hkl hlk
      generalize p.getD k 0 = x at *
      simp only [p0, Nat.add_zero] at d0 d1 HNN hbn
      go_wp2
      go_roundw
      case rel => exact ⟨k + 1, by omega, by go_num, HNN.out, hbn.out⟩
      case measure => simp [intOf]; omega
    · obtain rfl : k = n := by omega
      clear h1 hb1
      have hfin : Pas wr w.heap.size (.slice (some ⟨w.heap.size, 0, none⟩) k k) (selfP p) := by simpa [List.take_of_length_le (Nat.le_of_eq hsl)] using hr
      go_wp2
      go_ret
      exact ⟨_, rfl, hfin, hbr⟩
end Go.Proofs.Ytomhhognfpfacaa
