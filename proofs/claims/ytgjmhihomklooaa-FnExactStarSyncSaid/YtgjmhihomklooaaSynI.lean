/- Synchronous patterns, the program's, first part: throws, lists, landings. No conditions. -/
import Derived.Test.YtgjmhihomklooaaSynU
import Derived.Test.YtgjmhihomklooaaImpl02
import Derived.Outline
namespace Go.Proofs.Ytgjmhihomklooaa
open Go.RowKit
set_option linter.unusedSimpArgs false
set_option linter.unusedVariables false

set_option maxRecDepth 10000 in
theorem isThrow_any (v : Int) (c : Bool) (w : World) :
    Calls Try.prog 131 #[.agg #[.int .i64 v, .bool c]] w fun e w' => e = .returned (.bool (okT (v, c))) ∧ Below w.heap.size w w' := by
  have b1 : Below w.heap.size w (w.alloc (.cells #[.int .i64 v, .bool c] 113)) := (Below.refl _ _).alloc (Nat.le_refl _) _
  by_cases h1 : v < 0
  · rw [okT_low (inB_false (by omega))]
    go_enter Try.func131, Try.ntmps131
    go_wp2
    go_ret
    exact ⟨rfl, b1⟩
  · by_cases h2 : 15 ≤ v
    · rw [okT_low (inB_false (by omega))]
      go_enter Try.func131, Try.ntmps131
      go_wp2
      go_ret
      exact ⟨rfl, b1⟩
    · by_cases h3 : v % 2 = 0
      · by_cases h4 : v = 0
        · subst h4
          rw [okT_zero]
          cases c with
          | true =>
            go_enter Try.func131, Try.ntmps131
            go_wp2
            go_ret
            exact ⟨rfl, b1⟩
          | false =>
            go_enter Try.func131, Try.ntmps131
            go_wp2
            go_ret
            exact ⟨rfl, b1⟩
        · rw [okT_pos (by omega) h3]
          have hd : (v % 2 != 0) = false := by simp [h3]
          have h5 : (v != 0) = true := by simp [h4]
          clear h3 h4
          go_enter Try.func131, Try.ntmps131
          go_wp2
          go_ret
          exact ⟨rfl, b1⟩
      · rw [okT_odd h3]
        have hd : (v % 2 != 0) = true := by simp [h3]
        clear h3
        go_enter Try.func131, Try.ntmps131
        go_wp2
        go_ret
        exact ⟨rfl, b1⟩

theorem below_al {w a : World} (h : Below w.heap.size w a) (o : Obj) : Below w.heap.size w (a.alloc o) := h.alloc h.size o
section
variable {α : Type} {k : Nat} {c : α → List Value} {e : TypeId}
theorem append_k (w : World) {ops : Array Oper} {rest : List Oper} {o : Oper} {a : Act} {Q : Exit → Act → World → Prop} (hgd : o.guard = none) (s x : Operand) (t : TypeId)
    (ho : o.op = .call { callee := .builtin .append, args := #[s, x], argTypes := #[t, t] }) (ht : Try.prog.underlying t = some (.slice e)) (z : Value) (bytes : Nat)
    (hinfo : (Try.prog.info? e).map (fun i => (i.zero, i.size, i.bytes)) = some (some z, k, bytes)) (hzs : z.cells.size = k) (hk0 : 0 < k) (hby : bytes ≤ 1000) (hk : ∀ x, (c x).length = k) (h1c : ∀ x, ∀ u ∈ c x, u.oneCell' = true)
    (B : Nat) (v : Value) (xs : List α) (hs : a.eval s = v) (h : OwnK e k c w B v xs) (ad : Addr) (m cx : Nat) (ys : List α) (hx : a.eval x = .slice (some ad) m cx) (hm : m = ys.length) (hm1 : 1 ≤ m) (hm2 : m ≤ 1000)
    (hcell : ∀ j u, (ys.flatMap c)[j]? = some u → w.cell? (ad.add j) = some u) (hlen : xs.length ≤ 1000000) (hB : B ≤ w.heap.size)
    (hK : ∀ g cap l w', l = xs.length + m → OwnK e k c w' B (.slice (some ⟨g, 0, none⟩) l cap) (xs ++ ys) → (∀ W, Below B W w → Below B W w') → wpList Try.prog ops Q rest (a.put o.dst (.slice (some ⟨g, 0, none⟩) l cap)) w') :
    wpList Try.prog ops Q (o :: rest) a w := by
  obtain ⟨i0, hi, hz0, hz1, hz2⟩ := info_parts hinfo
  refine Go.wpList_append_lies w hgd s x t ho B e i0 z k bytes ht hi hz0 hz1 hz2 hzs hk0 v xs.length _ hs h ad m cx (ys.flatMap c) hx (by rw [flat_len hk, hm]) hcell (fun u hu => by
    obtain ⟨y, _, hy⟩ := List.mem_flatMap.1 hu
    exact h1c y u hy) (by omega) (by unfold maxLen; omega) ?_ hB w.heap.size rfl ?_
  · exact Nat.le_trans (Nat.mul_le_mul (show xs.length + m ≤ 1001000 by omega) hby) (by decide)
  · intro g cap w' h1 h2 _ _
    refine hK g cap (xs.length + m) w' rfl ?_ fun W hW => h.below_grown hW hB h2
    unfold OwnK
    rw [List.length_append, List.flatMap_append, ← hm]
    exact h1
end

abbrev Thrs (w : World) (B : Nat) (v : Value) (xs : List Thr) : Prop := OwnK 113 2 thrV w B v xs
theorem Try.infoThr : (Try.prog.info? 113).map (fun i => (i.zero, i.size, i.bytes)) = some (some (.agg #[.int .i64 0, .bool false]), 2, 16) := by kernel_rfl
theorem lit_two {W : World} {b : Nat} {a : Int} {x : Bool} {d : Int} {y : Bool} (h0 : W.cell? ⟨b, 0, none⟩ = some (.int .i64 a)) (h1 : W.cell? ⟨b, 1, none⟩ = some (.bool x)) (h2 : W.cell? ⟨b, 2, none⟩ = some (.int .i64 d)) (h3 : W.cell? ⟨b, 3, none⟩ = some (.bool y)) :
    ∀ j u, ([(a, x), (d, y)].flatMap thrV)[j]? = some u → W.cell? ((⟨b, 0, none⟩ : Addr).add j) = some u := by
  intro j u hj
  match j, hj with
  | 0, hj => simp [thrV] at hj; subst hj; simpa [Addr.add] using h0
  | 1, hj => simp [thrV] at hj; subst hj; simpa [Addr.add] using h1
  | 2, hj => simp [thrV] at hj; subst hj; simpa [Addr.add] using h2
  | 3, hj => simp [thrV] at hj; subst hj; simpa [Addr.add] using h3
  | j + 4, hj => simp [thrV] at hj
theorem thrV_one (x : Thr) : ∀ u ∈ thrV x, u.oneCell' = true := by
  intro u hu
  simp only [thrV, List.mem_cons, List.not_mem_nil, or_false] at hu
  rcases hu with rfl | rfl <;> rfl

set_option maxRecDepth 10000 in
set_option maxHeartbeats 1000000 in
theorem throws_row (g cap n : Nat) (p : List Syn) (w : World) (hn1 : 1 ≤ n) (hn9 : n ≤ 6) (hn : n = p.length) (hg : g < w.heap.size) (hc : Beats w g n p) :
    Calls Try.prog 91 #[.slice (some ⟨g, 0, none⟩) n cap] w fun e w' => ∃ a c, e = .returned (.slice a (2 * n) c) ∧ Thrs w' w.heap.size (.slice a (2 * n) c) (thrs p) ∧ Below w.heap.size w w' := by
  have HC := Lib.hid hc
  have HT := Lib.hid (fun k (hk : k < n) => thrs_take p k (by omega))
  have HF : Hid (thrs (p.take n) = thrs p) := by unfold Hid; rw [List.take_of_length_le (by omega)]
  have HL := Lib.hid (fun k (hk : k ≤ n) => show (thrs (p.take k)).length = 2 * k from by rw [thrs_len, List.length_take]; omega)
  clear hc hn
  obtain ⟨i0, hi, hz0, hz1, hz2⟩ := info_parts Try.infoThr
  go_enter Try.func91, Try.ntmps91
  go_wp2_with (at_make; refine wpList_make_own _ rfl _ _ 116 rfl w.heap.size 113 i0 (.agg #[.int .i64 0, .bool false]) 2 Try.underlying116 hi hz0 hz1 _ _ _ (2 * n) rfl rfl rfl (by rw [hz2]; omega) (by unfold maxLen; omega) (Nat.le_refl _) ?_; intro w1 hown hgr; refine Hid.out ?_)
  have hI0 : Thrs w1 w.heap.size (.slice (some ⟨w.heap.size, 0, none⟩) 0 (2 * n)) (thrs (p.take 0)) := hown
  have b1 : Below w.heap.size w w1 := (Below.refl _ _).grown hgr (Nat.le_refl _) (by simp)
  clear hown hgr hi hz0 hz1 hz2
  refine Lib.hid ?_
  go_wp2
  go_loopw [3, 12] (fun o i wr => ∃ (k : Nat) (a : Option Addr) (c : Nat), k ≤ n ∧ i = .int .i64 k ∧ o = .slice a (2 * k) c ∧ Thrs wr w.heap.size (.slice a (2 * k) c) (thrs (p.take k)) ∧ Below w.heap.size w wr) (fun _ i _ => n - (intOf i).toNat)
  case atStart => exact ⟨0, _, _, Nat.zero_le _, rfl, rfl, hI0, b1⟩
  case round =>
    clear hI0 b1
    obtain ⟨k, a, c, hk, rfl, rfl, hI, hb⟩ := hrel
    by_cases hlt : k < n
    · obtain ⟨c0, c1, c2, c3⟩ := (HC.out k hlt).below hb hg
      have HN := Lib.hid (HT.out k hlt)
      have HLL := Lib.hid (HL.out k hk)
      have HII := Lib.hid hI
      clear HC HT HF HL hI
      generalize p.getD k s0 = y at *
      generalize thrs (p.take k) = zs at *
      obtain ⟨⟨y0, y1⟩, y2, y3⟩ := y
      simp only at c0 c1 c2 c3
      go_wp2_with (at_builtin; refine append_k _ rfl _ _ _ rfl Try.underlying116 _ 16 Try.infoThr rfl (by decide) (by decide) thrV_len thrV_one w.heap.size _ zs rfl (HII.out.below (by repeat (first | exact Below.refl _ _ | refine Below.drew ?_ | refine below_drewN ?_ _ | refine below_al ?_ _))) ⟨wr.heap.size + 1, 0, none⟩ 2 2 [(y0, y1), (y2, y3)] rfl rfl (by decide) (by decide) (lit_two (by simp) (by simp) (by simp) (by simp)) (by have := HLL.out; omega) (by have := hb.size; simp; omega) ?_; intro g4 c4 l4 w4 hl4 i4 f4; refine Hid.out ?_)
      have b4 := f4 w ((hb.alloc hb.size _).alloc (by have := hb.size; simp; omega) _)
      rw [← HN.out] at i4
      clear HII f4 c0 c1 c2 c3
      refine Lib.hid ?_
      go_wp2
      have e2 : zs.length + 2 = 2 * (k + 1) := by have := HLL.out; omega
      exact ⟨⟨k + 1, _, _, by omega, by go_num, by rw [e2], by rw [hl4, e2] at i4; exact i4, b4⟩, by simp [intOf]; omega⟩
    · obtain rfl : k = n := by omega
      rw [HF.out] at hI
      clear HC HT HF HL
      go_wp2
      go_ret
      exact ⟨_, _, rfl, hI, hb⟩
end Go.Proofs.Ytgjmhihomklooaa
