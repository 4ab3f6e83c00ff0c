/- Synchronous patterns, the model's, third part: mirrors, stars, slides. No conditions. -/
import Derived.Test.YtgjmhihomklooaaSynT
import Derived.Deep.AppendLies
import Derived.Deep.RegionLaw
namespace Go.Proofs.Ytgjmhihomklooaa
open Go.RowKit
set_option linter.unusedSimpArgs false
set_option linter.unusedVariables false

section
variable {α : Type} {k : Nat} {c : α → List Value} {e : TypeId}
theorem step_append_k (w : World) {ops : Array Oper} {o : Oper} {a : Act} {K : Act → World → Prop} {Q : Exit → Act → World → Prop} {E : Prop} (hgd : o.guard = none) (s x : Operand) (t : TypeId)
    (ho : o.op = .call { callee := .builtin .append, args := #[s, x], argTypes := #[t, t] }) (ht : Try.prog.underlying t = some (.slice e)) (z : Value) (bytes : Nat)
    (hinfo : (Try.prog.info? e).map (fun i => (i.zero, i.size, i.bytes)) = some (some z, k, bytes)) (hzs : z.cells.size = k) (hk0 : 0 < k) (hby : bytes ≤ 1000) (hk : ∀ x, (c x).length = k) (h1c : ∀ x, ∀ u ∈ c x, u.oneCell' = true)
    (B : Nat) (v : Value) (xs : List α) (hs : a.eval s = v) (h : OwnK e k c w B v xs) (ad : Addr) (m cx : Nat) (ys : List α) (hx : a.eval x = .slice (some ad) m cx) (hm : m = ys.length) (hm1 : 1 ≤ m) (hm2 : m ≤ 1000)
    (hcell : ∀ j u, (ys.flatMap c)[j]? = some u → w.cell? (ad.add j) = some u) (hlen : xs.length ≤ 1000000) (hB : B ≤ w.heap.size)
    (hK : ∀ g cap l w', l = xs.length + m → OwnK e k c w' B (.slice (some ⟨g, 0, none⟩) l cap) (xs ++ ys) → (∀ W, Below B W w → Below B W w') → K (a.put o.dst (.slice (some ⟨g, 0, none⟩) l cap)) w') :
    if Region.wanted o (yielded ops a.tmps) = true then Oper.wp Try.prog o a w K Q else E := by
  obtain ⟨i0, hi, hz0, hz1, hz2⟩ := info_parts hinfo
  refine step_append_lies w hgd s x t ho B e i0 z k bytes ht hi hz0 hz1 hz2 hzs hk0 v xs.length _ hs h ad m cx (ys.flatMap c) hx (by rw [flat_len hk, hm]) hcell (fun u hu => by
    obtain ⟨y, _, hy⟩ := List.mem_flatMap.1 hu
    exact h1c y u hy) (by omega) (by unfold maxLen; omega) ?_ hB w.heap.size rfl ?_
  · exact Nat.le_trans (Nat.mul_le_mul (show xs.length + m ≤ 1001000 by omega) hby) (by decide)
  · intro g cap w' h1 h2 _ _
    refine hK g cap (xs.length + m) w' rfl ?_ fun W hW => h.below_grown hW hB h2
    unfold OwnK
    rw [List.length_append, List.flatMap_append, ← hm]
    exact h1
end

theorem lit_syn {W : World} {b : Nat} {a : Int} {x : Bool} {d : Int} {y : Bool} (h0 : W.cell? ⟨b, 0, none⟩ = some (.int .i64 a)) (h1 : W.cell? ⟨b, 1, none⟩ = some (.bool x)) (h2 : W.cell? ⟨b, 2, none⟩ = some (.int .i64 d)) (h3 : W.cell? ⟨b, 3, none⟩ = some (.bool y)) :
    ∀ j u, ([((a, x), (d, y))].flatMap synV)[j]? = some u → W.cell? ((⟨b, 0, none⟩ : Addr).add j) = some u := by
  intro j u hj
  match j, hj with
  | 0, hj => simp [synV] at hj; subst hj; simpa [Addr.add] using h0
  | 1, hj => simp [synV] at hj; subst hj; simpa [Addr.add] using h1
  | 2, hj => simp [synV] at hj; subst hj; simpa [Addr.add] using h2
  | 3, hj => simp [synV] at hj; subst hj; simpa [Addr.add] using h3
  | j + 4, hj => simp [synV] at hj
theorem synV_one (x : Syn) : ∀ u ∈ synV x, u.oneCell' = true := by
  intro u hu
  simp only [synV, List.mem_cons, List.not_mem_nil, or_false] at hu
  rcases hu with rfl | rfl | rfl | rfl <;> rfl

set_option maxRecDepth 10000 in
set_option maxHeartbeats 1000000 in
theorem l05Mirror_row (g cap n : Nat) (p : List Syn) (w : World) (hn9 : n ≤ 6) (hn : n = p.length) (hg : g < w.heap.size) (hc : Beats w g n p) :
    Calls Try.prog 83 #[.slice (some ⟨g, 0, none⟩) n cap] w fun e w' => ∃ a c, e = .returned (.slice a n c) ∧ Syns w' w.heap.size (.slice a n c) (mirS p) ∧ Below w.heap.size w w' := by
  have HC := Lib.hid hc
  have HT := Lib.hid (fun k (hk : k < n) => mirS_take p k (by omega))
  have HF : Hid ((mirS p).take n = mirS p) := List.take_of_length_le (by rw [mirS_len]; omega)
  have HL := Lib.hid (fun k (hk : k ≤ n) => show ((mirS p).take k).length = k from by rw [List.length_take, mirS_len]; omega)
  clear hc hn
  go_enter Try.func83, Try.ntmps83
  go_wp2
  go_loopw [3, 4] (fun o i wr => ∃ (k : Nat) (a : Option Addr) (c : Nat), k ≤ n ∧ i = .int .i64 k ∧ o = .slice a k c ∧ Syns wr w.heap.size (.slice a k c) ((mirS p).take k) ∧ Below w.heap.size w wr) (fun _ i _ => n - (intOf i).toNat)
  case atStart => exact ⟨0, some ⟨w.heap.size, 0, none⟩, 0, Nat.zero_le _, rfl, rfl, OwnK.empty _ _ _ _ (Nat.le_refl _), (Below.refl _ _).alloc (Nat.le_refl _) _⟩
  case round =>
    obtain ⟨k, a, c, hk, rfl, rfl, hI, hb⟩ := hrel
    by_cases hlt : k < n
    · obtain ⟨c0, c1, c2, c3⟩ := (HC.out k hlt).below hb hg
      have HN := Lib.hid (HT.out k hlt)
      have HLL := Lib.hid (HL.out k hk)
      have HII := Lib.hid hI
      clear HC HT HF HL hI
      generalize p.getD k s0 = y at *
      generalize (mirS p).take k = zs at *
      obtain ⟨⟨y0, y1⟩, y2, y3⟩ := y
      simp only at c0 c1 c2 c3
      go_wp2
      go_region_law (first | (refine step_append_k _ rfl _ _ _ rfl Try.underlying44 _ 32 Try.infoSyn rfl (by decide) (by decide) synV_len synV_one w.heap.size _ zs rfl (HII.out.below (by repeat (first | exact Below.refl _ _ | refine Below.drew ?_ | refine below_drewN ?_ _ | refine Below.alloc ?_ (Nat.le_refl _) _))) ⟨wr.heap.size, 0, none⟩ 1 1 [((y2, y3), (y0, y1))] rfl rfl (by decide) (by decide) (lit_syn (by simp) (by simp) (by simp) (by simp)) (by have := HLL.out; omega) (by have := hb.size; simp; omega) ?_; intro g4 c4 l4 w4 hl4 i4 f4))
      all_goals
        have b4 := f4 w (by repeat (first | exact hb | refine Below.drew ?_ | refine below_drewN ?_ _ | refine Below.alloc ?_ (by have := hb.size; simp; omega) _))
        clear f4
        rw [← HN.out] at i4
        clear HII c0 c1 c2 c3
      all_goals go_wp2
      all_goals
        have e := HLL.out
        subst e
        exact ⟨⟨zs.length + 1, _, _, by omega, by go_num, rfl, by rw [hl4] at i4; exact i4, b4⟩, by simp [intOf]; omega⟩
    · obtain rfl : k = n := by omega
      rw [HF.out] at hI
      clear HC HT HF HL
      go_wp2
      go_ret
      exact ⟨_, _, rfl, hI, hb⟩

theorem l05Mirror_any (v : Value) (B : Nat) (p : List Syn) (w : World) (h : Syns w B v p) (h1 : 1 ≤ p.length) (h6 : p.length ≤ 6) :
    Calls Try.prog 83 #[v] w fun e w' => ∃ u, e = .returned u ∧ Syns w' w.heap.size u (mirS p) ∧ Below w.heap.size w w' := by
  obtain ⟨g, cap, rfl, _, hg, _, _⟩ := h.shape2 h1
  exact (l05Mirror_row g cap p.length p w h6 rfl hg h.beats).mono fun e w' ⟨a, c, h1, h2, h3⟩ => ⟨_, h1, h2, h3⟩

set_option maxRecDepth 10000 in
theorem mirrorSync_spec (v : Value) (B : Nat) (p : List Syn) (w : World) (h : Syns w B v p) :
    Calls Try.prog 31 #[v] w fun e w' => ∃ u, e = .returned (.tuple #[u, .int .i64 (okSC p)]) ∧ Syns w' w.heap.size u (mirR p) ∧ Below w.heap.size w w' := by
  have HO := l05Ok_any v B p w h
  cases hok : okS p with
  | false =>
    rw [okSC_false hok, mirR, if_neg (by simp [hok])]
    rw [hok] at HO
    clear h hok
    go_enter Try.func31, Try.ntmps31
    go_wp2_with fail
    refine HO.mono ?_
    rintro e w1 ⟨rfl, b1⟩
    clear HO
    go_wp2
    go_ret2
    exact ⟨_, rfl, OwnK.nil _ _ _ _ _, b1⟩
  | true =>
    rw [okSC_true hok, mirR, if_pos hok]
    rw [hok] at HO
    have hl := okSL_len (okS_list hok)
    have HM := fun W (hW : Below w.heap.size w W) => l05Mirror_any v B p W (h.below hW) hl.1 hl.2
    clear h hok hl
    go_enter Try.func31, Try.ntmps31
    go_wp2_with fail
    refine HO.mono ?_
    rintro e w1 ⟨rfl, b1⟩
    clear HO
    go_wp2_with fail
    refine (HM _ b1).mono ?_
    rintro e w2 ⟨u, rfl, i2, b2⟩
    have i3 := i2.mono b1.size
    replace b1 := b1.trans (b2.mono b1.size)
    clear HM b2 i2
    go_wp2
    go_ret2
    exact ⟨_, rfl, i3, b1⟩

/-! ### slides -/
end Go.Proofs.Ytgjmhihomklooaa
