/- Multiplex: AddMulti, the model's. Conditions: both are patterns of one period. -/
import Derived.Test.YtgjmhihomklooaaRotM
import Derived.Test.YtgjmhihomklooaaAddL
import Derived.Test.YtgjmhihomklooaaSortS
namespace Go.Proofs.Ytgjmhihomklooaa
open Go.RowKit
set_option linter.unusedSimpArgs false
set_option linter.unusedVariables false

/-- what AddMulti answers for patterns of one period -/
def addR (p q : List (List Int)) : List (List Int) := if okM (addG p q) then addG p q else []
def addK (p q : List (List Int)) : Int := if okM (addG p q) then 0 else 5

/-- 'append(own numbers, other numbers...)' at a step of a region that draws its order -/
theorem step_append_more (w : World) {ops : Array Oper} {o : Oper} {a : Act} {K : Act → World → Prop} {Q : Exit → Act → World → Prop} {E : Prop} (hgd : o.guard = none) (s x : Operand)
    (ho : o.op = .call { callee := .builtin .append, args := #[s, x], argTypes := #[32, 32] }) (B : Nat) (v : Value) (xs : List Int) (hs : a.eval s = v) (h : Ints w B v xs) (G m cx : Nat) (ys : List Int)
    (hx : a.eval x = .slice (some ⟨G, 0, none⟩) m cx) (hm : m = ys.length) (hm1 : 1 ≤ m) (hm2 : m ≤ 100) (hcell : ∀ j, j < m → w.cell? ⟨G, j, none⟩ = some (.int .i64 (ys.getD j 0))) (hlen : xs.length ≤ 1000000) (hB : B ≤ w.heap.size)
    (hK : ∀ g cap l w', Ints w' B (.slice (some ⟨g, 0, none⟩) l cap) (xs ++ ys) → w.grownBy w' v.ownBlock → K (a.put o.dst (.slice (some ⟨g, 0, none⟩) l cap)) w') :
    if Region.wanted o (yielded ops a.tmps) = true then Oper.wp Try.prog o a w K Q else E := by
  obtain ⟨i0, hi, hz0, hz1, hz2⟩ := info_parts Try.info64
  refine step_append_lies w hgd s x 32 ho B 2 i0 (.int .i64 0) 1 8 Try.underlying32 hi hz0 hz1 hz2 rfl (by decide) v xs.length _ hs h ⟨G, 0, none⟩ m cx (ys.map (Value.int .i64)) hx (by simp [hm]) ?_ ?_ (by omega) (by unfold maxLen; omega) (by omega) hB w.heap.size rfl ?_
  · intro j u hj
    obtain ⟨hj1, hj2⟩ := List.getElem?_eq_some_iff.1 hj
    have hj3 : j < m := by simp at hj1; omega
    have := hcell j hj3
    simp at hj1 hj2
    subst hj2
    by_cases hj0 : j = 0
    · subst hj0; simpa [Addr.add, hj1] using this
    · simpa [Addr.add, hj0, hj1] using this
  · intro u hu; simp at hu; obtain ⟨y, _, rfl⟩ := hu; rfl
  · intro g cap w' h1 h2 _ _
    refine hK g cap (xs.length + m) w' ?_ h2
    unfold Ints
    simpa [hm] using h1

set_option maxRecDepth 10000 in
set_option maxHeartbeats 1000000 in
theorem addMulti_specR (g cap g' cap' n : Nat) (E E' : TypeId) (B C B' C' : Nat) (p q : List (List Int)) (w : World) (h : Grid E w B C (.slice (some ⟨g, 0, none⟩) n cap) p) (h' : Grid E' w B' C' (.slice (some ⟨g', 0, none⟩) n cap') q) (hn : n = p.length) (hn' : n = q.length) (hg : g < w.heap.size) (hg' : g' < w.heap.size) (hok : okM p = true) (hok' : okM q = true) :
    Calls Try.prog 13 #[.agg #[.slice (some ⟨g, 0, none⟩) n cap], .agg #[.slice (some ⟨g', 0, none⟩) n cap']] w fun e w' => ∃ x y z, e = .returned (.tuple #[.agg #[.slice x y z], .int .i64 (addK p q)]) ∧ Grid 32 w' w.heap.size w'.heap.size (.slice x y z) (addR p q) ∧ Below w.heap.size w w' := by
  have HO := fun W a (hW : Below w.heap.size w W) (hp : W.cell? a = some (.slice (some ⟨g, 0, none⟩) n cap)) => l04Ok_any a _ E B C p W hp (h.below hW)
  have HO' := fun W a (hW : Below w.heap.size w W) (hp : W.cell? a = some (.slice (some ⟨g', 0, none⟩) n cap')) => l04Ok_any a _ E' B' C' q W hp (h'.below hW)
  rw [hok] at HO
  rw [hok'] at HO'
  have hs := okM_shape hok
  have hs' := okM_shape hok'
  have hn1 : 1 ≤ n := by rw [hn]; exact (shapeL_num hs).1
  have hn2 : n ≤ 12 := by rw [hn]; exact (shapeL_num hs).2
  have HADD : Hid ((okM (addG p q) = true → addK p q = 0 ∧ addR p q = addG p q) ∧ (okM (addG p q) = false → addK p q = 5 ∧ addR p q = [])) := ⟨fun e => by simp [addK, addR, e], fun e => by simp [addK, addR, e]⟩
  have HROW := Lib.hid (fun W (hW : Below w.heap.size w W) => (h.rowsI hn hs).below hg hW)
  have HROW' := Lib.hid (fun W (hW : Below w.heap.size w W) => (h'.rowsI hn' hs').below hg' hW)
  have HFIN : Hid ((addG p q).take n = addG p q) := List.take_of_length_le (by rw [addG_len, hn]; exact Nat.le_refl _)
  have HLT := Lib.hid (fun k (hk : k ≤ n) => show ((addG p q).take k).length = k from by rw [List.length_take, addG_len]; omega)
  have HTK := Lib.hid (fun k (hk : k < n) => addG_take p q k (by omega))
  have hp0 : ∀ R, (((w.alloc (.cells #[.slice (some ⟨g, 0, none⟩) n cap] 26)).alloc (.cells #[.slice (some ⟨g', 0, none⟩) n cap'] 26)).alloc R).cell? ⟨w.heap.size, 0, none⟩ = some (.slice (some ⟨g, 0, none⟩) n cap) := fun R =>
    ((below_alM (below_alM (Below.refl _ _) _) _).cell (p := ⟨w.heap.size, 0, none⟩) (by simp)).trans (Var1.made w _ _).1
  have hp1 : ∀ R, (((w.alloc (.cells #[.slice (some ⟨g, 0, none⟩) n cap] 26)).alloc (.cells #[.slice (some ⟨g', 0, none⟩) n cap'] 26)).alloc R).cell? ⟨w.heap.size + 1, 0, none⟩ = some (.slice (some ⟨g', 0, none⟩) n cap') := fun R =>
    ((below_alM (Below.refl _ _) _).cell (p := ⟨w.heap.size + 1, 0, none⟩) (by simp)).trans (by simp)
  clear h h' hok hok' hs hs' hn hn'
  go_enter Try.func13, Try.ntmps13
  go_wp2_with fail
  refine (HO _ _ (below_alM (below_alM (below_alM (Below.refl _ _) _) _) _) ?_).mono ?_
  · exact hp0 _
  rintro e w1 ⟨rfl, b1⟩
  have c1 : w1.cell? ⟨w.heap.size, 0, none⟩ = some (.slice (some ⟨g, 0, none⟩) n cap) := by rw [b1.cell (by simp; omega)]; exact hp0 _
  have d1 : w1.cell? ⟨w.heap.size + 1, 0, none⟩ = some (.slice (some ⟨g', 0, none⟩) n cap') := by rw [b1.cell (by simp)]; exact hp1 _
  have v1 : Var1 w1 (w.heap.size + 2) (.slice none 0 0) := by
    have := (Var1.made ((w.alloc (.cells #[.slice (some ⟨g, 0, none⟩) n cap] 26)).alloc (.cells #[.slice (some ⟨g', 0, none⟩) n cap'] 26)) (.slice none 0 0) 26).below b1
    simpa using this
  have s1 : w.heap.size + 3 ≤ w1.heap.size := by have := b1.size; simpa using this
  replace b1 := (below_alM (below_alM (below_alM (Below.refl w.heap.size w) _) _) _).trans (b1.mono (by simp; omega))
  clear HO
  go_wp2_with fail
  refine (HO' _ _ b1 d1).mono ?_
  rintro e w2 ⟨rfl, b2⟩
  have s2 := b2.size
  have c2 := (b2.cell (p := ⟨w.heap.size, 0, none⟩) (by show w.heap.size < _; omega)).trans c1
  have d2 := (b2.cell (p := ⟨w.heap.size + 1, 0, none⟩) (by show w.heap.size + 1 < _; omega)).trans d1
  have V2 := Lib.hid (v1.below b2)
  replace b2 := b1.trans (b2.mono b1.size)
  have HR := Lib.hid (HROW.out w2 b2)
  have HR' := Lib.hid (HROW'.out w2 b2)
  clear HO' HROW HROW' v1 b1 c1 d1
  go_wp2
  go_loopw [7] (fun i wr => ∃ (k : Nat) (a : Option Addr) (m c : Nat), k ≤ n ∧ i = .int .i64 k ∧ Var1 wr w2.heap.size (.slice a m c) ∧ Grid 32 wr (w2.heap.size + 1) wr.heap.size (.slice a m c) ((addG p q).take k) ∧ w2.heap.size + 1 ≤ wr.heap.size ∧ Below w2.heap.size w2 wr) (fun i _ => n - (intOf i).toNat)
  case atStart => exact ⟨0, none, 0, 0, Nat.zero_le _, rfl, Var1.made _ _ _, Grid.nil _ _ _ _, by simp, below_alM (Below.refl _ _) _⟩
  case round =>
    obtain ⟨k, a, m, c, hk, rfl, hv, hG, hz, hb⟩ := hrel
    have cr : wr.cell? ⟨w.heap.size, 0, none⟩ = some (.slice (some ⟨g, 0, none⟩) n cap) := (hb.cell (p := ⟨w.heap.size, 0, none⟩) (by show w.heap.size < _; omega)).trans c2
    have dr : wr.cell? ⟨w.heap.size + 1, 0, none⟩ = some (.slice (some ⟨g', 0, none⟩) n cap') := (hb.cell (p := ⟨w.heap.size + 1, 0, none⟩) (by show w.heap.size + 1 < _; omega)).trans d2
    by_cases hlt : k < n
    · obtain ⟨ga, ca, ma, hma, hca, hia, ha1, ha4⟩ := HR.out k hlt
      obtain ⟨gb, cb, mb, hmb, hcb, hib, hb1, hb4⟩ := HR'.out k hlt
      have HT := Lib.hid (HTK.out k hlt)
      have hll := HLT.out k hk
      have hcr : wr.cell? ⟨g, k, none⟩ = some (.slice (some ⟨ga, 0, none⟩) ma ca) := (hb.cell (p := ⟨g, k, none⟩) (by show g < _; omega)).trans hca
      have hdr : wr.cell? ⟨g', k, none⟩ = some (.slice (some ⟨gb, 0, none⟩) mb cb) := (hb.cell (p := ⟨g', k, none⟩) (by show g' < _; omega)).trans hcb
      generalize p.getD k [] = ra at *
      generalize q.getD k [] = rb at *
      obtain ⟨c0, f0⟩ := id hv
      have HCB := Lib.hid (fun W (hW : Below wr.heap.size wr W) j (hj : j < mb) => show W.cell? ⟨gb, j, none⟩ = some (.int .i64 (rb.getD j 0)) from (hib.below (hb.trans (hW.mono hb.size))).cell j (by omega))
      have HOWN := Lib.hid (fun W (hW : Below wr.heap.size wr W) => show Calls Try.prog 66 #[.slice (some ⟨ga, 0, none⟩) ma ca] W fun e w' => ∃ gu cu, e = .returned (.slice (some ⟨gu, 0, none⟩) ma cu) ∧ Ints w' wr.heap.size (.slice (some ⟨gu, 0, none⟩) ma cu) ra ∧ Below wr.heap.size wr w' ∧ w'.cell? ⟨w.heap.size + 1, 0, none⟩ = some (.slice (some ⟨g', 0, none⟩) n cap') ∧ w'.cell? ⟨g', k, none⟩ = some (.slice (some ⟨gb, 0, none⟩) mb cb) from
        (l00Own_any _ ra W ((hia.below (hb.trans (hW.mono hb.size))).sees (by omega)) (by omega)).mono fun e w' ⟨u, h1, h2, h3⟩ => by
          obtain ⟨gu, cu, rfl, _, _, _, _⟩ := h2.shape2 (by omega)
          have bw := hW.trans (h3.mono hW.size)
          rw [hma]
          exact ⟨gu, cu, h1, h2.mono hW.size, bw, (bw.cell (p := ⟨w.heap.size + 1, 0, none⟩) (by show w.heap.size + 1 < _; omega)).trans dr, (bw.cell (p := ⟨g', k, none⟩) (by show g' < _; omega)).trans hdr⟩)
      have HG := Lib.hid hG
      have HV := Lib.hid hv
      have HMA := Lib.hid hma
      have HMB := Lib.hid hmb
      clear HR HR' HTK HFIN HLT hG hv hca hcb hia hib hma hmb V2
      go_wp2
      go_region_law (first | (refine step_append_more _ rfl _ _ rfl wr.heap.size _ _ rfl i1 gb mb cb rb rfl HMB.out hb1 (by omega) (HCB.out _ (by repeat (first | exact Below.refl _ _ | exact bw | refine Below.drew ?_ | refine below_drewN ?_ _ | refine below_alM ?_ _))) (by have := HMA.out; omega) (by have := bw.size; simpa using this) ?_; intro g4 c4 l4 w4 i4 gr4; have b4 := i1.below_grown bw bw.size gr4) | (go_simp; go_at_call 66; (with_reducible refine (HOWN.out _ ?_).mono ?_); (repeat (first | exact Below.refl _ _ | refine Below.drew ?_ | refine below_drewN ?_ _ | refine below_alM ?_ _)); rintro e w3 ⟨gu, cu, rfl, i1, bw, hcw, hdw⟩))
      all_goals
        have hs4 := b4.size
        have HC4 := Lib.hid ((b4.cell (p := ⟨w2.heap.size, 0, none⟩) (by show w2.heap.size < _; omega)).trans c0)
        have hc4 := HC4.out
        have HI4 := Lib.hid i4
        have HG4 := Lib.hid ((HG.out.below b4).widen (C' := w4.heap.size) (Nat.le_refl _) hs4)
        have HV4 := Lib.hid (HV.out.below b4)
        have HL4 := Lib.hid (show (ra ++ rb).length ≤ 1000 from by have := HMA.out; have := HMB.out; simp; omega)
        have HSORT := Lib.hid (fun W (hW : Below w4.heap.size w4 W) => show Calls Try.prog 67 #[.slice (some ⟨g4, 0, none⟩) l4 c4] W fun e w' => ∃ gu mu cu, e = .returned (.slice (some ⟨gu, 0, none⟩) mu cu) ∧ Ints w' w4.heap.size (.slice (some ⟨gu, 0, none⟩) mu cu) (sortL (ra ++ rb)) ∧ Below w4.heap.size w4 w' ∧ w'.cell? ⟨w2.heap.size, 0, none⟩ = some (.slice a m c) ∧ (∀ o, (w'.alloc o).cell? ⟨w2.heap.size, 0, none⟩ = some (.slice a m c)) from
          (l04Sort_all _ wr.heap.size (ra ++ rb) W (HI4.out.below hW) (by have := HL4.out; omega)).mono fun e w' ⟨u, h1, h2, h3⟩ => by
            obtain ⟨gu, cu, rfl, _, _, _, _⟩ := h2.shape2 (by have := sortL_len (ra ++ rb); split at this <;> omega)
            have bx := hW.trans (h3.mono hW.size)
            have hx := (bx.cell (p := ⟨w2.heap.size, 0, none⟩) (by show w2.heap.size < _; omega)).trans HC4.out
            exact ⟨gu, _, cu, h1, h2.mono hW.size, bx, hx, fun o => ((below_alM (Below.refl _ _) o).cell (p := ⟨w2.heap.size, 0, none⟩) (by show w2.heap.size < _; have := bx.size; omega)).trans hx⟩)
        clear HOWN HCB i1 bw hcw hdw gr4 i4 HG HV
      all_goals go_wp2
      all_goals go_region_law (first | (refine step_append_row _ rfl _ _ rfl (w2.heap.size + 1) w4.heap.size _ ((addG p q).take k) rfl (HG4.out.below (by repeat (first | exact Below.refl _ _ | exact bx | refine Below.drew ?_ | refine below_drewN ?_ _ | refine below_alM ?_ _))) _ (.slice (some ⟨gu, 0, none⟩) mu cu) (sortL (ra ++ rb)) rfl (by first | exact (Var1.made _ _ _).1 | (simp; done)) (Ints.alloc i1 _) (by rw [hll]; omega) (by omega) (by simp; have := bx.size; omega) ?_; intro g5 c5 w5 G5 W5; have W6 := (Within.of_below (w := w4) (by repeat (first | exact Below.refl _ _ | exact bx | refine Below.drew ?_ | refine below_drewN ?_ _ | refine below_alM ?_ _)) _ _).trans W5; obtain ⟨c5', f5'⟩ := HV4.out.within W6 (by omega)) | (go_simp; go_at_call 67; (with_reducible refine (HSORT.out _ ?_).mono ?_); (repeat (first | exact Below.refl _ _ | refine Below.drew ?_ | refine below_drewN ?_ _ | refine below_alM ?_ _)); rintro e w3 ⟨gu, mu, cu, rfl, i1, bx, hcw, hcA⟩))
      all_goals (have hs5 := W6.size; have b5 := W6.below (hb.trans (b4.mono hb.size)) (by omega) (by omega); rw [← HT.out] at G5; rw [hll] at G5; clear HG4 HV4 HI4 HSORT HMA HMB HL4 HC4 i1 bx hcw hcA W5 W6)
      all_goals go_wp2
      all_goals refine ⟨⟨k + 1, some ⟨g5, 0, none⟩, k + 1, c5, by omega, by go_num, Var1.set ⟨c5', f5'⟩ _, ?_, by simp; omega, b5.setCell (p := ⟨w2.heap.size, 0, none⟩) (Nat.le_refl _) _⟩, by simp [intOf]; omega⟩
      all_goals (have e : (w5.setCell ⟨w2.heap.size, 0, none⟩ (.slice (some ⟨g5, 0, none⟩) (k + 1) c5)).heap.size = w5.heap.size := by simp)
      all_goals rw [e]
      all_goals exact G5.keep fun q hq h1 h2 => heap_far _ ⟨w2.heap.size, 0, none⟩ _ q (by show w2.heap.size < q; omega)
    · obtain rfl : k = n := by omega
      rw [HFIN.out] at hG
      have HOF := l04Ok_any ⟨w2.heap.size, 0, none⟩ _ _ _ _ (addG p q) wr hv.1 hG
      have V3 := V2.out.below hb
      clear V2 HR HR' HTK HFIN HLT
      cases hf : okM (addG p q) with
      | false =>
        rw [hf] at HOF
        go_wp2_with fail
        refine HOF.mono ?_
        rintro e w5 ⟨rfl, b5⟩
        obtain ⟨c5, f5⟩ := V3.below b5
        have hbw := b2.trans ((hb.trans (b5.mono hb.size)).mono (by omega))
        have hres : ∀ y : Value, (w5.setCell ⟨w.heap.size + 2, 0, none⟩ y).cell? ⟨w.heap.size + 2, 0, none⟩ = some y := fun y => World.cell?_setCell_same _ _ _ (u := .slice none 0 0) c5
        go_wp2
        refine bodyPost_ret (v := .tuple #[.agg #[.slice none 0 0], .int .i64 5]) (by simp [results, Try.results13, go_sem, hres]) rfl ?_
        exact ⟨none, 0, 0, by rw [(HADD.out.2 hf).1], by rw [(HADD.out.2 hf).2]; exact Grid.nil _ _ _ _, hbw.setCell (p := ⟨w.heap.size + 2, 0, none⟩) (by show w.heap.size ≤ w.heap.size + 2; omega) _⟩
      | true =>
        rw [hf] at HOF
        go_wp2_with fail
        refine HOF.mono ?_
        rintro e w5 ⟨rfl, b5⟩
        obtain ⟨c5, f5⟩ := V3.below b5
        obtain ⟨c6, f6⟩ := hv.below b5
        have hG5 := hG.below b5
        have hs5 := b5.size
        have hbw := b2.trans ((hb.trans (b5.mono hb.size)).mono (by omega))
        have hres : ∀ y : Value, (w5.setCell ⟨w.heap.size + 2, 0, none⟩ y).cell? ⟨w.heap.size + 2, 0, none⟩ = some y := fun y => World.cell?_setCell_same _ _ _ (u := .slice none 0 0) c5
        go_wp2
        refine bodyPost_ret (v := .tuple #[.agg #[.slice a m c], .int .i64 0]) (by simp [results, Try.results13, go_sem, hres]) rfl ?_
        refine ⟨a, m, c, by rw [(HADD.out.1 hf).1], ?_, hbw.setCell (p := ⟨w.heap.size + 2, 0, none⟩) (by show w.heap.size ≤ w.heap.size + 2; omega) _⟩
        rw [(HADD.out.1 hf).2]
        exact (hG5.keep fun q hq h1 h2 => heap_far _ ⟨w.heap.size + 2, 0, none⟩ _ q (by show w.heap.size + 2 < q; omega)).widen (by omega) (by simp; omega)
end Go.Proofs.Ytgjmhihomklooaa
