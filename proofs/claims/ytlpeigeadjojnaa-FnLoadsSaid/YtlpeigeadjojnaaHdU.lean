/- HandThrows, the model's and the program's. No conditions. -/
import Derived.Test.YtlpeigeadjojnaaHdS
import Derived.Test.YtlpeigeadjojnaaHdV
import Derived.Maps.OwnIn
namespace Go.Proofs.Ytlpeigeadjojnaa
open Go.RowKit Go.Shelf
set_option linter.unusedSimpArgs false
set_option linter.unusedVariables false
attribute [local go_sem] Oper.semAt_some

theorem hthV_one (y : HthT) : ∀ u ∈ hthV y, u.oneCell' = true := by
  intro u hu
  simp only [hthV, List.mem_cons, List.not_mem_nil, or_false] at hu
  rcases hu with rfl | rfl | rfl | rfl <;> rfl
theorem hth_cells (W : World) (y : HthT) (j : Nat) (u : Value) (hj : (hthV y)[j]? = some u) : (W.alloc (.cells (hthV y).toArray 37)).cell? ((⟨W.heap.size, 0, none⟩ : Addr).add j) = some u := by
  match j, hj with
  | 0, hj => simp [hthV] at hj; subst hj; simp [Addr.add, hthV]
  | 1, hj => simp [hthV] at hj; subst hj; simp [Addr.add, hthV]
  | 2, hj => simp [hthV] at hj; subst hj; simp [Addr.add, hthV]
  | 3, hj => simp [hthV] at hj; subst hj; simp [Addr.add, hthV]
  | j + 4, hj => simp [hthV] at hj
theorem append_hth (w0 : World) {ops : Array Oper} {rest : List Oper} {o : Oper} {a : Act} {Q : Exit → Act → World → Prop} (hgd : o.guard = none) (s x : Operand)
    (ho : o.op = .call { callee := .builtin .append, args := #[s, x], argTypes := #[27, 27] }) (B : Nat) (v : Value) (xs : List HthT) (hs : a.eval s = v) (h : Hths w0 B v xs) (y : HthT)
    (hx : a.eval x = .slice (some ⟨w0.heap.size, 0, none⟩) 1 1) (hlen : xs.length ≤ 1000000) (hB : B ≤ w0.heap.size)
    (hK : ∀ v' w', Hths w' B v' (xs ++ [y]) → w0.grownBy w' v.ownBlock → wpList Try.prog ops Q rest (a.put o.dst v') w') :
    wpList Try.prog ops Q (o :: rest) a (w0.alloc (.cells #[.int .i64 y.1, .int .i64 y.2.1, .int .i64 y.2.2.1, .int .i64 y.2.2.2] 37)) := by
  obtain ⟨i0, hi, hz0, hz1, hz2⟩ := info_parts Try.infoHth
  refine wpList_append_own_at (w0.alloc (.cells (hthV y).toArray 37)) hgd s x 27 ho B 37 i0 (.agg #[.int .i64 0, .int .i64 0, .int .i64 0, .int .i64 0]) 4 32 Try.underlying27 hi hz0 hz1 hz2 rfl (by decide) v xs.length _ hs (World.ownsRow.alloc h _)
    ⟨w0.heap.size, 0, none⟩ 1 1 (hthV y) hx rfl (fun j u hj => hth_cells w0 y j u hj) (hthV_one y) (by unfold maxLen; omega) (by omega) (by simp; omega) ?_
  intro v' w' h1 h2 _ h3
  refine hK v' w' ?_ ⟨h2.os, h2.tape, h2.output, by have := h2.size; simp at this; omega, fun k hk hne => ?_⟩
  · unfold Hths OwnK
    simpa using h1
  · rw [h2.block k (by simp; omega) hne]
    exact Below.heap_alloc _ _ _ hk

set_option maxRecDepth 10000 in
set_option maxHeartbeats 1000000 in
theorem l14Throws_any (v u : Value) (B C : Nat) (p o : List Int) (w : World) (h : Ints w B v p) (k : Ints w C u o) (hq : okPO p o = true) :
    Calls Try.prog 32 #[v, u] w fun e w' => ∃ x, e = .returned x ∧ Hths w' w.heap.size x (thH p o) ∧ Below w.heap.size w w' := by
  obtain ⟨hp, ho⟩ := okPO_parts hq
  obtain ⟨lp1, lp2⟩ := okPat_len hp
  obtain ⟨lo1, lo2⟩ := okH_len ho
  obtain ⟨cp1, cp2⟩ := cpN_bound hq
  have HCP := Lib.hid (fun W (hW : Below w.heap.size w W) => l14Common_any v u B C p o W (h.below hW) (k.below hW) lp1 lp2 lo1 lo2)
  have HAT := Lib.hid (fun (b : Int) W (hW : Below w.heap.size w W) (h1 : 0 ≤ b) (h2 : b ≤ 1000) => l02At_any v B p b W (h.below hW) lp1 (by omega) (by omega) (by omega))
  have HHA := Lib.hid (fun (b : Int) W (hW : Below w.heap.size w W) (h1 : 0 ≤ b) (h2 : b ≤ 1000) => l14At_any u C o b W (k.below hW) lo1 (by omega) (by omega) (by omega))
  have HTB := Lib.hid (fun (b : Int) => atP_rng hp b)
  have HZ := Lib.hid (fun (k : Nat) (hz : atL p (k : Int) = 0) => thK_zero (p := p) (o := o) (k := k) hz)
  have HM := Lib.hid (fun (k : Nat) (hz : ¬ atL p (k : Int) = 0) => show thK p o (k + 1) = thK p o k ++ [((k : Int), atL p (k : Int), atL o (k : Int), atL o ((k : Int) + atL p (k : Int)))] from thK_more (p := p) (o := o) (k := k) hz)
  have HL := Lib.hid (fun k => thK_len p o k)
  have HE : Hid (thK p o (cpN p o) = thH p o) := Lib.hid rfl
  obtain ⟨va, vc, rfl⟩ := ints_slH h
  obtain ⟨ua, uc, rfl⟩ := ints_slH k
  clear h k hq hp ho lp1 lp2 lo1 lo2
  generalize cpN p o = n at *
  go_enter Try.func32, Try.ntmps32
  go_wp2
  go_loopw [5, 6, 7] (fun x i _ wr => ∃ k : Nat, k ≤ n ∧ i = .int .i64 k ∧ Hths wr w.heap.size x (thK p o k) ∧ Below w.heap.size w wr) (fun _ i _ _ => n - (intOf i).toNat)
  case atStart => exact ⟨0, Nat.zero_le _, rfl, OwnK.empty _ _ _ _ (Nat.le_refl _), (Below.refl _ _).alloc (Nat.le_refl _) _⟩
  case round =>
    obtain ⟨k, hk, rfl, hi, hb⟩ := hrel
    have HC := HCP.out wr hb
    by_cases hlt : k < n
    · have HA := HAT.out (k : Int) wr hb (by omega) (by omega)
      obtain ⟨t0, t15⟩ := HTB.out (k : Int)
      by_cases h0 : atL p (k : Int) = 0
      · have hst := Lib.hid (HZ.out k h0)
        rw [h0] at HA
        clear HCP HAT HHA HTB HZ HM HL t0 t15 h0
        go_wp2_with fail
        refine HC.mono ?_
        rintro e w1 ⟨rfl, rfl⟩
        go_wp2_with fail
        refine HA.mono ?_
        rintro e w1 ⟨rfl, rfl⟩
        go_wp2
        go_roundw
        case rel => exact ⟨k + 1, by omega, by go_num, by rw [hst.out]; exact hi, hb⟩
        case measure => simp [intOf]; omega
      · have hst := HM.out k h0
        have hl := HL.out k
        have H1 := HHA.out (k : Int) wr hb (by omega) (by omega)
        have H2 := HHA.out ((k : Int) + atL p (k : Int)) wr hb (by omega) (by omega)
        generalize atL o ((k : Int) + atL p (k : Int)) = thd at *
        generalize atL o (k : Int) = fr at *
        generalize atL p (k : Int) = t at *
        have hpos : 0 < t := by omega
        have HST := Lib.hid hst
        have hbs := hb.size
        clear HCP HAT HHA HTB HZ HM HL hst h0
        go_wp2_with fail
        refine HC.mono ?_
        rintro e w1 ⟨rfl, rfl⟩
        go_wp2_with fail
        refine HA.mono ?_
        rintro e w1 ⟨rfl, rfl⟩
        go_wp2_with fail
        refine H1.mono ?_
        rintro e w1 ⟨rfl, rfl⟩
        go_wp2_with fail
        refine H2.mono ?_
        rintro e w1 ⟨rfl, rfl⟩
        clear HC HA H1 H2
        go_wp2_with (at_builtin; refine append_hth _ rfl _ _ rfl _ _ _ rfl hi ((k : Int), t, fr, thd) rfl (by omega) hbs ?_; intro v' w3 hi3 hg3; refine Hid.out ?_)
        have hb3 := hi.below_grown hb hbs hg3
        rw [← HST.out] at hi3
        clear hg3 hi hb
        refine Lib.hid ?_
        go_wp2
        go_roundw
        case rel => exact ⟨k + 1, by omega, by go_num, hi3, hb3⟩
        case measure => simp [intOf]; omega
    · obtain rfl : k = n := by omega
      clear HCP HAT HHA HTB HZ HM HL
      go_wp2_with fail
      refine HC.mono ?_
      rintro e w1 ⟨rfl, rfl⟩
      rw [HE.out] at hi
      go_wp2
      go_ret
      exact ⟨_, rfl, hi, hb⟩

theorem handThrows_spec (v u : Value) (B C : Nat) (p o : List Int) (w : World) (h : Ints w B v p) (k : Ints w C u o) :
    Calls Try.prog 8 #[v, u] w fun e w' => ∃ x, e = .returned (.tuple #[x, .int .i64 (poC p o)]) ∧ Hths w' w.heap.size x (thA p o) ∧ Below w.heap.size w w' := by
  have HC := l14Code_any v u B C p o w h k
  cases hq : okPO p o with
  | false =>
    rw [thA_false hq, poC_false hq]
    rw [poC_false hq] at HC
    clear h k
    go_enter Try.func8, Try.ntmps8
    go_wp2_with fail
    refine HC.mono ?_
    rintro e w1 ⟨rfl, b1⟩
    go_wp2
    go_ret2
    exact ⟨_, rfl, OwnK.nil _ _ _ _ _, b1⟩
  | true =>
    have HT := fun W (hW : Below w.heap.size w W) => l14Throws_any v u B C p o W (h.below hW) (k.below hW) hq
    rw [thA_true hq, poC_true hq]
    rw [poC_true hq] at HC
    clear h k
    go_enter Try.func8, Try.ntmps8
    go_wp2_with fail
    refine HC.mono ?_
    rintro e w1 ⟨rfl, b1⟩
    go_wp2_with fail
    refine (HT _ b1).mono ?_
    rintro e w2 ⟨x, rfl, i2, b2⟩
    go_wp2
    go_ret2
    exact ⟨_, rfl, i2.mono b1.size, b1.trans (b2.mono b1.size)⟩

/-! ### the program's -/
theorem hb_cells {p o : List Int} (x : HB p o) : hthV (hthAt p o x.1) = [.int .i64 (x.1 : Int), .int .i64 (atL p (x.1 : Int)), .int .i64 (atL o (x.1 : Int)), .int .i64 (atL o ((x.1 : Int) + atL p (x.1 : Int)))] := rfl
/-- the loop's variable: a block that holds the throw -/
def AxH (p o : List Int) (lo : Nat) (mk : Value → Act) (x : HB p o) (a : Act) (W : World) : Prop := ∃ bx, lo < bx ∧ Blk W bx (hthV (hthAt p o x.1)) 37 ∧ a = mk (.pointer (some ⟨bx, 0, none⟩))
theorem axH_own {p o : List Int} (B lo : Nat) (mk : HB p o → Value → Act) (x : HB p o) (a : Act) : OwnFrom B (fun (_ : Unit) W => AxH p o lo (mk x) x a W) := by
  rintro s A X row ⟨bx, h1, h2, h3⟩ hg hr
  refine ⟨bx, h1, (hg.block bx h2.lt fun e => ?_).trans h2, h3⟩
  obtain ⟨_, ob, hob, hc⟩ := hr bx e.symm
  rw [show A.heap[bx]? = _ from h2] at hob
  cases hob
  cases hc

set_option maxRecDepth 100000 in
set_option maxHeartbeats 2000000 in
theorem appendSeqH_in (n gf : Nat) (hn : 3 ≤ n) (p o : List Int) (bs lb : Array Value) (eg : ∀ args w, (callFunc gf args).run Try.prog w = .ok (.enter gf args) w) (T : World → Prop) (S : List (HB p o) → Prop) (w : World)
    (hTb : ∀ W, Below w.heap.size w W → T W)
    (hseq : ∀ W, Below w.heap.size w W → SeqBx Fence.wide (n - 1) Try.prog gf bs lb (encH p o) T S 145 W) :
    CallsIn Fence.wide n Try.prog 61 #[.slice none 0 0, .func (.func gf) bs lb] w fun e w' => ∃ v ss, e = .returned v ∧ S ss ∧ Hths w' w.heap.size v (hbL ss) ∧ Below w.heap.size w w' := by
  obtain ⟨i0, hi, hz0, hz1, hz2⟩ := info_parts Try.infoHth
  refine callsIn_of_wp_marks Try.func61 rfl trivial ?_ rfl
  simp only [Try.ntmps61, List.size_toArray, List.length_cons, List.length_nil, Nat.reduceAdd, Nat.reduceSub, Array.replicate_succ, Array.replicate_zero, List.push_toArray, List.append_toArray, List.nil_append, List.cons_append]
  gi_wp2
  have bO := Boxed.new w 27 (.slice none 0 0)
  have hB0 : Below w.heap.size w (w.alloc (.cells #[.slice none 0 0] 27)) := (Below.refl _ w).alloc (Nat.le_refl _) _
  have sz0 : (w.alloc (.cells #[.slice none 0 0] 27)).heap.size = w.heap.size + 1 := by simp
  refine range_bx (F := Fence.wide) rfl (by omega) (gf := gf) (bs := bs) (lb := lb) rfl trivial eg (hseq _ hB0) (fun _ => rfl)
    (fun pre W => (∃ v, Boxed W w.heap.size 27 v ∧ W.ownsRow w.heap.size 37 4 v pre.length ((hbL pre).flatMap hthV) ∧ ¬ v.ownBlock = some (w.heap.size + 3)) ∧ Below w.heap.size w W)
    (OwnFrom.and (Own.from (holdsRow_own w.heap.size w.heap.size 27 37 4 (fun pre : List (HB p o) => pre.length) (fun pre : List (HB p o) => (hbL pre).flatMap hthV) (fun _ v => ¬ v.ownBlock = some (w.heap.size + 3))) _) (ownFrom_below (Nat.le_refl _) (by simp)))
    (fun pre W h => hTb W h.2)
    ⟨⟨_, bO, World.ownsRow_nil _ _ _ _, by simp [Value.ownBlock]⟩, hB0⟩
    (fun x => AxH p o (w.heap.size + 3) (fun q => { tmps := #[.slice none 0 0, .func (.func gf) bs lb, .pointer (some ⟨w.heap.size, 0, none⟩), undef, .slice none 0 0, q, .func (.func gf) bs lb, .agg #[.int .i64 (x.1 : Int), .int .i64 (atL p (x.1 : Int)), .int .i64 (atL o (x.1 : Int)), .int .i64 (atL o ((x.1 : Int) + atL p (x.1 : Int)))], undef, undef, undef, undef, undef], defers := [] }) x)
    (fun x a' => axH_own _ _ (fun x q => { tmps := #[.slice none 0 0, .func (.func gf) bs lb, .pointer (some ⟨w.heap.size, 0, none⟩), undef, .slice none 0 0, q, .func (.func gf) bs lb, .agg #[.int .i64 (x.1 : Int), .int .i64 (atL p (x.1 : Int)), .int .i64 (atL o (x.1 : Int)), .int .i64 (atL o ((x.1 : Int) + atL p (x.1 : Int)))], undef, undef, undef, undef, undef], defers := [] }) x a') ?assign ?body ?done
  case assign =>
    rintro l pre x W K ⟨⟨v, hv, hrow, hne⟩, hB⟩ hz hK
    rw [sz0] at hz hK
    unfold encH
    have hx := Blk.made W (hthV (hthAt p o x.1)).toArray 37
    have hfin := hK { tmps := #[.slice none 0 0, .func (.func gf) bs lb, .pointer (some ⟨w.heap.size, 0, none⟩), undef, .slice none 0 0, .pointer (some ⟨W.heap.size, 0, none⟩), .func (.func gf) bs lb, .agg #[.int .i64 (x.1 : Int), .int .i64 (atL p (x.1 : Int)), .int .i64 (atL o (x.1 : Int)), .int .i64 (atL o ((x.1 : Int) + atL p (x.1 : Int)))], undef, undef, undef, undef, undef], defers := [] } (W.alloc (.cells (hthV (hthAt p o x.1)).toArray 37))
      ((KeepsOthers.alloc _ _).from _) ⟨⟨v, hv.alloc _, hrow.alloc _, hne⟩, hB.alloc hB.size _⟩ ⟨W.heap.size, by omega, hx, rfl⟩ (by simp) (Below.heap_alloc _ _ _ (by omega))
    clear hK hx
    gi_wp2
    exact hfin
  case body =>
    rintro l pre x a' W hz ⟨⟨v, hv, hrow, hne⟩, hB⟩ ⟨bx, hbx, hxb, rfl⟩ hlt
    rw [sz0] at hz
    have hc := hv.cell
    have c0 := hxb.cell 0
    have c1 := hxb.cell 1
    have c2 := hxb.cell 2
    have c3 := hxb.cell 3
    simp only [hthV, List.getElem?_cons_zero, List.getElem?_cons_succ] at c0 c1 c2 c3
    have hlf : (hbL pre ++ [hthAt p o x.1]).flatMap hthV = (hbL pre).flatMap hthV ++ hthV (hthAt p o x.1) := by simp
    gi_wp2_with (gi_at_builtin; refine wpListIn_append_own_at _ rfl _ _ 27 rfl w.heap.size 37 i0 (.agg #[.int .i64 0, .int .i64 0, .int .i64 0, .int .i64 0]) 4 32 Try.underlying27 hi hz0 hz1 hz2 rfl (by decide) _ _ _ rfl (hrow.alloc _) ⟨W.heap.size, 0, none⟩ 1 1 (hthV (hthAt p o x.1)) rfl rfl (fun j u hj => hth_cells W _ j u hj) (hthV_one _) (by simp [maxLen]; omega) (by omega) (by have := hB.size; simp; omega) ?_; intro v' w1 hown' hgrow _ hat; obtain ⟨g', cap', rfl⟩ := ownsRow_succ hown'; obtain ⟨hv1, hv2, hr2, hk2, hb2⟩ := hv.appended (by decide) hrow hB.size (Nat.le_refl _) hown' hgrow; have hc1 := hv1.cell; have hf1 := hv1.frozen)
    have hne2 : ¬ (Value.slice (some ⟨g', 0, none⟩) (pre.length + 1) cap').ownBlock = some (w.heap.size + 3) := by
      rcases hat with e | e
      · rw [e]; exact hne
      · rw [e]; simp; omega
    refine ⟨hk2.from _, ⟨⟨_, hv2, ?_, hne2⟩, hB.trans hb2⟩, ?_⟩
    · rw [hbL_snoc, hlf]
      simpa using hr2
    · rw [sz0, Below.heap_setCell _ _ _ _ (by simp; omega)]
      exact (hgrow.block _ (by simp; omega) (fun e => hne e.symm)).trans (Below.heap_alloc _ _ _ (by omega))
  case done =>
    rintro D ys W hD hS ⟨⟨v, hv, hrow, _⟩, hB⟩ hK
    have hc := hv.cell
    gi_wp2
    refine ⟨by simp, .inl ⟨_, _, rfl, run_takeDeferred hK, ?_⟩⟩
    refine ⟨_, results_tmp rfl _ _ _, v, ys, rfl, hS, ?_, hB.trans (belowK_b (w := w) (Nat.le_refl _) W D _ _ (by simp at hD; omega) hK rfl rfl)⟩
    have h := ownsRow_putObj hrow (.deferred none) hK rfl
    unfold Hths OwnK
    rw [hbL_len]
    exact h
end Go.Proofs.Ytlpeigeadjojnaa
