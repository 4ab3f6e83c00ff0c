/- CrossingsOf, the model's and the program's. No conditions. -/
import Derived.Test.YtlpeigeadjojnaaHdU
namespace Go.Proofs.Ytlpeigeadjojnaa
open Go.RowKit Go.Shelf
set_option linter.unusedSimpArgs false
set_option linter.unusedVariables false
attribute [local go_sem] Oper.semAt_some

theorem blk_ownH {β : Type} (b : Nat) (cs : β → List Value) (T : TypeId) : Go.Own (fun (s : β) W => Blk W b (cs s) T) := fun s W W' row hs hg hr =>
  (hg.block b hs.lt fun e => by
    obtain ⟨o, ho, hc⟩ := hr b e.symm
    rw [show W.heap[b]? = _ from hs] at ho
    cases ho
    cases hc).trans hs
theorem hth_sl {w : World} {B : Nat} {x : Value} {L : List HthT} (h : Hths w B x L) : ∃ a c, x = .slice a L.length c ∧ ∀ k, k < L.length → ∃ g, a = some ⟨g, 0, none⟩ ∧ g < w.heap.size ∧ B ≤ g ∧ FourH w g (k * 4) (L.getD k ht0) := by
  rcases h.shape with ⟨rfl, rfl⟩ | ⟨g, cap, rfl, hB, hg, _, _⟩
  · exact ⟨none, 0, rfl, fun k hk => by simp at hk⟩
  · exact ⟨_, _, rfl, fun k hk => ⟨g, rfl, hg, hB, h.fourH k hk⟩⟩
/-- how many throws go to another hand -/
def crsL (L : List HthT) : Nat := (L.filter fun t => t.2.2.1 != t.2.2.2).length
theorem crsL_le (L : List HthT) : crsL L ≤ L.length := List.length_filter_le _ _
theorem crsL_same (L : List HthT) (y : HthT) (h : y.2.2.1 = y.2.2.2) : crsL (L ++ [y]) = crsL L := by simp [crsL, List.filter_append, h]
theorem crsL_more (L : List HthT) (y : HthT) (h : ¬ y.2.2.1 = y.2.2.2) : crsL (L ++ [y]) = crsL L + 1 := by
  have : (y.2.2.1 != y.2.2.2) = true := by simpa using h
  simp [crsL, List.filter_append, this]
theorem hth_take (L : List HthT) (k : Nat) (hk : k < L.length) : L.take (k + 1) = L.take k ++ [L.getD k ht0] := by
  rw [List.take_succ_eq_append_getElem hk]
  simp [hk]
def crsA (p o : List Int) : Int := if okPO p o then (crsL (thH p o) : Nat) else 0
theorem crsA_true {p o : List Int} (h : okPO p o = true) : crsA p o = (crsL (thH p o) : Nat) := by rw [crsA, if_pos h]
theorem crsA_false {p o : List Int} (h : okPO p o = false) : crsA p o = 0 := by rw [crsA, if_neg (by simp [h])]
theorem thH_len {p o : List Int} (h : okPO p o = true) : (thH p o).length ≤ 144 := by
  have h1 := thK_len p o (cpN p o)
  have h2 := (cpN_bound h).2
  unfold thH
  omega

set_option maxRecDepth 10000 in
set_option maxHeartbeats 1000000 in
theorem crossingsOf_spec (v u : Value) (B C : Nat) (p o : List Int) (w : World) (h : Ints w B v p) (k : Ints w C u o) :
    Calls Try.prog 12 #[v, u] w fun e w' => e = .returned (.tuple #[.int .i64 (crsA p o), .int .i64 (poC p o)]) ∧ Below w.heap.size w w' := by
  have HC := l14Code_any v u B C p o w h k
  cases hq : okPO p o with
  | false =>
    rw [crsA_false hq, poC_false hq]
    rw [poC_false hq] at HC
    clear h k
    go_enter Try.func12, Try.ntmps12
    go_wp2_with fail
    refine HC.mono ?_
    rintro e w1 ⟨rfl, b1⟩
    go_wp2
    go_ret2
    exact ⟨rfl, b1⟩
  | true =>
    have HT := fun W (hW : Below w.heap.size w W) => l14Throws_any v u B C p o W (h.below hW) (k.below hW) hq
    have hlen := thH_len hq
    rw [crsA_true hq, poC_true hq]
    rw [poC_true hq] at HC
    clear h k hq
    generalize thH p o = L at *
    go_enter Try.func12, Try.ntmps12
    go_wp2_with fail
    refine HC.mono ?_
    rintro e w1 ⟨rfl, b1⟩
    go_wp2_with fail
    refine (HT _ b1).mono ?_
    rintro e w2 ⟨x, rfl, i2, b2⟩
    have B2 := b1.trans (b2.mono b1.size)
    obtain ⟨a, c, rfl, hx⟩ := hth_sl i2
    have HX := Lib.hid hx
    have HTK := Lib.hid (fun k (hk : k < L.length) => hth_take L k hk)
    have HTA : Hid (L.take L.length = L) := Lib.hid (List.take_length)
    have HCL := Lib.hid (fun k => show crsL (L.take k) ≤ 144 from by have h1 := crsL_le (L.take k); have h2 := List.length_take_le k L; have := List.length_take_le' k L; omega)
    clear HC HT i2 hx b1 b2
    generalize hn : L.length = n at *
    clear hn
    go_wp2
    go_loopw [8, 9] (fun t i wr => ∃ k : Nat, k ≤ n ∧ i = .int .i64 k ∧ t = .int .i64 (crsL (L.take k) : Nat) ∧ Below w2.heap.size w2 wr) (fun _ i _ => n - (intOf i).toNat)
    case atStart => exact ⟨0, Nat.zero_le _, rfl, rfl, Below.refl _ _⟩
    case round =>
      obtain ⟨k, hk, rfl, rfl, hb⟩ := hrel
      by_cases hlt : k < n
      · obtain ⟨g, rfl, hg, _, hf⟩ := HX.out k hlt
        obtain ⟨c0, c1, c2, c3⟩ := hf.below hb hg
        have htk := HTK.out k hlt
        have hcl := HCL.out k
        generalize L.getD k ht0 = y at *
        obtain ⟨y0, y1, y2, y3⟩ := y
        simp only at c0 c1 c2 c3
        by_cases he : y2 = y3
        · have hs := Lib.hid (show crsL (L.take (k + 1)) = crsL (L.take k) from by rw [htk]; exact crsL_same _ _ he)
          have hne : (y2 != y3) = false := by simpa using he
          clear HX HTK HTA HCL htk hf he
          generalize crsL (L.take k) = cc at *
          go_wp2
          go_quiet (fail)
          go_wp2
          go_roundw
          case rel => exact ⟨k + 1, by omega, by go_num, by rw [hs.out], below_drewN hb _⟩
          case measure => simp [intOf]; omega
        · have hs := Lib.hid (show crsL (L.take (k + 1)) = crsL (L.take k) + 1 from by rw [htk]; exact crsL_more _ _ he)
          have hne : (y2 != y3) = true := by simpa using he
          clear HX HTK HTA HCL htk hf he
          generalize crsL (L.take k) = cc at *
          go_wp2
          go_quiet (fail)
          go_wp2
          go_roundw
          case rel => exact ⟨k + 1, by omega, by go_num, by rw [hs.out]; go_num, below_drewN hb _⟩
          case measure => simp [intOf]; omega
      · obtain rfl : k = n := by omega
        rw [HTA.out]
        have hcl := HCL.out k
        rw [HTA.out] at hcl
        have B3 := B2.trans (hb.mono B2.size)
        clear HX HTK HTA HCL
        go_wp2
        go_ret2
        exact ⟨rfl, B3⟩

/-! ### the program's -/
set_option maxRecDepth 100000 in
set_option maxHeartbeats 2000000 in
theorem crossingsOf_row (va ua : Option Addr) (vc uc : Nat) (B C : Nat) (p o : List Int) (w : World) (h : Ints w B (.slice va p.length vc) p) (k : Ints w C (.slice ua o.length uc) o) (hq : okPO p o = true) :
    CallsIn Fence.wide 8 Try.prog 11 #[.slice va p.length vc, .slice ua o.length uc] w fun e w' => e = .returned (.tuple #[.int .i64 (crsL (thH p o) : Nat), .int .i64 0]) ∧ Below w.heap.size w w' := by
  have HC := handedOf_any _ _ B C p o w h k
  rw [poC_true hq, hdP_true hq] at HC
  have hlen := thH_len hq
  refine callsIn_of_wp_marks Try.func11 rfl trivial ?_ rfl
  simp only [Try.ntmps11, List.size_toArray, List.length_cons, List.length_nil, Nat.reduceAdd, Nat.reduceSub, Array.replicate_succ, Array.replicate_zero, List.push_toArray, List.append_toArray, List.nil_append, List.cons_append]
  gi_wp2_with (refine ⟨trivial, ?_⟩; gi_at_call 28; refine (callsIn_wide.2 HC).mono ?_; rintro e w1 ⟨rfl, b1⟩)
  have bH := (b1.alloc b1.size (.cells #[.slice va p.length vc, .slice ua o.length uc] 42))
  have hB0 := bH.alloc bH.size (.cells #[.int .i64 0] 2)
  have bC := Blk.made (w1.alloc (.cells #[.slice va p.length vc, .slice ua o.length uc] 42)) #[.int .i64 0] 2
  have sz1 := b1.size
  rw [World.size_alloc] at bC
  have sz0 : ((w1.alloc (.cells #[.slice va p.length vc, .slice ua o.length uc] 42)).alloc (.cells #[.int .i64 0] 2)).heap.size = w1.heap.size + 2 := by simp
  obtain ⟨W0, hW0⟩ : ∃ W0, (w1.alloc (.cells #[.slice va p.length vc, .slice ua o.length uc] 42)).alloc (.cells #[.int .i64 0] 2) = W0 := ⟨_, rfl⟩
  rw [hW0] at hB0 bC sz0 ⊢
  clear hW0 bH HC
  refine range_bx (F := Fence.wide) rfl (by omega) (gf := 30) (bs := #[.agg #[.slice va p.length vc, .slice ua o.length uc]]) (lb := #[]) rfl trivial (enters_of Try.func30 (by kernel_rfl) rfl)
    (hdThrows_seq 7 (by omega) _ _ B C p o hq W0) (fun _ => rfl)
    (fun pre W => Blk W (w1.heap.size + 1) [.int .i64 (crsL (hbL pre) : Nat)] 2 ∧ Below w.heap.size w W)
    (OwnFrom.and (Own.from (blk_ownH (w1.heap.size + 1) (fun pre : List (HB p o) => [.int .i64 (crsL (hbL pre) : Nat)]) 2) _) (ownFrom_below (Nat.le_refl _) (by omega)))
    (fun pre W h' => ⟨h.below h'.2, k.below h'.2⟩)
    ⟨bC, hB0⟩
    (fun x => AxH p o (w1.heap.size + 2) (fun q => { tmps := #[.slice va p.length vc, .slice ua o.length uc, undef, undef, .int .i64 0, .int .i64 0, .pointer (some ⟨w1.heap.size, 0, none⟩), .int .i64 0, .pointer (some ⟨w1.heap.size + 1, 0, none⟩), q, .tuple #[.agg #[.slice va p.length vc, .slice ua o.length uc], .int .i64 0], .slice va p.length vc, .slice ua o.length uc, .tuple #[.agg #[.slice va p.length vc, .slice ua o.length uc], .int .i64 0], .agg #[.slice va p.length vc, .slice ua o.length uc], .int .i64 0, .int .i64 0, .bool false, undef, .agg #[.slice va p.length vc, .slice ua o.length uc], .func (.func 30) #[.agg #[.slice va p.length vc, .slice ua o.length uc]] #[], .agg #[.int .i64 (x.1 : Int), .int .i64 (atL p (x.1 : Int)), .int .i64 (atL o (x.1 : Int)), .int .i64 (atL o ((x.1 : Int) + atL p (x.1 : Int)))], undef, undef, undef, undef, undef, undef, undef, undef], defers := [] }) x)
    (fun x a' => axH_own _ _ (fun x q => { tmps := #[.slice va p.length vc, .slice ua o.length uc, undef, undef, .int .i64 0, .int .i64 0, .pointer (some ⟨w1.heap.size, 0, none⟩), .int .i64 0, .pointer (some ⟨w1.heap.size + 1, 0, none⟩), q, .tuple #[.agg #[.slice va p.length vc, .slice ua o.length uc], .int .i64 0], .slice va p.length vc, .slice ua o.length uc, .tuple #[.agg #[.slice va p.length vc, .slice ua o.length uc], .int .i64 0], .agg #[.slice va p.length vc, .slice ua o.length uc], .int .i64 0, .int .i64 0, .bool false, undef, .agg #[.slice va p.length vc, .slice ua o.length uc], .func (.func 30) #[.agg #[.slice va p.length vc, .slice ua o.length uc]] #[], .agg #[.int .i64 (x.1 : Int), .int .i64 (atL p (x.1 : Int)), .int .i64 (atL o (x.1 : Int)), .int .i64 (atL o ((x.1 : Int) + atL p (x.1 : Int)))], undef, undef, undef, undef, undef, undef, undef, undef], defers := [] }) x a') ?assign ?body ?done
  case assign =>
    rintro l pre x W K ⟨bc, hB⟩ hz hK
    rw [sz0] at hz hK
    unfold encH
    have hx := Blk.made W (hthV (hthAt p o x.1)).toArray 37
    have hfin := hK ((fun q => { tmps := #[.slice va p.length vc, .slice ua o.length uc, undef, undef, .int .i64 0, .int .i64 0, .pointer (some ⟨w1.heap.size, 0, none⟩), .int .i64 0, .pointer (some ⟨w1.heap.size + 1, 0, none⟩), q, .tuple #[.agg #[.slice va p.length vc, .slice ua o.length uc], .int .i64 0], .slice va p.length vc, .slice ua o.length uc, .tuple #[.agg #[.slice va p.length vc, .slice ua o.length uc], .int .i64 0], .agg #[.slice va p.length vc, .slice ua o.length uc], .int .i64 0, .int .i64 0, .bool false, undef, .agg #[.slice va p.length vc, .slice ua o.length uc], .func (.func 30) #[.agg #[.slice va p.length vc, .slice ua o.length uc]] #[], .agg #[.int .i64 (x.1 : Int), .int .i64 (atL p (x.1 : Int)), .int .i64 (atL o (x.1 : Int)), .int .i64 (atL o ((x.1 : Int) + atL p (x.1 : Int)))], undef, undef, undef, undef, undef, undef, undef, undef], defers := [] }) (.pointer (some ⟨W.heap.size, 0, none⟩))) (W.alloc (.cells (hthV (hthAt p o x.1)).toArray 37))
      ((KeepsOthers.alloc _ _).from _) ⟨bc.alloc _, hB.alloc hB.size _⟩ ⟨W.heap.size, by omega, hx, rfl⟩ (by simp) (Below.heap_alloc _ _ _ (by omega))
    clear hK hx
    gi_wp2
    exact hfin
  case body =>
    rintro l pre x a' W hz ⟨bc, hB⟩ ⟨bx, hbx, hxb, rfl⟩ hlt
    rw [sz0] at hz
    have c2 := hxb.cell 2
    have c3 := hxb.cell 3
    have d0 := bc.cell 0
    have f0 := bc.free 0
    simp only [hthV, List.getElem?_cons_zero, List.getElem?_cons_succ] at c2 c3 d0
    have hle := crsL_le (hbL pre)
    rw [hbL_len] at hle
    by_cases he : (hthAt p o x.1).2.2.1 = (hthAt p o x.1).2.2.2
    · have hs := Lib.hid (show crsL (hbL (pre ++ [x])) = crsL (hbL pre) from by rw [hbL_snoc]; exact crsL_same _ _ he)
      have hne : ((hthAt p o x.1).2.2.1 != (hthAt p o x.1).2.2.2) = false := by simpa using he
      have HBC := Lib.hid bc
      have HBB := Lib.hid hB
      clear h k he bC hB0 b1 bc hB hxb
      generalize (hthAt p o x.1).2.2.1 = y2 at *
      generalize (hthAt p o x.1).2.2.2 = y3 at *
      gi_wp2
      refine ⟨KeepsFrom.refl _ _, ⟨?_, HBB.out⟩, rfl⟩
      rw [hs.out]
      exact HBC.out
    · have hs := Lib.hid (show crsL (hbL (pre ++ [x])) = crsL (hbL pre) + 1 from by rw [hbL_snoc]; exact crsL_more _ _ he)
      have hne : ((hthAt p o x.1).2.2.1 != (hthAt p o x.1).2.2.2) = true := by simpa using he
      have HBC := Lib.hid bc
      have HBB := Lib.hid hB
      clear h k he bC hB0 b1 bc hB hxb
      generalize (hthAt p o x.1).2.2.1 = y2 at *
      generalize (hthAt p o x.1).2.2.2 = y3 at *
      generalize crsL (hbL pre) = cc at *
      gi_wp2
      refine ⟨(KeepsOthers.setCell _ _ _).from _, ⟨?_, HBB.out.setCell (by show w.heap.size ≤ w1.heap.size + 1; omega) _⟩, ?_⟩
      · rw [hs.out]
        exact HBC.out.set 0 _
      · rw [sz0, Below.heap_setCell _ _ _ _ (by show w1.heap.size + 2 + 2 ≠ w1.heap.size + 1; omega)]
  case done =>
    rintro D ys W hD hS ⟨bc, hB⟩ hK
    rw [hS] at bc
    have d0 := bc.cell 0
    simp only [List.getElem?_cons_zero] at d0
    have hle := crsL_le (thH p o)
    clear h k bC hB0 b1
    gi_wp2
    refine ⟨by simp, .inl ⟨_, _, rfl, run_takeDeferred hK, ?_⟩⟩
    exact ⟨.tuple #[.int .i64 (crsL (thH p o) : Nat), .int .i64 0], by simp [results, Try.results11, go_sem], rfl, hB.trans (belowK_b (w := w) (Nat.le_refl _) _ D _ _ (by omega) hK rfl rfl)⟩

theorem crossingsOf_impl (v u : Value) (B C : Nat) (p o : List Int) (w : World) (h : Ints w B v p) (k : Ints w C u o) :
    Calls Try.prog 11 #[v, u] w fun e w' => e = .returned (.tuple #[.int .i64 (crsA p o), .int .i64 (poC p o)]) ∧ Below w.heap.size w w' := by
  cases hq : okPO p o with
  | false =>
    have HC := handedOf_any v u B C p o w h k
    rw [crsA_false hq, poC_false hq]
    rw [poC_false hq, hdP_false hq] at HC
    clear h k
    go_enter Try.func11, Try.ntmps11
    go_wp2_with fail
    refine HC.mono ?_
    rintro e w1 ⟨rfl, b1⟩
    have B2 := b1.alloc b1.size (.cells #[.slice none 0 0, .slice none 0 0] 42)
    go_wp2
    go_ret2
    exact ⟨rfl, B2⟩
  | true =>
    rw [crsA_true hq, poC_true hq]
    obtain ⟨va, vc, rfl⟩ := ints_slH h
    obtain ⟨ua, uc, rfl⟩ := ints_slH k
    exact callsIn_wide.1 (crossingsOf_row va ua vc uc B C p o w h k hq)
end Go.Proofs.Ytlpeigeadjojnaa
