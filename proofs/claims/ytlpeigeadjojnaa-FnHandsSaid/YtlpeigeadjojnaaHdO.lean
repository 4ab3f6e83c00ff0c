/- IsAmbidextrous, the program's: the closure, slices.IndexFunc, slices.ContainsFunc. No conditions. -/
import Derived.Test.YtlpeigeadjojnaaHdN
namespace Go.Proofs.Ytlpeigeadjojnaa
open Go.RowKit
set_option linter.unusedSimpArgs false
set_option linter.unusedVariables false

theorem grid_blk_lt {E : TypeId} {w : World} {B C g n cap : Nat} {pss : List (List Int)} (h : Grid E w B C (.slice (some ⟨g, 0, none⟩) n cap) pss) : g < w.heap.size := by
  rcases h.shape with ⟨e, _⟩ | ⟨g', cap', e, _, hh, _⟩
  · simp at e
  · simp at e
    obtain ⟨rfl, _⟩ := e
    exact hh
theorem isOther_any (b g c B C D : Nat) (rows : List (List Int)) (u : Value) (r : List Int) (w : World) (hb : Blk w b [.slice (some ⟨g, 0, none⟩) c c] 59) (hg : Grid 39 w B C (.slice (some ⟨g, 0, none⟩) c c) rows) (hl : rows.length = c) (h1 : 1 ≤ c)
    (hr1 : 1 ≤ (rows.getD 0 []).length) (hr2 : (rows.getD 0 []).length ≤ 1000) (hu : Ints w D u r) :
    Calls Try.prog 47 #[u, .pointer (some ⟨b, 0, none⟩)] w fun e w' => e = .returned (.bool (!(trnB (rows.getD 0 []) r))) ∧ Below w.heap.size w w' := by
  have c0 := hb.cell 0
  simp only [List.getElem?_cons_zero] at c0
  obtain ⟨u0, hc0, hi0, _⟩ := hg.row 0 (by omega)
  have HR := isRotationOf_any u u0 D B r _ w hu hi0 hr1 hr2
  have hlen := hg.len
  have hc1 : (0 : Int) < (c : Int) := by omega
  clear hb hg hu hi0 hl hr1 hr2
  generalize trnB (rows.getD 0 []) r = q at *
  go_enter Try.func47, Try.ntmps47
  go_wp2_with fail
  refine HR.mono ?_
  rintro e w1 ⟨rfl, b1⟩
  go_wp2
  go_ret
  exact ⟨rfl, b1⟩

set_option maxRecDepth 10000 in
theorem indexFuncH_any (b g c B C : Nat) (rows : List (List Int)) (w : World) (hb : Blk w b [.slice (some ⟨g, 0, none⟩) c c] 59) (hg : Grid 39 w B C (.slice (some ⟨g, 0, none⟩) c c) rows) (hl : rows.length = c) (h1 : 1 ≤ c) (h2 : c ≤ 1000)
    (hr1 : 1 ≤ (rows.getD 0 []).length) (hr2 : (rows.getD 0 []).length ≤ 1000) :
    Calls Try.prog 74 #[.slice (some ⟨g, 0, none⟩) c c, .func (.func 47) #[] #[.pointer (some ⟨b, 0, none⟩)]] w fun e w' =>
      ∃ r : Int, e = .returned (.int .i64 r) ∧ -1 ≤ r ∧ r ≤ 1000 ∧ Hid (decide (0 ≤ r) = !((List.range c).all fun k => trnB (rows.getD 0 []) (rows.getD k []))) ∧ Below w.heap.size w w' := by
  have HROW := Lib.hid (fun W (hW : Below w.heap.size w W) k (hk : k < c) => show ∃ u, W.cell? ⟨g, k, none⟩ = some u ∧ Ints W B u (rows.getD k []) from by
    obtain ⟨u, e1, e2, _⟩ := (hg.below hW).row k (by omega)
    exact ⟨u, e1, e2⟩)
  have HO := Lib.hid (fun W (hW : Below w.heap.size w W) k u (hu : Ints W B u (rows.getD k [])) => isOther_any b g c B C B rows u (rows.getD k []) W (hb.below hW hb.lt) (hg.below hW) hl h1 hr1 hr2 hu)
  have HY := Lib.hid (fun (ha : ∀ k, k < c → trnB (rows.getD 0 []) (rows.getD k []) = true) => show (List.range c).all (fun k => trnB (rows.getD 0 []) (rows.getD k [])) = true from by
    rw [List.all_eq_true]
    exact fun k hk => ha k (List.mem_range.1 hk))
  have HNO := Lib.hid (fun k (hk : k < c) (ha : trnB (rows.getD 0 []) (rows.getD k []) = false) => show (List.range c).all (fun k => trnB (rows.getD 0 []) (rows.getD k [])) = false from by
    rw [List.all_eq_false]
    exact ⟨k, List.mem_range.2 hk, by rw [ha]; simp⟩)
  generalize hA : (List.range c).all (fun k => trnB (rows.getD 0 []) (rows.getD k [])) = A at *
  clear hb hg hl hr1 hr2 hA
  go_enter Try.func74, Try.ntmps74
  go_wp2
  go_loopw [5, 8] (fun _ i wr => ∃ k : Nat, k ≤ c ∧ i = .int .i64 k ∧ Hid (∀ j, j < k → trnB (rows.getD 0 []) (rows.getD j []) = true) ∧ Below w.heap.size w wr) (fun _ i _ => c - (intOf i).toNat)
  case atStart => exact ⟨0, Nat.zero_le _, rfl, Lib.hid fun j hj => by omega, Below.refl _ _⟩
  case round =>
    obtain ⟨k, hk, rfl, hall, hb⟩ := hrel
    by_cases hlt : k < c
    · obtain ⟨u, hcu, hui⟩ := HROW.out wr hb k hlt
      have HC := HO.out wr hb k u hui
      cases ht : trnB (rows.getD 0 []) (rows.getD k []) with
      | true =>
        have E : Hid (∀ j, j < k + 1 → trnB (rows.getD 0 []) (rows.getD j []) = true) := Lib.hid fun j hj => by
          by_cases e : j = k
          · subst e; exact ht
          · exact hall.out j (by omega)
        rw [ht] at HC
        clear HROW HO HY HNO hall ht hui
        go_wp2_with fail
        refine HC.mono ?_
        rintro e w1 ⟨rfl, b1⟩
        have hb2 := hb.trans (b1.mono hb.size)
        go_wp2
        go_roundw
        case rel => exact ⟨k + 1, by omega, by go_num, E, hb2⟩
        case measure => simp [intOf]; omega
      | false =>
        have E := Lib.hid (HNO.out k hlt ht)
        rw [ht] at HC
        clear HROW HO HY HNO hall ht hui
        go_wp2_with fail
        refine HC.mono ?_
        rintro e w1 ⟨rfl, b1⟩
        have hb2 := hb.trans (b1.mono hb.size)
        go_wp2
        go_ret
        exact ⟨_, rfl, by omega, by omega, Lib.hid (by rw [E.out]; simp), hb2⟩
    · obtain rfl : k = c := by omega
      have E := Lib.hid (HY.out hall.out)
      clear HROW HO HY HNO hall
      go_wp2
      go_ret
      exact ⟨_, rfl, by omega, by omega, Lib.hid (by rw [E.out]; decide), hb⟩

theorem containsFuncH_any (b g c B C : Nat) (rows : List (List Int)) (w : World) (hb : Blk w b [.slice (some ⟨g, 0, none⟩) c c] 59) (hg : Grid 39 w B C (.slice (some ⟨g, 0, none⟩) c c) rows) (hl : rows.length = c) (h1 : 1 ≤ c) (h2 : c ≤ 1000)
    (hr1 : 1 ≤ (rows.getD 0 []).length) (hr2 : (rows.getD 0 []).length ≤ 1000) :
    Calls Try.prog 49 #[.slice (some ⟨g, 0, none⟩) c c, .func (.func 47) #[] #[.pointer (some ⟨b, 0, none⟩)]] w fun e w' =>
      e = .returned (.bool (!((List.range c).all fun k => trnB (rows.getD 0 []) (rows.getD k [])))) ∧ Below w.heap.size w w' := by
  have HI := indexFuncH_any b g c B C rows w hb hg hl h1 h2 hr1 hr2
  generalize (List.range c).all (fun k => trnB (rows.getD 0 []) (rows.getD k [])) = A at *
  clear hb hg hl hr1 hr2
  go_enter Try.func49, Try.ntmps49
  go_wp2_with fail
  refine HI.mono ?_
  rintro e w1 ⟨r, rfl, r1, r2, hr, b1⟩
  go_wp2
  go_ret
  exact ⟨by rw [← hr.out]; first | done | rfl, b1⟩

set_option maxRecDepth 10000 in
theorem isAmbidextrous_impl (v u : Value) (B C : Nat) (p o : List Int) (w : World) (h : Ints w B v p) (k : Ints w C u o) :
    Calls Try.prog 16 #[v, u] w fun e w' => e = .returned (.bool (ambA p o)) ∧ Below w.heap.size w w' := by
  have HC := handedOf_any v u B C p o w h k
  cases hq : okPO p o with
  | false =>
    rw [ambA_false hq]
    rw [poC_false hq, hdP_false hq] at HC
    clear h k
    go_enter Try.func16, Try.ntmps16
    go_wp2_with fail
    refine HC.mono ?_
    rintro e w1 ⟨rfl, b1⟩
    have B2 := b1.alloc b1.size (.cells #[.slice none 0 0, .slice none 0 0] 42)
    go_wp2
    go_ret
    exact ⟨rfl, B2⟩
  | true =>
    obtain ⟨hp, ho⟩ := okPO_parts hq
    obtain ⟨c1, c4⟩ := okH_cnt ho
    obtain ⟨cp1, cp2⟩ := cpN_bound hq
    obtain ⟨c, hc⟩ : ∃ c : Nat, cntH o = c := ⟨(cntH o).toNat, by omega⟩
    have HT := fun W (hW : Below w.heap.size w W) => throwsAtTurns_any v u B C p o W (h.below hW) (k.below hW) hq c hc
    have hz := vlH_pos hq 0 (by omega) (by omega)
    have hz2 := vlK_len p o 0 (cpN p o)
    have hrow0 : (rwT p o c (cpN p o)).getD 0 [] = vlH p o 0 := by
      rw [rwT_at p o c _ 0 (by omega)]; rfl
    have hA : ambA p o = (List.range c).all (fun k => trnB ((rwT p o c (cpN p o)).getD 0 []) ((rwT p o c (cpN p o)).getD k [])) := by
      rw [ambA, hq, Bool.true_and, hc, Int.toNat_natCast, hrow0]
      rw [Bool.eq_iff_iff, List.all_eq_true, List.all_eq_true]
      constructor
      · intro hh x hx
        have := hh x hx
        rw [rwT_at p o c _ x (List.mem_range.1 hx)]
        exact this
      · intro hh x hx
        have := hh x hx
        rw [rwT_at p o c _ x (List.mem_range.1 hx)] at this
        exact this
    have HF := Lib.hid (fun (W : World) (b g D E : Nat) (hb : Blk W b [.slice (some ⟨g, 0, none⟩) c c] 59) (hg : Grid 39 W D E (.slice (some ⟨g, 0, none⟩) c c) (rwT p o c (cpN p o))) =>
      containsFuncH_any b g c D E _ W hb hg (rwT_len _ _ _ _) (by omega) (by omega) (by rw [hrow0]; exact hz) (by rw [hrow0]; unfold vlH; omega))
    rw [hA]
    rw [poC_true hq, hdP_true hq] at HC
    obtain ⟨va, vc, rfl⟩ := ints_slH h
    obtain ⟨ua, uc, rfl⟩ := ints_slH k
    clear h k hq hp ho hz hz2 hrow0 hA hc
    generalize hA2 : (List.range c).all (fun k => trnB ((rwT p o c (cpN p o)).getD 0 []) ((rwT p o c (cpN p o)).getD k [])) = A at *
    clear hA2
    go_enter Try.func16, Try.ntmps16
    go_wp2_with fail
    refine HC.mono ?_
    rintro e w1 ⟨rfl, b1⟩
    have B2 := b1.alloc b1.size (.cells #[.slice va p.length vc, .slice ua o.length uc] 42)
    have HTT := HT _ B2
    clear HC HT
    go_wp2_with fail
    refine HTT.mono ?_
    rintro e w2 ⟨g, D, rfl, hg, b2⟩
    have B3 := B2.trans (b2.mono B2.size)
    have hgb := hg.below ((Below.refl _ w2).alloc (Nat.le_refl _) (.cells #[.slice (some ⟨g, 0, none⟩) c c] 59))
    have qb := Blk.made w2 #[.slice (some ⟨g, 0, none⟩) c c] 59
    have B4 := B3.alloc B3.size (.cells #[.slice (some ⟨g, 0, none⟩) c c] 59)
    have HFF := HF.out _ w2.heap.size g _ _ qb hgb
    clear HTT HF hg hgb qb b2 B3 B2
    go_wp2_with fail
    refine HFF.mono ?_
    rintro e w3 ⟨rfl, b3⟩
    have B5 := B4.trans (b3.mono B4.size)
    go_wp2
    go_ret
    exact ⟨by cases A <;> rfl, B5⟩
end Go.Proofs.Ytlpeigeadjojnaa
