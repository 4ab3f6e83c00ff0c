/- PrimeParts, the program's. No conditions. -/
import Derived.Test.YtdghbbnddgngoaaPrI
import Derived.Deep.RegionWith
namespace Go.Proofs.Ytdghbbnddgngoaa
open Go.RowKit
set_option linter.unusedSimpArgs false
set_option linter.unusedVariables false

/-- what is left, apart from the parts' rows -/
def LeftP (w : World) (N C : Nat) (v : Value) (r : List Int) : Prop := (Ints w 0 v r ∧ ∀ j, v.ownBlock = some j → j < N ∨ C ≤ j) ∨ (r = [] ∧ ∃ a c, v = .slice a 0 c)
theorem LeftP.len {w : World} {N C : Nat} {v : Value} {r : List Int} (h : LeftP w N C v r) : slLen v = r.length := by
  rcases h with ⟨h, _⟩ | ⟨rfl, a, c, rfl⟩
  · exact h.slLen
  · rfl
theorem LeftP.sl {w : World} {N C : Nat} {v : Value} (h : LeftP w N C v []) : ∃ a c, v = .slice a 0 c := by
  rcases h with ⟨h, _⟩ | ⟨_, h⟩
  · exact ints_slOr2 h
  · exact h

set_option maxRecDepth 10000 in
set_option maxHeartbeats 2000000 in
theorem primeParts_impl (v : Value) (B : Nat) (p : List Int) (w : World) (h : Ints w B v p) :
    Calls Try.prog 11 #[v] w fun e w' => ∃ u, e = .returned (.tuple #[u, .int .i64 (prC p)]) ∧ Grid 24 w' w.heap.size w'.heap.size u (ppA p) ∧ Below w.heap.size w w' := by
  have HC := ownStates_any v B p w h
  by_cases hz : prC p = 0
  · rw [show ppA p = ppL p.length p from if_pos hz, hz]
    rw [hz] at HC
    obtain ⟨l1, l2⟩ := okPat_len (prC_zero hz).1
    obtain ⟨A, hA⟩ : ∃ A, ppL p.length p = A := ⟨_, rfl⟩
    rw [hA]
    have HA0 := Lib.hid hA
    have HZ0 := Lib.hid hz
    have HI := Lib.hid (fun W (hW : Below w.heap.size w W) (C : Nat) => show LeftP W W.heap.size C v p from .inl ⟨(h.below hW).mono (Nat.zero_le _), fun j hj => .inl (by have := h.under j hj; have := hW.size; omega)⟩)
    obtain ⟨va, vc, rfl⟩ := ints_slO h
    clear h hA hz
    go_enter Try.func11, Try.ntmps11
    go_wp2_with fail
    refine HC.mono ?_
    rintro e w1 ⟨us, rfl, _, b1⟩
    clear HC
    have HL1 := HI.out w1 b1 w1.heap.size
    have hs1 := b1.size
    clear HI
    obtain ⟨N1, hN1⟩ : ∃ N1, w1.heap.size = N1 := ⟨_, rfl⟩
    rw [hN1] at HL1 hs1
    have hN1' : N1 ≤ w1.heap.size := by omega
    have HNW := Lib.hid hs1
    clear hN1
    go_wp2
    go_loopw [6, 7] (fun o x wr => ∃ out r f C, r.length ≤ f ∧ (r = [] ∨ prC r = 0) ∧ Hid (out ++ ppL f r = A) ∧ out.length + r.length ≤ 12 ∧ Grid 24 wr N1 C o out ∧ Hid (LeftP wr N1 C x r) ∧ N1 ≤ C ∧ C ≤ wr.heap.size ∧ Below w.heap.size w wr) (fun _ x _ => slLen x)
    case atStart => exact ⟨[], p, p.length, N1, Nat.le_refl _, .inr HZ0.out, Lib.hid (by rw [List.nil_append]; exact HA0.out), by simpa using l2, Grid.nil _ _ _ _, Lib.hid HL1, Nat.le_refl _, hN1', b1⟩
    case round =>
      clear HL1 HA0 HZ0 hN1' b1
      obtain ⟨out, r, f, C, hf, hr, hout, hlen, hg, hlp, hC, hCs, hb⟩ := hrel
      by_cases hne : r = []
      · subst hne
        obtain ⟨a, c, rfl⟩ := hlp.out.sl
        have hfin : out = A := by have := hout.out; rwa [ppL_nil, List.append_nil] at this
        subst hfin
        have hNW := HNW.out
        clear hout hlp
        go_wp2
        go_ret2
        exact ⟨_, rfl, hg.widen (by omega) hCs, hb⟩
      · have hzr : prC r = 0 := hr.resolve_left hne
        obtain ⟨ix, hap⟩ := hlp.out.resolve_right (fun e => hne e.1)
        obtain ⟨e1, e2, k1, k2, _⟩ := rp_bounds hzr
        have HRP := firstRepeat_impl _ _ r wr ix
        rw [(fr_yes hzr).1, (fr_yes hzr).2.1, e1, e2, hzr] at HRP
        have hpl := partL_len hzr
        have hrl := restL_len hzr
        have HRO := Lib.hid (restL_ok hzr)
        obtain ⟨f', rfl⟩ : ∃ f', f = f' + 1 := ⟨f - 1, by omega⟩
        have hnew : (out ++ [partL r]) ++ ppL f' (restL r) = A := by
          have := hout.out
          rw [ppL_more hne] at this
          rw [List.append_assoc]
          exact this
        have HNEW := Lib.hid hnew
        obtain ⟨g, cap, rfl, _, hgl, hcap, hcm⟩ := ix.shape2 (by omega)
        have hgap := hap g rfl
        have HMID := Lib.hid (fun W (hW : Below wr.heap.size wr W) => show Calls Try.prog 40 #[.slice (some ⟨g, rpI r, none⟩) (rpK r - rpI r) (cap - rpI r), .slice none 0 0] W fun e w' => ∃ u, e = .returned u ∧ Ints w' W.heap.size u (partL r) ∧ Below W.heap.size W w' from by
          have := joined_any _ (.slice none 0 0) (partL r) [] W ((ix.below hW).mid (by have := hW.size; omega) hcap hcm (rpI r) (rpK r) (by omega) k2) (.inl ⟨rfl, rfl⟩) (by omega) (by simp; omega)
          simpa using this)
        have hRL : (restL r) = r.take (rpI r) ++ r.drop (rpK r) := rfl
        have HRL := Lib.hid hRL
        have hr0 : 0 < r.length := by omega
        have hci : ¬ cap = rpI r := by omega
        have HIX := Lib.hid ix
        have HN12 : r.length ≤ 12 := by omega
        clear hr hout hzr e1 e2 hnew hRL ix hap hlp
        generalize rpI r = i at *
        generalize rpK r = k at *
        go_wp2_with fail
        refine HRP.mono ?_
        rintro e w3 ⟨rfl, b3⟩
        have HM3 := HMID.out w3 b3
        have ix3 := HIX.out.below b3
        have hg3 := hg.below b3
        have hb3 := hb.trans (b3.mono hb.size)
        have hz3 := b3.size
        clear HRP HMID HIX hg hb
        go_wp2_with fail
        refine HM3.mono ?_
        rintro e w4 ⟨u4, rfl, i4, b4⟩
        have ix4 := ix3.below b4
        have hg4 := hg3.below b4
        have hb4 := hb3.trans (b4.mono hb3.size)
        have hz4 := b4.size
        have i4c : Ints w4 C u4 (partL r) := i4.mono (by omega)
        have hol : out.length ≤ 1000000 := by omega
        have hC4 : C ≤ w4.heap.size := by omega
        obtain ⟨ua, un, uc, rfl⟩ := i4.sl3
        clear HM3 ix3 hg3 hb3 i4 b3 b4
        go_wp2_with (at_builtin; refine append_grid _ rfl _ _ rfl _ _ _ _ rfl hg4 _ _ rfl i4c hol hC hC4 ?_; intro o5 w5 hg5 hk5; refine Hid.out ?_)
        have ix5 : Ints w5 0 (.slice (some ⟨g, 0, none⟩) r.length cap) r := ix4.block fun j hj hlt => hk5.block j hlt (by have hj2 : g = j := (by simpa [Value.ownBlock] using hj); omega)
        have hb5 : Below w.heap.size w w5 := hk5.below hb4 (by have := HNW.out; omega) hb4.size
        have hz5 : w4.heap.size ≤ w5.heap.size := hk5.size
        have hN5 : N1 ≤ w5.heap.size := by omega
        have hgl5 : g < w5.heap.size := by omega
        have hik : i ≤ r.length := by omega
        have hle : (restL r).length < r.length := by omega
        have hdl : (r.drop k).length ≤ 12 := by simp; omega
        clear hk5 hg4 hb4 i4c ix4
        by_cases hck : cap = k
        · subst hck
          have hnk : r.length - cap = 0 := by omega
          have hS : Sees w5 (.slice (some ⟨g, 0, none⟩) 0 0) (r.drop cap) := by
            rw [List.drop_eq_nil_of_le (by omega)]
            exact ⟨g, 0, 0, rfl, hgl5, Nat.le_refl _, by omega, fun i hi => absurd hi (Nat.not_lt_zero _)⟩
          have HJ := pp_joined g cap i _ (r.drop cap) r w5 ix5 hgl5 hcap hcm hik HN12 hS hdl
          rw [← HRL.out] at HJ
          clear ix5 hS
          refine Lib.hid ?_
          go_wp2
          go_region_with (go_at_call 40; (with_reducible refine HJ.mono ?_); rintro e w7 ⟨u7, rfl, i7, b7⟩)
          all_goals (
            try simp only [List.getElem_toArray, List.getElem_cons_succ, List.getElem_cons_zero]
            try simp only [Act.put, List.setIfInBounds_toArray, List.set_cons_zero, List.set_cons_succ]
            have hg7 := hg5.below b7
            have hb7 := hb5.trans (b7.mono hb5.size)
            have hz7 := b7.size
            have hlp7 : LeftP w7 N1 w5.heap.size u7 (restL r) := by
              rcases i7 with h7 | h7
              · exact .inl ⟨h7.mono (Nat.zero_le _), fun j hj => .inr (h7.own_ge hj)⟩
              · exact .inr h7
            clear HJ hg5 hb5 i7 b7
            have HLP7 := Lib.hid hlp7
            clear hlp7
            go_wp2
            go_roundw
            case rel => exact ⟨out ++ [partL r], restL r, f', w5.heap.size, by omega, HRO.out, HNEW, by simp; omega, hg7, HLP7, hN5, hz7, hb7⟩
            case measure => rw [HLP7.out.len]; simp [slLen]; omega)
        · have hS := ix5.drop_ k hgl5 hcap hcm k2
          have HJ := pp_joined g cap i _ (r.drop k) r w5 ix5 hgl5 hcap hcm hik HN12 hS hdl
          rw [← HRL.out] at HJ
          clear ix5 hS
          refine Lib.hid ?_
          go_wp2
          go_region_with (go_at_call 40; (with_reducible refine HJ.mono ?_); rintro e w7 ⟨u7, rfl, i7, b7⟩)
          all_goals (
            try simp only [List.getElem_toArray, List.getElem_cons_succ, List.getElem_cons_zero]
            try simp only [Act.put, List.setIfInBounds_toArray, List.set_cons_zero, List.set_cons_succ]
            have hg7 := hg5.below b7
            have hb7 := hb5.trans (b7.mono hb5.size)
            have hz7 := b7.size
            have hlp7 : LeftP w7 N1 w5.heap.size u7 (restL r) := by
              rcases i7 with h7 | h7
              · exact .inl ⟨h7.mono (Nat.zero_le _), fun j hj => .inr (h7.own_ge hj)⟩
              · exact .inr h7
            clear HJ hg5 hb5 i7 b7
            have HLP7 := Lib.hid hlp7
            clear hlp7
            go_wp2
            go_roundw
            case rel => exact ⟨out ++ [partL r], restL r, f', w5.heap.size, by omega, HRO.out, HNEW, by simp; omega, hg7, HLP7, hN5, hz7, hb7⟩
            case measure => rw [HLP7.out.len]; simp [slLen]; omega)
  · rw [show ppA p = [] from if_neg hz]
    have hne : (prC p != 0) = true := by simpa using hz
    generalize prC p = c at *
    clear h hz
    go_enter Try.func11, Try.ntmps11
    go_wp2_with fail
    refine HC.mono ?_
    rintro e w1 ⟨us, rfl, _, b1⟩
    go_wp2
    go_ret2
    exact ⟨_, rfl, Grid.nil _ _ _ _, b1⟩
end Go.Proofs.Ytdghbbnddgngoaa
