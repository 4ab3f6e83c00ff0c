/- PrimeParts, the model's. No conditions. -/
import Derived.Test.YtdghbbnddgngoaaPrG
import Derived.Test.YtdghbbnddgngoaaPrB
import Derived.Test.YtdghbbnddgngoaaOrS
import Derived.Test.YtdghbbnddgngoaaRot
import Derived.Test.YtdghbbnddgngoaaSpecThr
namespace Go.Proofs.Ytdghbbnddgngoaa
open Go.RowKit
set_option linter.unusedSimpArgs false
set_option linter.unusedVariables false

theorem ints_slOr2 {w : World} {B : Nat} {v : Value} (h : Ints w B v []) : ∃ a cap, v = .slice a 0 cap := by
  rcases h.shape with ⟨rfl, _⟩ | ⟨g, cap, rfl, _⟩
  · exact ⟨_, _, rfl⟩
  · exact ⟨_, _, rfl⟩
theorem Ints.mid {w : World} {B g cap : Nat} {xs : List Int} (h : Ints w B (.slice (some ⟨g, 0, none⟩) xs.length cap) xs) (hg : g < w.heap.size) (hc : xs.length ≤ cap) (hm : cap ≤ 9223372036854775807) (i k : Nat) (hik : i ≤ k) (hk : k ≤ xs.length) :
    Sees w (.slice (some ⟨g, i, none⟩) (k - i) (cap - i)) ((xs.drop i).take (k - i)) := by
  have hl : ((xs.drop i).take (k - i)).length = k - i := by simp; omega
  refine ⟨g, i, cap - i, by rw [hl], hg, by omega, by omega, fun j hj => ?_⟩
  rw [hl] at hj
  have := h.cell (i + j) (by omega)
  rw [this]
  simp [List.getD_eq_getElem?_getD, List.getElem?_take, hj]

set_option maxRecDepth 10000 in
set_option maxHeartbeats 2000000 in
theorem primeParts_spec (v : Value) (B : Nat) (p : List Int) (w : World) (h : Ints w B v p) :
    Calls Try.prog 25 #[v] w fun e w' => ∃ u, e = .returned (.tuple #[u, .int .i64 (prC p)]) ∧ Grid 24 w' w.heap.size w'.heap.size u (ppA p) ∧ Below w.heap.size w w' := by
  have HC := l11Code_any v B p w h
  by_cases hz : prC p = 0
  · rw [show ppA p = ppL p.length p from if_pos hz, hz]
    rw [hz] at HC
    obtain ⟨l1, l2⟩ := okPat_len (prC_zero hz).1
    obtain ⟨A, hA⟩ : ∃ A, ppL p.length p = A := ⟨_, rfl⟩
    rw [hA]
    have HA0 := Lib.hid hA
    have HZ0 := Lib.hid hz
    have HI := Lib.hid (fun W (hW : Below w.heap.size w W) => (h.below hW).sees l1)
    clear h hA hz
    go_enter Try.func25, Try.ntmps25
    go_wp2_with fail
    refine HC.mono ?_
    rintro e w1 ⟨rfl, b1⟩
    clear HC
    have b1' := b1.alloc b1.size (.cells #[] 24)
    have hG : Grid 24 (w1.alloc (.cells #[] 24)) w1.heap.size (w1.heap.size + 1) (.slice (some ⟨w1.heap.size, 0, none⟩) 0 0) [] := Grid.empty _ _ (Nat.le_refl _) (by omega)
    have HOW := l00Own_any v p _ (HI.out _ b1') (by omega)
    clear HI
    have hs1 := b1.size
    go_wp2_with fail
    refine HOW.mono ?_
    rintro e w2 ⟨x, rfl, ix, b2⟩
    replace hG := hG.below b2
    rw [World.size_alloc] at ix
    have B2 := b1'.trans (b2.mono b1'.size)
    have hz2 := b2.size
    rw [World.size_alloc] at hz2
    clear HOW b1' b2
    have hs1' := hs1
    generalize w1.heap.size = N1 at *
    have HNW := Lib.hid hs1'
    clear hs1'
    go_wp2
    go_loopw [5, 6] (fun o x wr => ∃ out r f C, r.length ≤ f ∧ (r = [] ∨ prC r = 0) ∧ Hid (out ++ ppL f r = A) ∧ out.length + r.length ≤ 12 ∧ Grid 24 wr N1 C o out ∧ Ints wr C x r ∧ N1 ≤ C ∧ C ≤ wr.heap.size ∧ Below w.heap.size w wr) (fun _ x _ => slLen x)
    case atStart => exact ⟨[], p, p.length, N1 + 1, Nat.le_refl _, .inr HZ0.out, Lib.hid (by rw [List.nil_append]; exact HA0.out), by simpa using l2, hG, ix, by omega, hz2, B2⟩
    case round =>
      clear hG ix B2 hz2 HA0 HZ0
      obtain ⟨out, r, f, C, hf, hr, hout, hlen, hg, ix, hC, hCs, hb⟩ := hrel
      by_cases hne : r = []
      · subst hne
        obtain ⟨a, c, rfl⟩ := ints_slOr2 ix
        have hfin : out = A := by have := hout.out; rwa [ppL_nil, List.append_nil] at this
        subst hfin
        clear hout ix
        go_wp2
        go_ret2
        exact ⟨_, rfl, hg.widen (by omega) hCs, hb⟩
      · have hzr : prC r = 0 := hr.resolve_left hne
        obtain ⟨e1, e2, k1, k2, _⟩ := rp_bounds hzr
        have HRP := l11Repeat_any _ _ r wr ix hzr
        rw [e1, e2] at HRP
        have hpl := partL_len hzr
        have hrl := restL_len hzr
        have HRO := Lib.hid (restL_ok hzr)
        obtain ⟨f', rfl⟩ : ∃ f', f = f' + 1 := ⟨f - 1, by omega⟩
        have hnew : (out ++ [partL r]) ++ ppL f' (restL r) = A := by
          have := hout.out
          rw [ppL_more hne] at this
          rw [List.append_assoc]
          exact this
        have HNEW := Lib.hid hnew
        obtain ⟨g, cap, rfl, _, hgl, hcap, hcm⟩ := ix.shape2 (by omega)
        have HMID := Lib.hid (fun W (hW : Below wr.heap.size wr W) => show Calls Try.prog 59 #[.slice (some ⟨g, rpI r, none⟩) (rpK r - rpI r) (cap - rpI r)] W fun e w' => ∃ u, e = .returned u ∧ Ints w' W.heap.size u (partL r) ∧ Below W.heap.size W w' from
          l00Own_any _ (partL r) W ((ix.below hW).mid (by have := hW.size; omega) hcap hcm (rpI r) (rpK r) (by omega) k2) (by omega))
        have hRL : (restL r) = r.take (rpI r) ++ r.drop (rpK r) := rfl
        have HRL := Lib.hid hRL
        have hr0 : 0 < r.length := by omega
        have hci : ¬ cap = rpI r := by omega
        have HIX := Lib.hid ix
        have HN12 : r.length ≤ 12 := by omega
        clear hr hout hzr e1 e2 hnew hRL ix
        generalize rpI r = i at *
        generalize rpK r = k at *
        go_wp2_with fail
        refine HRP.mono ?_
        rintro e w3 ⟨rfl, b3⟩
        have HM3 := HMID.out w3 b3
        have ix3 := HIX.out.below b3
        have hg3 := hg.below b3
        have hb3 := hb.trans (b3.mono hb.size)
        have hz3 := b3.size
        clear HRP HMID HIX hg hb
        go_wp2_with fail
        refine HM3.mono ?_
        rintro e w4 ⟨u4, rfl, i4, b4⟩
        have ix4 := ix3.below b4
        have hg4 := hg3.below b4
        have hb4 := hb3.trans (b4.mono hb3.size)
        have hz4 := b4.size
        have i4c : Ints w4 C u4 (partL r) := i4.mono (by omega)
        have hol : out.length ≤ 1000000 := by omega
        have hC4 : C ≤ w4.heap.size := by omega
        obtain ⟨ua, un, uc, rfl⟩ := i4.sl3
        clear HM3 ix3 hg3 hb3 i4 b3 b4
        go_wp2_with (at_builtin; refine append_grid _ rfl _ _ rfl _ _ _ _ rfl hg4 _ _ rfl i4c hol hC hC4 ?_; intro o5 w5 hg5 hk5; refine Hid.out ?_)
        have ix5 : Ints w5 C (.slice (some ⟨g, 0, none⟩) r.length cap) r := ix4.block fun j hj hlt => hk5.block j hlt (.inr (ix4.own_ge hj))
        have hb5 : Below w.heap.size w w5 := hk5.below hb4 (by have := HNW.out; omega) hb4.size
        have hz5 : w4.heap.size ≤ w5.heap.size := hk5.size
        have hN5 : N1 ≤ w5.heap.size := by omega
        have hgl5 : g < w5.heap.size := by omega
        have HTK := l00Own_any _ (r.take i) w5 (ix5.take_ i hgl5 hcap hcm (by omega)) (by simp; omega)
        have HDR := Lib.hid (fun W (hW : Below w5.heap.size w5 W) => (ix5.below hW).drop_ k (by have := hW.size; omega) hcap hcm k2)
        have HDR0 := Lib.hid (fun W (hW : Below w5.heap.size w5 W) (off : Nat) (hk : cap = k) => show Sees W (.slice (some ⟨g, off, none⟩) 0 0) (r.drop k) from by
          rw [List.drop_eq_nil_of_le (by omega)]
          exact ⟨g, off, 0, rfl, by have := hW.size; omega, Nat.le_refl _, by omega, fun i hi => absurd hi (Nat.not_lt_zero _)⟩)
        clear hk5 hg4 hb4 i4c ix4 ix5
        refine Lib.hid ?_
        go_wp2_with fail
        refine HTK.mono ?_
        rintro e w6 ⟨u6, rfl, i6, b6⟩
        have hg6 := hg5.below b6
        have hb6 := hb5.trans (b6.mono hb5.size)
        have hz6 := b6.size
        have hD1 := HDR.out w6 b6
        have hD0 := HDR0.out w6 b6
        have hl6 : (r.take i).length + (r.drop k).length ≤ 1000000000 := by simp; omega
        clear HTK HDR HDR0 hg5 hb5
        by_cases hck : cap = k
        · have hD := fun off => hD0 off hck
          have hnk : r.length - k = 0 := by omega
          clear hD0 hD1
          go_wp2_with (at_builtin; go_loud (refine append_sees _ rfl 24 Try.underlying24 _ _ rfl _ _ _ rfl i6 _ (r.drop k) rfl (hD _) hl6 hz6 ?_); intro v7 w7 i7 g7; refine Hid.out ?_)
          rw [← HRL.out] at i7
          have hg7 : Grid 24 w7 N1 w5.heap.size o5 (out ++ [partL r]) := hg6.keep fun j hlt h1 h2 => g7.block j hlt fun e => by have := i6.own_ge e.symm; omega
          have hb7 : Below w.heap.size w w7 := marked_below hb6 i6 (by have := HNW.out; omega) g7
          have hz7 : w5.heap.size ≤ w7.heap.size := Nat.le_trans hz6 g7.size
          clear g7 hg6 hb6 i6 b6 hD
          refine Lib.hid ?_
          go_wp2
          go_roundw
          case rel => exact ⟨out ++ [partL r], restL r, f', w5.heap.size, by omega, HRO.out, HNEW, by simp; omega, hg7, i7, hN5, hz7, hb7⟩
          case measure => rw [i7.slLen]; simp [slLen]; omega
        · clear hD0
          go_wp2_with (at_builtin; go_loud (refine append_sees _ rfl 24 Try.underlying24 _ _ rfl _ _ _ rfl i6 _ (r.drop k) rfl hD1 hl6 hz6 ?_); intro v7 w7 i7 g7; refine Hid.out ?_)
          rw [← HRL.out] at i7
          have hg7 : Grid 24 w7 N1 w5.heap.size o5 (out ++ [partL r]) := hg6.keep fun j hlt h1 h2 => g7.block j hlt fun e => by have := i6.own_ge e.symm; omega
          have hb7 : Below w.heap.size w w7 := marked_below hb6 i6 (by have := HNW.out; omega) g7
          have hz7 : w5.heap.size ≤ w7.heap.size := Nat.le_trans hz6 g7.size
          clear g7 hg6 hb6 i6 b6 hD1
          refine Lib.hid ?_
          go_wp2
          go_roundw
          case rel => exact ⟨out ++ [partL r], restL r, f', w5.heap.size, by omega, HRO.out, HNEW, by simp; omega, hg7, i7, hN5, hz7, hb7⟩
          case measure => rw [i7.slLen]; simp [slLen]; omega
  · rw [show ppA p = [] from if_neg hz]
    have hne : (prC p != 0) = true := by simpa using hz
    generalize prC p = c at *
    clear h hz
    go_enter Try.func25, Try.ntmps25
    go_wp2_with fail
    refine HC.mono ?_
    rintro e w1 ⟨rfl, b1⟩
    go_wp2
    go_ret2
    exact ⟨_, rfl, Grid.nil _ _ _ _, b1⟩
end Go.Proofs.Ytdghbbnddgngoaa
