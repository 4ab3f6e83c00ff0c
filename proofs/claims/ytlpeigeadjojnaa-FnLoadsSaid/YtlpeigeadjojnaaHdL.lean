/- LoadsOf, the model's and the program's. No conditions. -/
import Derived.Test.YtlpeigeadjojnaaHdX
import Derived.Test.YtlpeigeadjojnaaHdE
namespace Go.Proofs.Ytlpeigeadjojnaa
open Go.RowKit Go.Shelf
set_option linter.unusedSimpArgs false
set_option linter.unusedVariables false
attribute [local go_sem] Oper.semAt_some

theorem ints_blk_lt {w : World} {B g n cap : Nat} {xs : List Int} (h : Ints w B (.slice (some ⟨g, 0, none⟩) n cap) xs) : g < w.heap.size := by
  rcases h.shape with ⟨e, _⟩ | ⟨g', c', e, _, hlt, _⟩
  · simp at e
  · simp at e
    obtain ⟨rfl, _⟩ := e
    exact hlt
/-- how many throws a hand makes -/
def cntF (L : List HthT) (h : Int) : Nat := (L.filter fun t => t.2.2.1 == h).length
theorem cntF_le (L : List HthT) (h : Int) : cntF L h ≤ L.length := List.length_filter_le _ _
theorem cntF_snoc (L : List HthT) (y : HthT) (h : Int) : cntF (L ++ [y]) h = cntF L h + (if y.2.2.1 = h then 1 else 0) := by
  unfold cntF
  rw [List.filter_append, List.length_append]
  by_cases e : y.2.2.1 = h
  · rw [if_pos e]; simp [e]
  · have : (y.2.2.1 == h) = false := by simpa using e
    rw [if_neg e]; simp [this]
def ldL (n : Nat) (L : List HthT) : List Int := (List.range n).map fun h : Nat => ((cntF L (h : Int) : Nat) : Int)
theorem ldL_len (n : Nat) (L : List HthT) : (ldL n L).length = n := by simp [ldL]
theorem ldL_at (n : Nat) (L : List HthT) (i : Nat) (hi : i < n) : (ldL n L).getD i 0 = ((cntF L (i : Int) : Nat) : Int) := by simp [ldL, hi]
theorem ldL_nil (n : Nat) : ldL n [] = List.replicate n 0 := by
  apply List.ext_getElem
  · simp [ldL]
  · intro i h1 h2
    simp [ldL, cntF]
theorem ldL_snoc (n : Nat) (L : List HthT) (y : HthT) (i : Nat) (hy : y.2.2.1 = (i : Int)) (hi : i < n) : (ldL n L).set i (((cntF L (i : Int) : Nat) : Int) + 1) = ldL n (L ++ [y]) := by
  apply List.ext_getElem
  · simp [ldL]
  · intro j h1 h2
    rw [List.getElem_set]
    by_cases e : i = j
    · subst e
      rw [if_pos rfl]
      simp [ldL, cntF_snoc, hy]
    · rw [if_neg e]
      have : ¬ (i : Int) = (j : Int) := by omega
      simp [ldL, cntF_snoc, hy, this]
/-- a throw of a common period -/
theorem thK_mem {p o : List Int} {t : HthT} : ∀ {k : Nat}, t ∈ thK p o k → ∃ b, b < k ∧ ¬ atL p (b : Int) = 0 ∧ t = hthAt p o b
  | 0, h => by simp [thK] at h
  | k + 1, h => by
    by_cases h0 : atL p (k : Int) = 0
    · rw [thK_zero h0] at h
      obtain ⟨b, h1, h2⟩ := thK_mem h
      exact ⟨b, by omega, h2⟩
    · rw [thK_more h0, List.mem_append] at h
      rcases h with h | h
      · obtain ⟨b, h1, h2⟩ := thK_mem h
        exact ⟨b, by omega, h2⟩
      · exact ⟨k, by omega, h0, by simpa using h⟩
theorem thH_at {p o : List Int} (hq : okPO p o = true) (k : Nat) (hk : k < (thH p o).length) : ∃ i : Nat, ((thH p o).getD k ht0).2.2.1 = (i : Int) ∧ (i : Int) < cntH o := by
  have hm : (thH p o).getD k ht0 ∈ thH p o := by
    rw [List.getD_eq_getElem?_getD, List.getElem?_eq_getElem hk]
    exact List.getElem_mem _
  obtain ⟨b, _, _, e⟩ := thK_mem hm
  rw [e]
  have := atO_rng (okPO_parts hq).2 (b : Int)
  exact ⟨(atL o (b : Int)).toNat, by show atL o (b : Int) = _; omega, by omega⟩
def ldA (p o : List Int) : List Int := if okPO p o then ldL (cntH o).toNat (thH p o) else []
theorem ldA_true {p o : List Int} (h : okPO p o = true) : ldA p o = ldL (cntH o).toNat (thH p o) := by rw [ldA, if_pos h]
theorem ldA_false {p o : List Int} (h : okPO p o = false) : ldA p o = [] := by rw [ldA, if_neg (by simp [h])]
theorem ldA_len (p o : List Int) : (ldA p o).length ≤ 4 := by
  cases h : okPO p o with
  | false => rw [ldA_false h]; simp
  | true => rw [ldA_true h, ldL_len]; have := okH_cnt (okPO_parts h).2; omega

set_option maxRecDepth 10000 in
set_option maxHeartbeats 1000000 in
theorem loadsOf_spec (v u : Value) (B C : Nat) (p o : List Int) (w : World) (h : Ints w B v p) (k : Ints w C u o) :
    Calls Try.prog 20 #[v, u] w fun e w' => ∃ x, e = .returned (.tuple #[x, .int .i64 (poC p o)]) ∧ Ints w' w.heap.size x (ldA p o) ∧ Below w.heap.size w w' := by
  have HC := l14Code_any v u B C p o w h k
  cases hq : okPO p o with
  | false =>
    rw [ldA_false hq, poC_false hq]
    rw [poC_false hq] at HC
    clear h k
    go_enter Try.func20, Try.ntmps20
    go_wp2_with fail
    refine HC.mono ?_
    rintro e w1 ⟨rfl, b1⟩
    go_wp2
    go_ret2
    exact ⟨_, rfl, Ints.nil _ _, b1⟩
  | true =>
    obtain ⟨i0, hi0, hz0, hz1, hz2⟩ := info_parts Try.info64
    obtain ⟨hp, ho⟩ := okPO_parts hq
    obtain ⟨ol1, ol2⟩ := okH_len ho
    obtain ⟨c1, c4⟩ := okH_cnt ho
    have HT := fun W (hW : Below w.heap.size w W) => l14Throws_any v u B C p o W (h.below hW) (k.below hW) hq
    have hlen := thH_len hq
    obtain ⟨g, cap, rfl, _, hg, _, _⟩ := k.shape2 ol1
    have HN := fun W (hW : Below w.heap.size w W) => l14Count_row g o.length cap C o W (k.below hW) rfl (by omega) (fun k hk => by have := okH_at ho k hk; omega)
    have HAT := Lib.hid (fun k hk => thH_at hq k hk)
    rw [ldA_true hq, poC_true hq]
    rw [poC_true hq] at HC
    obtain ⟨c, hc⟩ : ∃ c : Nat, cntH o = c := ⟨(cntH o).toNat, by omega⟩
    rw [hc] at HN HAT c1 c4
    rw [hc, Int.toNat_natCast]
    clear h k hq hp ho hc
    generalize thH p o = L at *
    go_enter Try.func20, Try.ntmps20
    go_wp2_with fail
    refine HC.mono ?_
    rintro e w1 ⟨rfl, b1⟩
    go_wp2_with fail
    refine (HN _ b1).mono ?_
    rintro e w1' ⟨rfl, rfl⟩
    have hs1 := b1.size
    go_wp2_with (at_make; refine wpList_make_full _ rfl _ _ 24 rfl w1.heap.size 2 i0 (.int .i64 0) 1 Try.underlying24 hi0 hz0 hz1 _ _ _ _ c rfl rfl rfl rfl (by rw [hz2]; omega) (by unfold maxLen; omega) (Nat.le_refl _) ?_; intro w3 hown hgr; refine Hid.out ?_)
    have hI := made_ints hown
    have b3 : Below w1.heap.size w1 w3 := (Below.refl _ _).grown hgr (Nat.le_refl _) (by simp)
    have b3w := b1.trans (b3.mono hs1)
    clear hown hgr hi0 hz0 hz1 hz2
    have HTT := HT _ b3w
    clear HT HC HN
    refine Lib.hid ?_
    go_wp2_with fail
    refine HTT.mono ?_
    rintro e w4 ⟨x, rfl, i4, b4⟩
    have hI4 := hI.below b4
    rw [← ldL_nil] at hI4
    have hlt3 := ints_blk_lt hI
    obtain ⟨a, cc, rfl, hx⟩ := hth_sl i4
    have HX := Lib.hid hx
    have HTK := Lib.hid (fun k (hk : k < L.length) => hth_take L k hk)
    have HTA : Hid (L.take L.length = L) := Lib.hid (List.take_length)
    have HST := Lib.hid (fun k (hk : k < L.length) (i : Nat) (h1 : (L.getD k ht0).2.2.1 = (i : Int)) (h2 : (i : Int) < (c : Int)) => show (ldL c (L.take k)).set i (((cntF (L.take k) (i : Int) : Nat) : Int) + 1) = ldL c (L.take (k + 1)) from by
      rw [hth_take L k hk]
      exact ldL_snoc c _ _ i h1 (by omega))
    have HLA := Lib.hid (fun k (i : Nat) (h2 : (i : Int) < (c : Int)) => ldL_at c (L.take k) i (by omega))
    have HLL := Lib.hid (fun k => ldL_len c (L.take k))
    have HCL := Lib.hid (fun k (i : Int) => show cntF (L.take k) i ≤ 144 from by have h1 := cntF_le (L.take k) i; have := List.length_take_le' k L; omega)
    have B4 := b3w.trans (b4.mono b3w.size)
    have hgl : w1.heap.size < w4.heap.size := by have := b4.size; omega
    clear HTT i4 hx b4 hI
    generalize hn : L.length = n at *
    clear hn
    go_wp2
    go_loopw [9] (fun i wr => ∃ k : Nat, k ≤ n ∧ i = .int .i64 k ∧ Ints wr w1.heap.size (.slice (some ⟨w1.heap.size, 0, none⟩) c c) (ldL c (L.take k)) ∧ w4.grownBy wr (some w1.heap.size)) (fun i _ => n - (intOf i).toNat)
    case atStart => exact ⟨0, Nat.zero_le _, rfl, hI4, World.grownBy.refl _ _⟩
    case round =>
      obtain ⟨k, hk, rfl, hi, hgw⟩ := hrel
      clear hI4
      by_cases hlt : k < n
      · obtain ⟨g2, rfl, hg2, hB2, hf⟩ := HX.out k hlt
        have hf2 : FourH wr g2 (k * 4) (L.getD k ht0) := by
          have e := hgw.block g2 hg2 (by simp; omega)
          exact ⟨by rw [← hf.1]; simp [World.cell?, e], by rw [← hf.2.1]; simp [World.cell?, e], by rw [← hf.2.2.1]; simp [World.cell?, e], by rw [← hf.2.2.2]; simp [World.cell?, e]⟩
        obtain ⟨d0, d1, d2, d3⟩ := hf2
        obtain ⟨i, hi1, hi2⟩ := HAT.out k hlt
        have hold := hi.cell i (by rw [HLL.out]; omega)
        rw [HLA.out k i hi2] at hold
        have hfree := hi.free i
        have hset := hi.set i (((cntF (L.take k) (i : Int) : Nat) : Int) + 1)
        rw [HST.out k hlt i hi1 hi2] at hset
        have hcl := HCL.out k (i : Int)
        have hgn := hi.stored i (((cntF (L.take k) (i : Int) : Nat) : Int) + 1) hgw
        have HSET := Lib.hid hset
        have HGN := Lib.hid hgn
        rw [hi1] at d2
        clear HX HTK HTA HST HLA HLL HCL HAT hf hset hgn hi hgw hi1
        generalize cntF (L.take k) (i : Int) = q at *
        go_wp2
        go_roundw
        case rel => exact ⟨k + 1, by omega, by go_num, HSET.out, HGN.out⟩
        case measure => simp [intOf]; omega
      · obtain rfl : k = n := by omega
        rw [HTA.out] at hi
        clear HX HTK HTA HST HLA HLL HCL HAT
        have B5 : Below w.heap.size w wr := B4.grown hgw B4.size (fun j hj => by cases hj; exact hs1)
        go_wp2
        go_ret2
        exact ⟨_, rfl, hi.mono hs1, B5⟩

/-! ### the program's -/
theorem ldRow_own {p o : List Int} (g n c : Nat) : Go.Own (fun (pre : List (HB p o)) W => Ints W g (.slice (some ⟨g, 0, none⟩) c c) (ldL c (hbL pre))) := fun s X Y row hs hg hr =>
  hs.block fun b hb hlt => hg.block b hlt fun e => by
    obtain ⟨ob, ho, hc⟩ := hr b e.symm
    rcases hs.2 with ⟨h1, _⟩ | ⟨g', cap, cur, h1, _, hh, _⟩
    · simp at h1
    · simp at h1
      obtain ⟨rfl, _⟩ := h1
      simp [Value.ownBlock] at hb
      subst hb
      rw [hh] at ho
      cases ho
      cases hc

set_option maxRecDepth 100000 in
set_option maxHeartbeats 2000000 in
theorem loadsOf_row (va ua : Option Addr) (vc uc : Nat) (B C : Nat) (p o : List Int) (w : World) (h : Ints w B (.slice va p.length vc) p) (k : Ints w C (.slice ua o.length uc) o) (hq : okPO p o = true) (c : Nat) (hc : cntH o = (c : Int)) :
    CallsIn Fence.wide 8 Try.prog 19 #[.slice va p.length vc, .slice ua o.length uc] w fun e w' => ∃ x, e = .returned (.tuple #[x, .int .i64 0]) ∧ Ints w' w.heap.size x (ldL c (thH p o)) ∧ Below w.heap.size w w' := by
  obtain ⟨i0, hi0, hz0, hz1, hz2⟩ := info_parts Try.info64
  have HC := handedOf_any _ _ B C p o w h k
  rw [poC_true hq, hdP_true hq] at HC
  obtain ⟨hp, ho⟩ := okPO_parts hq
  obtain ⟨ol1, ol2⟩ := okH_len ho
  obtain ⟨c1, c4⟩ := okH_cnt ho
  have hlen := thH_len hq
  have HH := fun W (hW : Below w.heap.size w W) => hands_any _ C o W (k.below hW) (okH_parts ho).2.1 ol1 ol2
  rw [hc] at HH c1 c4
  refine callsIn_of_wp_marks Try.func19 rfl trivial ?_ rfl
  simp only [Try.ntmps19, List.size_toArray, List.length_cons, List.length_nil, Nat.reduceAdd, Nat.reduceSub, Array.replicate_succ, Array.replicate_zero, List.push_toArray, List.append_toArray, List.nil_append, List.cons_append]
  refine wpIn_wide.2 ?_
  go_wp2_with fail
  refine HC.mono ?_
  rintro e w1 ⟨rfl, b1⟩
  have bH := (b1.alloc b1.size (.cells #[.slice va p.length vc, .slice ua o.length uc] 42))
  have sz1 := b1.size
  have HHH := HH _ bH
  clear HC HH
  go_wp2_with fail
  refine HHH.mono ?_
  rintro e w2' ⟨rfl, rfl⟩
  have qH := Blk.made w1 #[.slice va p.length vc, .slice ua o.length uc] 42
  obtain ⟨w2, hw2⟩ : ∃ w2, w1.alloc (.cells #[.slice va p.length vc, .slice ua o.length uc] 42) = w2 := ⟨_, rfl⟩
  have sz2 : w1.heap.size < w2.heap.size := by rw [← hw2]; simp
  rw [hw2] at bH qH ⊢
  clear hw2 HHH
  go_wp2_with (at_make; refine wpList_make_full _ rfl _ _ 24 rfl w2.heap.size 2 i0 (.int .i64 0) 1 Try.underlying24 hi0 hz0 hz1 _ _ _ _ c rfl rfl rfl rfl (by rw [hz2]; omega) (by unfold maxLen; omega) (Nat.le_refl _) ?_; intro w3 hown hgr; refine Hid.out ?_)
  have hI := made_ints hown
  rw [← ldL_nil] at hI
  have b3 : Below w2.heap.size w2 w3 := (Below.refl _ _).grown hgr (Nat.le_refl _) (by simp)
  have hlt3 := ints_blk_lt hI
  have b3w := bH.trans (b3.mono bH.size)
  have qH3 := (qH.below b3 qH.lt).alloc (.cells #[.slice (some ⟨w2.heap.size, 0, none⟩) c c] 24)
  have ch0 := qH3.cell 0
  have ch1 := qH3.cell 1
  simp only [List.getElem?_cons_zero, List.getElem?_cons_succ] at ch0 ch1
  clear hown hgr hi0 hz0 hz1 hz2 b3 qH qH3
  have hI0 := hI.alloc (.cells #[.slice (some ⟨w2.heap.size, 0, none⟩) c c] 24)
  have bC := Blk.made w3 #[.slice (some ⟨w2.heap.size, 0, none⟩) c c] 24
  have hB0 := b3w.alloc b3w.size (.cells #[.slice (some ⟨w2.heap.size, 0, none⟩) c c] 24)
  have sz0 : (w3.alloc (.cells #[.slice (some ⟨w2.heap.size, 0, none⟩) c c] 24)).heap.size = w3.heap.size + 1 := by simp
  clear hI b3w bH
  refine Lib.hid ?_
  go_wp2
  obtain ⟨W0, hW0⟩ : ∃ W0, w3.alloc (.cells #[.slice (some ⟨w2.heap.size, 0, none⟩) c c] 24) = W0 := ⟨_, rfl⟩
  rw [hW0] at hI0 bC hB0 sz0 ⊢
  clear hW0 ch0 ch1
  refine (wpIn_wide (n := 8)).1 ?_
  refine range_bx (F := Fence.wide) rfl (by omega) (gf := 30) (bs := #[.agg #[.slice va p.length vc, .slice ua o.length uc]]) (lb := #[]) rfl trivial (enters_of Try.func30 (by kernel_rfl) rfl)
    (hdThrows_seq 7 (by omega) _ _ B C p o hq W0) (fun _ => rfl)
    (fun pre W => (Blk W w3.heap.size [.slice (some ⟨w2.heap.size, 0, none⟩) c c] 24 ∧ Ints W w2.heap.size (.slice (some ⟨w2.heap.size, 0, none⟩) c c) (ldL c (hbL pre))) ∧ Below w.heap.size w W)
    (OwnFrom.and (OwnFrom.and (Own.from (blk_ownH w3.heap.size (fun pre : List (HB p o) => [.slice (some ⟨w2.heap.size, 0, none⟩) c c]) 24) _) (Own.from (ldRow_own w2.heap.size 0 c) _)) (ownFrom_below (Nat.le_refl _) (by omega)))
    (fun pre W h' => ⟨h.below h'.2, k.below h'.2⟩)
    ⟨⟨bC, hI0⟩, hB0⟩
    (fun x => AxH p o (w3.heap.size + 1) (fun q => { tmps := #[.slice va p.length vc, .slice ua o.length uc, undef, undef, .slice none 0 0, .int .i64 0, .pointer (some ⟨w1.heap.size, 0, none⟩), .int .i64 0, .pointer (some ⟨w3.heap.size, 0, none⟩), q, .tuple #[.agg #[.slice va p.length vc, .slice ua o.length uc], .int .i64 0], .slice va p.length vc, .slice ua o.length uc, .tuple #[.agg #[.slice va p.length vc, .slice ua o.length uc], .int .i64 0], .agg #[.slice va p.length vc, .slice ua o.length uc], .int .i64 0, .int .i64 0, .bool false, undef, .pointer (some ⟨w1.heap.size, 1, none⟩), .slice ua o.length uc, .int .i64 c, .slice (some ⟨w2.heap.size, 0, none⟩) c c, .agg #[.slice va p.length vc, .slice ua o.length uc], .func (.func 30) #[.agg #[.slice va p.length vc, .slice ua o.length uc]] #[], .agg #[.int .i64 (x.1 : Int), .int .i64 (atL p (x.1 : Int)), .int .i64 (atL o (x.1 : Int)), .int .i64 (atL o ((x.1 : Int) + atL p (x.1 : Int)))], undef, undef, undef, undef, undef, undef, undef, undef], defers := [] }) x)
    (fun x a' => axH_own _ _ (fun x q => { tmps := #[.slice va p.length vc, .slice ua o.length uc, undef, undef, .slice none 0 0, .int .i64 0, .pointer (some ⟨w1.heap.size, 0, none⟩), .int .i64 0, .pointer (some ⟨w3.heap.size, 0, none⟩), q, .tuple #[.agg #[.slice va p.length vc, .slice ua o.length uc], .int .i64 0], .slice va p.length vc, .slice ua o.length uc, .tuple #[.agg #[.slice va p.length vc, .slice ua o.length uc], .int .i64 0], .agg #[.slice va p.length vc, .slice ua o.length uc], .int .i64 0, .int .i64 0, .bool false, undef, .pointer (some ⟨w1.heap.size, 1, none⟩), .slice ua o.length uc, .int .i64 c, .slice (some ⟨w2.heap.size, 0, none⟩) c c, .agg #[.slice va p.length vc, .slice ua o.length uc], .func (.func 30) #[.agg #[.slice va p.length vc, .slice ua o.length uc]] #[], .agg #[.int .i64 (x.1 : Int), .int .i64 (atL p (x.1 : Int)), .int .i64 (atL o (x.1 : Int)), .int .i64 (atL o ((x.1 : Int) + atL p (x.1 : Int)))], undef, undef, undef, undef, undef, undef, undef, undef], defers := [] }) x a') ?assign ?body ?done
  case assign =>
    rintro l pre x W K ⟨⟨bc, hi⟩, hB⟩ hz hK
    rw [sz0] at hz hK
    unfold encH
    have hx := Blk.made W (hthV (hthAt p o x.1)).toArray 37
    have hfin := hK ((fun q => { tmps := #[.slice va p.length vc, .slice ua o.length uc, undef, undef, .slice none 0 0, .int .i64 0, .pointer (some ⟨w1.heap.size, 0, none⟩), .int .i64 0, .pointer (some ⟨w3.heap.size, 0, none⟩), q, .tuple #[.agg #[.slice va p.length vc, .slice ua o.length uc], .int .i64 0], .slice va p.length vc, .slice ua o.length uc, .tuple #[.agg #[.slice va p.length vc, .slice ua o.length uc], .int .i64 0], .agg #[.slice va p.length vc, .slice ua o.length uc], .int .i64 0, .int .i64 0, .bool false, undef, .pointer (some ⟨w1.heap.size, 1, none⟩), .slice ua o.length uc, .int .i64 c, .slice (some ⟨w2.heap.size, 0, none⟩) c c, .agg #[.slice va p.length vc, .slice ua o.length uc], .func (.func 30) #[.agg #[.slice va p.length vc, .slice ua o.length uc]] #[], .agg #[.int .i64 (x.1 : Int), .int .i64 (atL p (x.1 : Int)), .int .i64 (atL o (x.1 : Int)), .int .i64 (atL o ((x.1 : Int) + atL p (x.1 : Int)))], undef, undef, undef, undef, undef, undef, undef, undef], defers := [] }) (.pointer (some ⟨W.heap.size, 0, none⟩))) (W.alloc (.cells (hthV (hthAt p o x.1)).toArray 37))
      ((KeepsOthers.alloc _ _).from _) ⟨⟨bc.alloc _, hi.alloc _⟩, hB.alloc hB.size _⟩ ⟨W.heap.size, by omega, hx, rfl⟩ (by simp) (Below.heap_alloc _ _ _ (by omega))
    clear hK hx
    gi_wp2
    exact hfin
  case body =>
    rintro l pre x a' W hz ⟨⟨bc, hi⟩, hB⟩ ⟨bx, hbx, hxb, rfl⟩ hlt
    rw [sz0] at hz
    have c2 := hxb.cell 2
    have d0 := bc.cell 0
    simp only [hthV, List.getElem?_cons_zero, List.getElem?_cons_succ] at c2 d0
    have hr := atO_rng ho (x.1 : Int)
    obtain ⟨i, hi1⟩ : ∃ i : Nat, (hthAt p o x.1).2.2.1 = (i : Int) := ⟨(atL o (x.1 : Int)).toNat, by show atL o (x.1 : Int) = _; omega⟩
    have hi2 : i < c := by
      have : (hthAt p o x.1).2.2.1 = atL o (x.1 : Int) := rfl
      omega
    have hold := hi.cell i (by rw [ldL_len]; exact hi2)
    rw [ldL_at c _ i hi2] at hold
    have hfree := hi.free i
    have hset := hi.set i (((cntF (hbL pre) (i : Int) : Nat) : Int) + 1)
    rw [ldL_snoc c _ _ i hi1 hi2, ← hbL_snoc] at hset
    have hcl := cntF_le (hbL pre) (i : Int)
    rw [hbL_len] at hcl
    have HSET := Lib.hid hset
    have HBC := Lib.hid bc
    have HBB := Lib.hid hB
    rw [hi1] at c2
    clear h k hset bC hI0 hB0 b1 bc hB hxb hi hi1 hr
    generalize cntF (hbL pre) (i : Int) = q at *
    gi_wp2
    refine ⟨(KeepsOthers.setCell _ _ _).from _, ⟨⟨HBC.out.other (by show w3.heap.size ≠ w2.heap.size; omega) _, HSET.out⟩, HBB.out.setCell (by show w.heap.size ≤ w2.heap.size; omega) _⟩, ?_⟩
    rw [sz0, Below.heap_setCell _ _ _ _ (by show w3.heap.size + 1 + 2 ≠ w2.heap.size; omega)]
  case done =>
    rintro D ys W hD hS ⟨⟨bc, hi⟩, hB⟩ hK
    rw [hS] at hi
    have d0 := bc.cell 0
    simp only [List.getElem?_cons_zero] at d0
    clear h k bC hI0 hB0 b1
    go_wp2
    refine ⟨by simp, .inl ⟨_, _, rfl, run_takeDeferred hK, ?_⟩⟩
    refine ⟨.tuple #[.slice (some ⟨w2.heap.size, 0, none⟩) c c, .int .i64 0], by simp [results, Try.results19, go_sem], _, rfl, ?_, hB.trans (belowK_b (w := w) (Nat.le_refl _) _ D _ _ (by omega) hK rfl rfl)⟩
    have hfin := ownsRow_putObj hi (.deferred none) hK rfl
    exact Ints.mono hfin (by omega)

theorem loadsOf_impl (v u : Value) (B C : Nat) (p o : List Int) (w : World) (h : Ints w B v p) (k : Ints w C u o) :
    Calls Try.prog 19 #[v, u] w fun e w' => ∃ x, e = .returned (.tuple #[x, .int .i64 (poC p o)]) ∧ Ints w' w.heap.size x (ldA p o) ∧ Below w.heap.size w w' := by
  cases hq : okPO p o with
  | false =>
    have HC := handedOf_any v u B C p o w h k
    rw [ldA_false hq, poC_false hq]
    rw [poC_false hq, hdP_false hq] at HC
    clear h k
    go_enter Try.func19, Try.ntmps19
    go_wp2_with fail
    refine HC.mono ?_
    rintro e w1 ⟨rfl, b1⟩
    have B2 := b1.alloc b1.size (.cells #[.slice none 0 0, .slice none 0 0] 42)
    go_wp2
    go_ret2
    exact ⟨_, rfl, Ints.nil _ _, B2⟩
  | true =>
    rw [ldA_true hq, poC_true hq]
    obtain ⟨va, vc, rfl⟩ := ints_slH h
    obtain ⟨ua, uc, rfl⟩ := ints_slH k
    have hc := okH_cnt (okPO_parts hq).2
    exact callsIn_wide.1 (loadsOf_row va ua vc uc B C p o w h k hq (cntH o).toNat (by omega))
end Go.Proofs.Ytlpeigeadjojnaa
