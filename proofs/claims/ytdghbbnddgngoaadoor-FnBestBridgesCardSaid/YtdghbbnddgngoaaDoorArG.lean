/- The graph of the states of one kind, the program's. Conditions: the library's table as its text lays it. -/
import Derived.Test.YtdghbbnddgngoaaDoorArH
namespace Go.Proofs.YtdghbbnddgngoaaDoor
open Go.RowKit Go.Shelf
open Go.Maps (Keyed)
set_option linter.unusedSimpArgs false
set_option linter.unusedVariables false
attribute [local go_sem] Oper.semAt_some

set_option maxRecDepth 100000 in
set_option maxHeartbeats 4000000 in
theorem graph_in (p h : Nat) (w : World) (hp : p ≤ h) (h1 : 1 ≤ h) (hh : h ≤ 10) (hn1 : 1 ≤ cntG h p) (hT : CtzTab w) :
    CallsIn Fence.wide 8 Tryd.prog 25 #[.agg #[.int .i64 p, .int .i64 h]] w fun e w' => ∃ u, e = .returned u ∧ GraphIs w' w.heap.size u (gphG h p) ∧ Below w.heap.size w w' := by
  obtain ⟨i0, hi0, hz0, hz1, hz2⟩ := info_parts Tryd.infoHd
  have hn10 := cntG_le h p hh
  have hSl : (mskS h p (2 ^ h)).length = cntG h p := by rw [mskS_len]; rfl
  refine callsIn_of_wp_marks Tryd.func25 rfl trivial ?_ rfl
  simp only [Tryd.ntmps25, List.size_toArray, List.length_cons, List.length_nil, Nat.reduceAdd, Nat.reduceSub, Array.replicate_succ, Array.replicate_zero, List.push_toArray, List.append_toArray, List.nil_append, List.cons_append]
  gi_wp2_with fail
  refine ⟨trivial, ?_⟩
  gi_at_call 27
  refine (callsIn_wide.2 (states_any p h _ (by omega) h1 hh)).mono ?_
  rintro e w1 ⟨u, rfl, iS, b1⟩
  gi_wp2_with fail
  refine ⟨trivial, ?_⟩
  gi_at_call 26
  refine (callsIn_wide.2 (indicesOf_any u _ p h _ iS hh)).mono ?_
  rintro e w2 ⟨D, nn, rfl, oM, hD, b2⟩
  have iS2 := iS.below b2
  obtain ⟨ua, uc, rfl⟩ := iS2.sl
  rw [hSl]
  gi_wp2_with (gi_at_make; refine wpListIn_make_full _ rfl _ _ 56 rfl w.heap.size 88 i0 (.slice none 0 0) 1 Tryd.underlying56 hi0 hz0 hz1 _ _ _ _ (cntG h p) rfl rfl rfl rfl (by rw [hz2]; omega) (by unfold maxLen; omega) (by have q1 := b1.size; have q2 := b2.size; simp only [World.size_alloc] at q1 q2 ⊢; omega) ?_; intro w3 oG gG; refine Hid.out ?_)
  refine Lib.hid ?_
  gi_wp2
  generalize hn : cntG h p = n at *
  obtain ⟨vb, hvb⟩ : ∃ x, x = w3.heap.size := ⟨_, rfl⟩
  obtain ⟨gb, hgb⟩ : ∃ x, x = w2.heap.size + 1 := ⟨_, rfl⟩
  obtain ⟨ib, hib⟩ : ∃ x, x = w2.heap.size := ⟨_, rfl⟩
  obtain ⟨mb, hmb⟩ : ∃ x, x = w1.heap.size := ⟨_, rfl⟩
  obtain ⟨kb, hkb⟩ : ∃ x, x = w.heap.size := ⟨_, rfl⟩
  obtain ⟨W4, hW4⟩ : ∃ W4, w3.alloc (.cells #[.slice (some ⟨w2.heap.size + 1, 0, none⟩) n n] 56) = W4 := ⟨_, rfl⟩
  have q1 := b1.size
  have q2 := b2.size
  have q3 := gG.size
  simp only [World.size_alloc] at q1 q2 q3 b1 iS iS2 oG
  rw [hSl] at iS2
  have BI := (Below.refl w2.heap.size w2).alloc (Nat.le_refl _) (.cells #[.map (some w1.heap.size)] 58)
  have BV := (Below.refl w3.heap.size w3).alloc (Nat.le_refl _) (.cells #[.slice (some ⟨w2.heap.size + 1, 0, none⟩) n n] 56)
  rw [hW4] at BV ⊢
  have BG : Below (w2.alloc (.cells #[.map (some w1.heap.size)] 58)).heap.size (w2.alloc (.cells #[.map (some w1.heap.size)] 58)) w3 := ⟨gG.os, gG.tape, gG.output, gG.size, fun k hk => gG.block k hk (by simp)⟩
  have B24 : Below w2.heap.size w2 W4 := (BI.trans (BG.mono (by simp))).trans (BV.mono (by omega))
  have B04 : Below w.heap.size w W4 := ((((Below.refl w.heap.size w).alloc (Nat.le_refl _) (.cells #[.int .i64 p, .int .i64 h] 53)).trans (b1.mono (by omega))).trans (b2.mono (by omega))).trans (B24.mono (by omega))
  have CV : W4.cell? ⟨vb, 0, none⟩ = some (.slice (some ⟨gb, 0, none⟩) n n) := by rw [← hW4, hvb, hgb]; exact (Blk.made w3 #[.slice (some ⟨w2.heap.size + 1, 0, none⟩) n n] 56).cell 0
  have CI : W4.cell? ⟨ib, 0, none⟩ = some (.map (some mb)) := by
    rw [hib, hmb]
    refine (BV.cell (p := ⟨w2.heap.size, 0, none⟩) (by show w2.heap.size < w3.heap.size; omega)).trans ((BG.cell (p := ⟨w2.heap.size, 0, none⟩) (by simp)).trans ?_)
    exact (Blk.made w2 #[.map (some w1.heap.size)] 58).cell 0
  have OM4 : W4.ownsMap Tryd.prog 35 (plainElem Tryd.prog 2) mb nn D := by rw [hmb]; exact ownsIdx_below oM B24
  have S4 := iS2.below B24
  have S4u : Under w2.heap.size (.slice ua n uc) := iS2.under
  have h8 : OwnK 88 1 hd1 w3 w.heap.size (.slice (some ⟨w2.heap.size + 1, 0, none⟩) n n) (List.replicate n nilV) := by
    have h9 := made_flat hd1_len nilV n (by decide)
    unfold OwnK
    rw [List.length_replicate, ← h9]
    exact oG
  have O0 : Hds W4 w.heap.size gb n (List.replicate n nilV) := by
    rw [hgb]
    exact h8.below BV
  have q4 : w2.heap.size + 1 < w3.heap.size := h8.under _ rfl
  clear h8
  have N4 : w2.heap.size + 2 ≤ vb ∧ W4.heap.size = vb + 1 := by
    refine ⟨by omega, ?_⟩
    rw [← hW4, World.size_alloc, hvb]
  rw [← hvb, ← hgb, ← hib, ← hmb, ← hkb]
  have HW := Lib.hid (fun wr (hG : W4.grownBy wr (some gb)) => show wr.cell? ⟨vb, 0, none⟩ = some (.slice (some ⟨gb, 0, none⟩) n n) ∧ wr.cell? ⟨ib, 0, none⟩ = some (.map (some mb)) ∧ wr.ownsMap Tryd.prog 35 (plainElem Tryd.prog 2) mb nn D ∧ CtzTab wr ∧ Below w.heap.size w wr from by
    have hB : Below w.heap.size w wr := B04.grown hG B04.size (fun q e => by cases e; omega)
    exact ⟨grown_cell hG CV (by simp; omega), grown_cell hG CI (by simp; omega), OM4.kept hG (by simp; omega), hT.below hB, hB⟩)
  have HST := Lib.hid (fun wr (hG : W4.grownBy wr (some gb)) i (hi : i < n) => show ∃ g cap, Value.slice ua n uc = Value.slice (some ⟨g, 0, none⟩) n cap ∧ wr.cell? ⟨g, i * 2, none⟩ = some (.int .i64 h) ∧ wr.cell? ⟨g, i * 2 + 1, none⟩ = some (.int .i64 (mskG h p i : Nat)) from by
    have hS := S4.block (w' := wr) fun g hg hlt => hG.block g hlt fun e => by have := S4u g hg; cases e; omega
    obtain ⟨g, cap, e, _, e2, _⟩ := hS.shape2 (by omega)
    rw [hSl] at e
    have hc := hS
    rw [e] at hc
    obtain ⟨c0, c1⟩ := hc.twoS i (by omega)
    rw [show s0 = ((0, 0) : Int × Int) from rfl, mskS_at (show i < (mskN p (2 ^ h)).length by have : cntG h p = (mskN p (2 ^ h)).length := rfl; omega)] at c0 c1
    exact ⟨g, cap, e, c0, c1⟩)
  have HNX := Lib.hid (fun (i : Nat) (hi : i < n) => show mskG h p i < 2 ^ h ∧ (gphG h p).getD i [] = rowG h i (mskG h p i) ∧ ∀ x : {t : Nat // t ∈ thrN h (mskG h p i)}, x.1 ≤ h ∧ nextM (mskG h p i) x.1 < 2 ^ h ∧ popN (nextM (mskG h p i) x.1) = p from by
    refine ⟨(mskG_at (h := h) (p := p) (i := i) (by omega)).1, gphG_at (by omega), fun x => ?_⟩
    obtain ⟨a, b⟩ := next_in h1 hh (by omega) x.2
    exact ⟨(thrN_mem x.2).1, a, b⟩)
  have HPL := Lib.hid (show (gphG h p).length = n from by rw [gphG_len]; exact hn)
  have HLK := Lib.hid (fun (W : World) (oW : W.ownsMap Tryd.prog 35 (plainElem Tryd.prog 2) mb nn D) (q : Nat) (hq : q < 2 ^ h) (hpq : popN q = p) => look_idx (p := p) oW (by rw [hn]; exact hD) hh hq hpq)
  have NG1 : w.heap.size ≤ gb := by omega
  have NG2 : gb < W4.heap.size := by omega
  clear N4 q1 q2 q3 q4
  clear hW4 oM hD iS iS2 S4 S4u oG gG b1 b2 BI BV BG B24 B04 CV CI OM4 hn hSl hvb hgb hib hmb hkb hi0 hz0 hz1 hz2
  refine wpIn_loop (fun a' wr => ∃ (k : Nat) (hs : List Value) (ds : List Deferred) (u6 u7 u8 u19 u20 u21 u22 u23 u24 u25 u26 u27 u28 u29 u30 u31 u32 u33 u34 u35 u36 u37 u38 u39 u40 u41 u42 u43 : Value), k ≤ n ∧ hs.length = n ∧ W4.grownBy wr (some gb) ∧ Hds wr w.heap.size gb n hs ∧ (∀ j, j < k → Arcs wr w.heap.size (hs.getD j nilV) ((gphG h p).getD j [])) ∧ (∀ j, k ≤ j → hs.getD j nilV = nilV) ∧ Coll w.heap.size ds wr ∧
      a' = { tmps := #[.agg #[.int .i64 p, .int .i64 h], .pointer (some ⟨kb, 0, none⟩), .slice none 0 0, .slice ua n uc, .pointer (some ⟨ib, 0, none⟩), .pointer (some ⟨vb, 0, none⟩), u6, u7, u8, .agg #[.int .i64 p, .int .i64 h], .slice ua n uc, .slice ua n uc, .map (some mb), .slice ua n uc, .int .i64 n, .slice (some ⟨gb, 0, none⟩) n n, .slice ua n uc, .int .i64 n, .int .i64 k, u19, u20, u21, u22, u23, u24, u25, u26, u27, u28, u29, u30, u31, u32, u33, u34, u35, u36, u37, u38, u39, u40, u41, u42, u43, undef], defers := ds }) (fun a' _ => n - (intOf (a'.tmps.getD 18 undef)).toNat) ?_ ?_
  · exact ⟨0, List.replicate n nilV, [], undef, undef, undef, undef, undef, undef, undef, undef, undef, undef, undef, undef, undef, undef, undef, undef, undef, undef, undef, undef, undef, undef, undef, undef, undef, undef, undef, undef, Nat.zero_le _, by simp, World.grownBy.refl _ _, O0, fun j hj => absurd hj (Nat.not_lt_zero _), fun j _ => by by_cases hj : j < n <;> simp [hj, nilV], Coll.nil _ _, rfl⟩
  · rintro a' wr ⟨k, hs, ds, u6, u7, u8, u19, u20, u21, u22, u23, u24, u25, u26, u27, u28, u29, u30, u31, u32, u33, u34, u35, u36, u37, u38, u39, u40, u41, u42, u43, hk, hsl, hG, hH, hR, hZ, hC, rfl⟩
    by_cases hlt : k < n
    · have hlt' : decide (k < n) = true := decide_eq_true hlt
      obtain ⟨sg, sc, hv, c0, c1⟩ := HST.out wr hG k hlt
      cases hv
      obtain ⟨hm2, hrow, hnx⟩ := HNX.out k hlt
      clear HST O0 HNX
      generalize mskG h p k = m at *
      have HNX := Lib.hid hnx
      have HRW := Lib.hid hrow
      have hZk := hZ k (Nat.le_refl _)
      have HZ := Lib.hid hZ
      have HR := Lib.hid hR
      have HC := Lib.hid hC
      have hGs := hG.size
      clear hnx hrow hZ hR hC
      gi_wp2
      obtain ⟨W1, hW1⟩ : ∃ W1, ((wr.alloc (.cells #[.int .i64 k] 3)).alloc (.cells #[.int .i64 h, .int .i64 m] 35)) = W1 := ⟨_, rfl⟩
      have BR : Below wr.heap.size wr W1 := by rw [← hW1]; exact ((Below.refl _ wr).alloc (Nat.le_refl _) _).alloc (by simp) _
      have NR : W1.heap.size = wr.heap.size + 2 := by rw [← hW1]; simp
      have CS : Blk W1 (wr.heap.size + 1) [.int .i64 h, .int .i64 m] 35 := by
        rw [← hW1]
        have := Blk.made (wr.alloc (.cells #[.int .i64 k] 3)) #[.int .i64 h, .int .i64 m] 35
        simpa using this
      have CK : Blk W1 wr.heap.size [.int .i64 k] 3 := by rw [← hW1]; exact (Blk.made wr #[.int .i64 k] 3).alloc _
      obtain ⟨ci, hci⟩ : ∃ x, x = wr.heap.size := ⟨_, rfl⟩
      obtain ⟨cs, hcs⟩ : ∃ x, x = wr.heap.size + 1 := ⟨_, rfl⟩
      rw [hW1, ← hcs, ← hci]
      rw [← hci] at CK
      rw [← hcs] at CS
      have NC1 : gb < ci := by omega
      have NC2 : gb < cs := by omega
      have NC3 : gb < W1.heap.size := by omega
      have NC4 : wr.heap.size ≤ W1.heap.size := by omega
      clear hW1 hci hcs NR
      have G41 := grown_below hG BR
      have HH1 := hH.below BR
      have HSS := Lib.hid (fun W' (g : W1.grownBy W' (some gb)) => show W'.cell? ⟨vb, 0, none⟩ = some (.slice (some ⟨gb, 0, none⟩) n n) ∧ W'.cell? ⟨ci, 0, none⟩ = some (.int .i64 k) ∧ W'.cell? ⟨ib, 0, none⟩ = some (.map (some mb)) ∧ W'.cell? ⟨cs, 0, none⟩ = some (.int .i64 h) ∧ W'.cell? ⟨cs, 1, none⟩ = some (.int .i64 m) ∧ W'.ownsMap Tryd.prog 35 (plainElem Tryd.prog 2) mb nn D ∧ CtzTab W' from by
        obtain ⟨a1, a2, a3, a4, _⟩ := HW.out W' (grown_far G41 g fun g e => .inr e)
        exact ⟨a1, grown_cell g (CK.cell 0) (by simp; omega), a2, grown_cell g (CS.cell 0) (by simp; omega), grown_cell g (CS.cell 1) (by simp; omega), a3, a4⟩)
      clear c0 c1 CK CS
      refine range_bnd (F := Fence.wide) rfl (by omega) (gf := 52) (bs := #[.agg #[.int .i64 h, .int .i64 m]]) (lb := #[]) rfl trivial (enters_of Tryd.func52 (by kernel_rfl) rfl) (throwsSt_bndS 7 (by omega) h m hh hm2 W1) (fun _ => rfl)
        (RowI W1 w.heap.size gb n k hs (fun x : {t : Nat // t ∈ thrN h m} => arcOf k m x.1)) (rowI_own _ _ _ _ _ _ _ (by omega)) (fun pre W hI => (HSS.out W hI.1).2.2.2.2.2.2)
        ⟨World.grownBy.refl _ _, nilV, by rw [set_nil hZk]; exact HH1, OwnK.nil _ _ _ _ _⟩
        (fun x => { tmps := #[.agg #[.int .i64 p, .int .i64 h], .pointer (some ⟨kb, 0, none⟩), .slice none 0 0, .slice (some ⟨sg, 0, none⟩) n uc, .pointer (some ⟨ib, 0, none⟩), .pointer (some ⟨vb, 0, none⟩), .pointer (some ⟨ci, 0, none⟩), .pointer (some ⟨cs, 0, none⟩), .int .i64 x.1, .agg #[.int .i64 p, .int .i64 h], .slice (some ⟨sg, 0, none⟩) n uc, .slice (some ⟨sg, 0, none⟩) n uc, .map (some mb), .slice (some ⟨sg, 0, none⟩) n uc, .int .i64 n, .slice (some ⟨gb, 0, none⟩) n n, .slice (some ⟨sg, 0, none⟩) n uc, .int .i64 n, .int .i64 k, .bool true, .int .i64 k, .pointer (some ⟨sg, k * 2, none⟩), .agg #[.int .i64 h, .int .i64 m], .agg #[.int .i64 h, .int .i64 m], .func (.func 52) #[.agg #[.int .i64 h, .int .i64 m]] #[], .int .i64 x.1, u26, u27, u28, u29, u30, u31, u32, u33, u34, u35, u36, u37, u38, u39, u40, u41, u42, u43, undef], defers := [] }) ?assign ?body ?done
      case assign =>
        intro l x W K hK
        unfold encT
        gi_wp2
        exact hK
      case body =>
        rintro l pre ⟨x, hx⟩ W ⟨hg, d, hd, hA⟩ hlt
        obtain ⟨x1, x2, x3⟩ := HNX.out ⟨x, hx⟩
        simp only at x1 x2 x3
        have HF := Lib.hid (show (fun x : {t : Nat // t ∈ thrN h m} => arcOf k m x.1) ⟨x, hx⟩ = ((k : Int), (x : Int), (idxN (nextM m x) : Int)) from rfl)
        have HAF := Lib.hid (after_any h m x W.drew hh hm2 x1)
        have HS := Lib.hid (fun W' (g : W1.grownBy W' (some gb)) => show W'.cell? ⟨vb, 0, none⟩ = some (.slice (some ⟨gb, 0, none⟩) n n) ∧ W'.cell? ⟨ci, 0, none⟩ = some (.int .i64 k) ∧ W'.cell? ⟨ib, 0, none⟩ = some (.map (some mb)) ∧ W'.cell? ⟨cs, 0, none⟩ = some (.int .i64 h) ∧ W'.cell? ⟨cs, 1, none⟩ = some (.int .i64 m) ∧ (Instr.lookup 58 (.map (some mb)) (.agg #[.int .i64 h, .int .i64 (nextM m x : Nat)]) false).run Tryd.prog W' = .ok (.int .i64 (idxN (nextM m x) : Nat)) W' from by
          obtain ⟨a1, a2, a3, a4, a5, a6, _⟩ := HSS.out W' g
          exact ⟨a1, a2, a3, a4, a5, HLK.out W' a6 _ x2 x3⟩)
        have GD := Lib.hid (grown_below hg (Below.drew (Below.refl _ W)))
        have HA := Lib.hid (show Arcs W.drew W1.heap.size d (pre.map (fun x : {t : Nat // t ∈ thrN h m} => arcOf k m x.1)) from hA)
        have HH := Lib.hid (show Hds W.drew w.heap.size gb n (hs.set k d) from hd)
        have e0 := hd.cell hd1_len nilV k 0 (by rw [List.length_set]; omega) (by decide)
        rw [Nat.mul_one, Nat.add_zero, getD_set_self (by omega)] at e0
        simp only [hd1, List.getElem?_cons_zero] at e0
        have HGL := Lib.hid (show gb < W.drew.heap.size by have := hg.size; show gb < W.heap.size; omega)
        have HGL2 := Lib.hid (show gb < W1.heap.size by omega)
        have hlenX : (pre.map (fun x : {t : Nat // t ∈ thrN h m} => arcOf k m x.1)).length ≤ 1000000 := by simp; omega
        have hds : ∃ da dl dc, d = .slice da dl dc := by
          obtain ⟨a, c, e⟩ := hA.sl
          exact ⟨_, _, _, e⟩
        obtain ⟨da, dl, dc, rfl⟩ := hds
        clear HR HC HZ HNX HSS HW HLK HRW x1 x2 x3 hg hd hA hH HH1 hZk hG
        generalize idxN (nextM m x) = j at *
        generalize nextM m x = q at *
        gi_wp2
        refine wpIn_region_heldR (S := (fun W' => W'.cell? ⟨vb, 0, none⟩ = some (.slice (some ⟨gb, 0, none⟩) n n) ∧ W'.cell? ⟨ci, 0, none⟩ = some (.int .i64 k) ∧ W'.cell? ⟨ib, 0, none⟩ = some (.map (some mb)) ∧ W'.cell? ⟨cs, 0, none⟩ = some (.int .i64 h) ∧ W'.cell? ⟨cs, 1, none⟩ = some (.int .i64 m) ∧ (Instr.lookup 58 (.map (some mb)) (.agg #[.int .i64 h, .int .i64 q]) false).run Tryd.prog W' = .ok (.int .i64 j) W')) (by kernel_rfl) (by kernel_rfl) ?_ (fun hHeld => ?_)
        · (try dsimp only); exact HS.out _ GD.out
        refine wpAnyH_take (i := 0) (oi := { dst := some 26, op := Go.Op.load 56 (Go.Operand.tmp 5), type := 56, pos := "l09_graphs.go:77", after := #[], guard := none }) (v := ?_) rfl (by kernel_rfl) (by kernel_rfl) (by kernel_rfl) (fun _ _ _ h => h) (Or.inl ⟨by rfl, ?_⟩) (by assumption) ?_
        rotate_left
        · (intro w hSw; (try dsimp only at hSw); go_simp); (try with_reducible rfl)
        try simp only [Act.put, List.setIfInBounds_toArray, List.set_cons_zero, List.set_cons_succ]
        refine wpAnyH_take (i := 1) (oi := { dst := some 27, op := Go.Op.load 3 (Go.Operand.tmp 6), type := 3, pos := "l09_graphs.go:77", after := #[], guard := none }) (v := ?_) rfl (by kernel_rfl) (by kernel_rfl) (by kernel_rfl) (fun _ _ _ h => h) (Or.inl ⟨by rfl, ?_⟩) (by assumption) ?_
        rotate_left
        · (intro w hSw; (try dsimp only at hSw); go_simp); (try with_reducible rfl)
        try simp only [Act.put, List.setIfInBounds_toArray, List.set_cons_zero, List.set_cons_succ]
        refine wpAnyH_take (i := 2) (oi := { dst := some 28, op := Go.Op.load 56 (Go.Operand.tmp 5), type := 56, pos := "l09_graphs.go:77", after := #[], guard := none }) (v := ?_) rfl (by kernel_rfl) (by kernel_rfl) (by kernel_rfl) (fun _ _ _ h => h) (Or.inl ⟨by rfl, ?_⟩) (by assumption) ?_
        rotate_left
        · (intro w hSw; (try dsimp only at hSw); go_simp); (try with_reducible rfl)
        try simp only [Act.put, List.setIfInBounds_toArray, List.set_cons_zero, List.set_cons_succ]
        refine wpAnyH_take (i := 3) (oi := { dst := some 29, op := Go.Op.load 3 (Go.Operand.tmp 6), type := 3, pos := "l09_graphs.go:77", after := #[], guard := none }) (v := ?_) rfl (by kernel_rfl) (by kernel_rfl) (by kernel_rfl) (fun _ _ _ h => h) (Or.inl ⟨by rfl, ?_⟩) (by assumption) ?_
        rotate_left
        · (intro w hSw; (try dsimp only at hSw); go_simp); (try with_reducible rfl)
        try simp only [Act.put, List.setIfInBounds_toArray, List.set_cons_zero, List.set_cons_succ]
        refine wpAnyH_take (i := 4) (oi := { dst := some 30, op := Go.Op.indexAddr 56 (Go.Operand.tmp 28) (Go.Operand.tmp 29), type := 0, pos := "l09_graphs.go:77", after := #[{ on := 2, ground := Go.Ground.data }, { on := 3, ground := Go.Ground.data }], guard := none }) (v := ?_) rfl (by kernel_rfl) (by kernel_rfl) (by kernel_rfl) (fun _ _ _ h => h) (Or.inl ⟨by rfl, ?_⟩) (by assumption) ?_
        rotate_left
        · (intro w hSw; (try dsimp only at hSw); go_simp); (try with_reducible rfl)
        try simp only [Act.put, List.setIfInBounds_toArray, List.set_cons_zero, List.set_cons_succ]
        refine wpAnyH_take (i := 6) (oi := { dst := some 32, op := Go.Op.load 3 (Go.Operand.tmp 6), type := 3, pos := "l09_graphs.go:77", after := #[], guard := none }) (v := ?_) rfl (by kernel_rfl) (by kernel_rfl) (by kernel_rfl) (fun _ _ _ h => h) (Or.inl ⟨by rfl, ?_⟩) (by assumption) ?_
        rotate_left
        · (intro w hSw; (try dsimp only at hSw); go_simp); (try with_reducible rfl)
        try simp only [Act.put, List.setIfInBounds_toArray, List.set_cons_zero, List.set_cons_succ]
        refine wpAnyH_take (i := 7) (oi := { dst := some 33, op := Go.Op.move (Go.Operand.tmp 8), type := 2, pos := "l09_graphs.go:77", after := #[], guard := none }) (v := ?_) rfl (by kernel_rfl) (by kernel_rfl) (by kernel_rfl) (fun _ _ _ h => h) (Or.inl ⟨by rfl, ?_⟩) (by assumption) ?_
        rotate_left
        · (intro w hSw; (try dsimp only at hSw); go_simp); (try with_reducible rfl)
        try simp only [Act.put, List.setIfInBounds_toArray, List.set_cons_zero, List.set_cons_succ]
        refine wpAnyH_take (i := 8) (oi := { dst := some 34, op := Go.Op.load 58 (Go.Operand.tmp 4), type := 58, pos := "l09_graphs.go:77", after := #[], guard := none }) (v := ?_) rfl (by kernel_rfl) (by kernel_rfl) (by kernel_rfl) (fun _ _ _ h => h) (Or.inl ⟨by rfl, ?_⟩) (by assumption) ?_
        rotate_left
        · (intro w hSw; (try dsimp only at hSw); go_simp); (try with_reducible rfl)
        try simp only [Act.put, List.setIfInBounds_toArray, List.set_cons_zero, List.set_cons_succ]
        refine wpAnyH_take (i := 9) (oi := { dst := some 35, op := Go.Op.load 35 (Go.Operand.tmp 7), type := 35, pos := "l09_graphs.go:77", after := #[], guard := none }) (v := ?_) rfl (by kernel_rfl) (by kernel_rfl) (by kernel_rfl) (fun _ _ _ h => h) (Or.inl ⟨by rfl, ?_⟩) (by assumption) ?_
        rotate_left
        · (intro w hSw; (try dsimp only at hSw); go_simp); (try with_reducible rfl)
        try simp only [Act.put, List.setIfInBounds_toArray, List.set_cons_zero, List.set_cons_succ]
        refine wpAnyH_take (i := 10) (oi := { dst := some 36, op := Go.Op.move (Go.Operand.tmp 8), type := 2, pos := "l09_graphs.go:77", after := #[], guard := none }) (v := ?_) rfl (by kernel_rfl) (by kernel_rfl) (by kernel_rfl) (fun _ _ _ h => h) (Or.inl ⟨by rfl, ?_⟩) (by assumption) ?_
        rotate_left
        · (intro w hSw; (try dsimp only at hSw); go_simp); (try with_reducible rfl)
        try simp only [Act.put, List.setIfInBounds_toArray, List.set_cons_zero, List.set_cons_succ]
        refine wpAnyH_ready (rs := [5, 11]) (by kernel_rfl) (by simp) ?_
        refine AllReadyH.cons (o := { dst := some 31, op := Go.Op.load 88 (Go.Operand.tmp 30), type := 88, pos := "l09_graphs.go:77", after := #[{ on := 4, ground := Go.Ground.data }], guard := none }) rfl (fun K hK => ?_) ?_
        · go_simp
          refine hK.out _ _ ?_ (fun hHeld2 => ?_)
          · (try dsimp only); exact HS.out _ GD.out
          clear hK K hHeld
          have hHeld := hHeld2
          clear hHeld2
          try simp only [Act.put, List.setIfInBounds_toArray, List.set_cons_zero, List.set_cons_succ]
          refine wpAnyH_ready (rs := [11]) (by kernel_rfl) (by simp) ?_
          refine AllReadyH.cons (o := { dst := some 37, op := Go.Op.call { callee := Go.Callee.value (Go.Operand.func 53), args := #[Go.Operand.tmp 35, Go.Operand.tmp 36], argTypes := #[35, 2] }, type := 35, pos := "l09_graphs.go:77", after := #[{ on := 9, ground := Go.Ground.data }, { on := 10, ground := Go.Ground.data }], guard := none }) rfl (fun K hK => ?_) AllReadyH.nil
          go_simp
          (go_at_call 53; (with_reducible refine (HAF.out).mono ?_); rintro e w5 ⟨rfl, b5⟩)
          refine hK.out _ _ ?_ (fun hHeld2 => ?_)
          · (try dsimp only); exact HS.out _ (grown_below GD.out b5)
          clear hK K hHeld
          have hHeld := hHeld2
          clear hHeld2
          try simp only [Act.put, List.setIfInBounds_toArray, List.set_cons_zero, List.set_cons_succ]
          have G5 := Lib.hid (grown_below GD.out b5)
          have HH5 := Lib.hid (HH.out.below b5)
          have e5 := (b5.cell (p := ⟨gb, k, none⟩) HGL.out).trans e0
          have hA5 := HA.out.below b5
          have b6 := (Below.refl w5.heap.size w5).alloc (Nat.le_refl _) (.cells #[.int .i64 k, .int .i64 x, .int .i64 j] 91)
          have G6 := Lib.hid (grown_below G5.out b6)
          have HA6 := Lib.hid (hA5.below b6)
          have HH6 := Lib.hid (HH5.out.below b6)
          have e6 := (b6.cell (p := ⟨gb, k, none⟩) (cell_block e5)).trans e5
          have HNW := Lib.hid (show ThreeA (w5.alloc (.cells #[.int .i64 k, .int .i64 x, .int .i64 j] 91)) w5.heap.size 0 ((k : Int), (x : Int), (j : Int)) from ⟨(Blk.made w5 #[.int .i64 k, .int .i64 x, .int .i64 j] 91).cell 0, (Blk.made w5 #[.int .i64 k, .int .i64 x, .int .i64 j] 91).cell 1, (Blk.made w5 #[.int .i64 k, .int .i64 x, .int .i64 j] 91).cell 2⟩)
          have hsz6 : W1.heap.size ≤ (w5.alloc (.cells #[.int .i64 k, .int .i64 x, .int .i64 j] 91)).heap.size := G6.out.size
          have BB5 := Lib.hid b5
          have BB6 := Lib.hid b6
          clear hA5 b5 b6
          refine wpAnyH_take (i := 12) (oi := { dst := some 38, op := Go.Op.lookup 58 (Go.Operand.tmp 34) (Go.Operand.tmp 37) false, type := 2, pos := "l09_graphs.go:77", after := #[{ on := 8, ground := Go.Ground.data }, { on := 11, ground := Go.Ground.data }], guard := none }) (v := ?_) rfl (by kernel_rfl) (by kernel_rfl) (by kernel_rfl) (fun _ _ _ h => h) (Or.inl ⟨by rfl, ?_⟩) (by assumption) ?_
          rotate_left
          · (intro w hSw; (try dsimp only at hSw); go_simp); (try with_reducible rfl)
          try simp only [Act.put, List.setIfInBounds_toArray, List.set_cons_zero, List.set_cons_succ]
          refine wpAnyH_take (i := 13) (oi := { dst := some 39, op := Go.Op.build 91 #[(0, Go.Operand.tmp 32), (1, Go.Operand.tmp 33), (2, Go.Operand.tmp 38)], type := 91, pos := "l09_graphs.go:77", after := #[{ on := 6, ground := Go.Ground.data }, { on := 7, ground := Go.Ground.data }, { on := 12, ground := Go.Ground.data }], guard := none }) (v := ?_) rfl (by kernel_rfl) (by kernel_rfl) (by kernel_rfl) (fun _ _ _ h => h) (Or.inl ⟨by rfl, ?_⟩) (by assumption) ?_
          rotate_left
          · (intro w hSw; (try dsimp only at hSw); go_simp); (try with_reducible rfl)
          try simp only [Act.put, List.setIfInBounds_toArray, List.set_cons_zero, List.set_cons_succ]
          refine wpAnyH_ready (rs := [14]) (by kernel_rfl) (by simp) ?_
          refine AllReadyH.cons (o := { dst := some 40, op := Go.Op.buildSlice 88 1 #[(0, Go.Operand.tmp 39)], type := 88, pos := "l09_graphs.go:77", after := #[{ on := 13, ground := Go.Ground.data }], guard := none }) rfl (fun K hK => ?_) AllReadyH.nil
          go_simp
          refine hK.out _ _ ?_ (fun hHeld2 => ?_)
          · (try dsimp only); exact HS.out _ G6.out
          clear hK K hHeld
          have hHeld := hHeld2
          clear hHeld2
          try simp only [Act.put, List.setIfInBounds_toArray, List.set_cons_zero, List.set_cons_succ]
          refine wpAnyH_ready (rs := [15]) (by kernel_rfl) (by simp) ?_
          refine AllReadyH.cons (o := { dst := some 41, op := Go.Op.call { callee := Go.Callee.builtin Go.Builtin.append, args := #[Go.Operand.tmp 31, Go.Operand.tmp 40], argTypes := #[88, 88] }, type := 88, pos := "l09_graphs.go:77", after := #[{ on := 5, ground := Go.Ground.data }, { on := 14, ground := Go.Ground.data }, { on := 11, ground := Go.Ground.chain }], guard := none }) rfl (fun K hK => ?_) AllReadyH.nil
          (refine step_append_arc _ (by rfl) _ _ (by rfl) W1.heap.size _ _ (by rfl) HA6.out w5.heap.size 1 ((k : Int), (x : Int), (j : Int)) (by rfl) HNW.out hlenX hsz6 ?_; intro g4 c4 l4 w4 i4 gr4 ho4)
          refine hK.out _ _ ?_ (fun hHeld2 => ?_)
          · (try dsimp only); exact HS.out _ (grown_far G6.out gr4 fun g e => .inl (HA6.out.own_ge e))
          clear hK K hHeld
          have hHeld := hHeld2
          clear hHeld2
          try simp only [Act.put, List.setIfInBounds_toArray, List.set_cons_zero, List.set_cons_succ]
          refine wpAnyH_take (i := 16) (oi := { dst := some 42, op := Go.Op.indexAddr 56 (Go.Operand.tmp 26) (Go.Operand.tmp 27), type := 0, pos := "l09_graphs.go:77", after := #[{ on := 0, ground := Go.Ground.data }, { on := 1, ground := Go.Ground.data }, { on := 0, ground := Go.Ground.phase }, { on := 1, ground := Go.Ground.phase }, { on := 2, ground := Go.Ground.phase }, { on := 3, ground := Go.Ground.phase }, { on := 4, ground := Go.Ground.phase }, { on := 5, ground := Go.Ground.phase }, { on := 6, ground := Go.Ground.phase }, { on := 7, ground := Go.Ground.phase }, { on := 8, ground := Go.Ground.phase }, { on := 9, ground := Go.Ground.phase }, { on := 10, ground := Go.Ground.phase }, { on := 11, ground := Go.Ground.phase }, { on := 12, ground := Go.Ground.phase }, { on := 13, ground := Go.Ground.phase }, { on := 14, ground := Go.Ground.phase }, { on := 15, ground := Go.Ground.phase }], guard := none }) (v := ?_) rfl (by kernel_rfl) (by kernel_rfl) (by kernel_rfl) (fun _ _ _ h => h) (Or.inl ⟨by rfl, ?_⟩) (by assumption) ?_
          rotate_left
          · (intro w hSw; (try dsimp only at hSw); go_simp); (try with_reducible rfl)
          try simp only [Act.put, List.setIfInBounds_toArray, List.set_cons_zero, List.set_cons_succ]
          refine wpAnyH_ready (rs := [17]) (by kernel_rfl) (by simp) ?_
          refine AllReadyH.cons (o := { dst := none, op := Go.Op.store 88 (Go.Operand.tmp 42) (Go.Operand.tmp 41), type := 0, pos := "l09_graphs.go:77", after := #[{ on := 16, ground := Go.Ground.data }, { on := 15, ground := Go.Ground.data }, { on := 15, ground := Go.Ground.chain }, { on := 0, ground := Go.Ground.phase }, { on := 1, ground := Go.Ground.phase }, { on := 2, ground := Go.Ground.phase }, { on := 3, ground := Go.Ground.phase }, { on := 4, ground := Go.Ground.phase }, { on := 5, ground := Go.Ground.phase }, { on := 6, ground := Go.Ground.phase }, { on := 7, ground := Go.Ground.phase }, { on := 8, ground := Go.Ground.phase }, { on := 9, ground := Go.Ground.phase }, { on := 10, ground := Go.Ground.phase }, { on := 11, ground := Go.Ground.phase }, { on := 12, ground := Go.Ground.phase }, { on := 13, ground := Go.Ground.phase }, { on := 14, ground := Go.Ground.phase }, { on := 15, ground := Go.Ground.phase }], guard := none }) rfl (fun K hK => ?_) AllReadyH.nil
          have G7 := Lib.hid (grown_far G6.out gr4 fun g e => .inl (HA6.out.own_ge e))
          have HH7 := Lib.hid (HH6.out.block fun g hg hlt => gr4.block g hlt fun e => by have h9 : gb = g := Option.some.inj hg; subst h9; exact hds_ne HH6.out HA6.out e.symm)
          have f7 := HH7.out.free k
          have e7 := HH7.out.cell hd1_len nilV k 0 (by rw [List.length_set]; omega) (by decide)
          rw [Nat.mul_one, Nat.add_zero] at e7
          have e7 := e7.trans rfl
          simp only [hd1, List.getElem?_cons_zero] at e7
          go_simp
          refine hK.out _ _ ?_ (fun hHeld2 => ?_)
          · (try dsimp only); exact HS.out _ (grown_set G7.out k _)
          clear hK K hHeld
          have hHeld := hHeld2
          clear hHeld2
          try simp only [Act.put, List.setIfInBounds_toArray, List.set_cons_zero, List.set_cons_succ]
          refine wpAnyH_done (by kernel_rfl) (Calm.ok ?_) _
          gi_wp2
          have hk8 : KeepsOthers W (w4.setCell ⟨gb, k, none⟩ (.slice (some ⟨g4, 0, none⟩) l4 c4)) := (((((KeepsOthers.drew W).trans (keepsOthers_below (w := W.drew) BB5.out)).trans (keepsOthers_below BB6.out)).trans (KeepsOthers.of_grownBy gr4 HA6.out.row_cells)).trans (KeepsOthers.setCell _ _ _))
          refine ⟨hk8.from _, grown_set G7.out k _, .slice (some ⟨g4, 0, none⟩) l4 c4, ?_, ?_⟩
          · have h9 := HH7.out.put hd1_len nilV k 0 (.slice (some ⟨g4, 0, none⟩) l4 c4) (.slice (some ⟨g4, 0, none⟩) l4 c4) (by rw [List.length_set]; omega) (by decide) rfl
            rw [List.set_set, Nat.mul_one, Nat.add_zero] at h9
            exact h9
          · rw [List.map_append, List.map_singleton, HF.out]
            exact i4.block fun g hg hlt => Below.heap_setCell _ _ _ _ (by have h9 : g4 = g := Option.some.inj hg; have h8 := i4.own_ge hg; have h7 := HGL2.out; show g ≠ gb; omega)
        refine AllReadyH.cons (o := { dst := some 37, op := Go.Op.call { callee := Go.Callee.value (Go.Operand.func 53), args := #[Go.Operand.tmp 35, Go.Operand.tmp 36], argTypes := #[35, 2] }, type := 35, pos := "l09_graphs.go:77", after := #[{ on := 9, ground := Go.Ground.data }, { on := 10, ground := Go.Ground.data }], guard := none }) rfl (fun K hK => ?_) ?_
        · go_simp
          (go_at_call 53; (with_reducible refine (HAF.out).mono ?_); rintro e w5 ⟨rfl, b5⟩)
          refine hK.out _ _ ?_ (fun hHeld2 => ?_)
          · (try dsimp only); exact HS.out _ (grown_below GD.out b5)
          clear hK K hHeld
          have hHeld := hHeld2
          clear hHeld2
          try simp only [Act.put, List.setIfInBounds_toArray, List.set_cons_zero, List.set_cons_succ]
          have G5 := Lib.hid (grown_below GD.out b5)
          have HH5 := Lib.hid (HH.out.below b5)
          have e5 := (b5.cell (p := ⟨gb, k, none⟩) HGL.out).trans e0
          have hA5 := HA.out.below b5
          have b6 := (Below.refl w5.heap.size w5).alloc (Nat.le_refl _) (.cells #[.int .i64 k, .int .i64 x, .int .i64 j] 91)
          have G6 := Lib.hid (grown_below G5.out b6)
          have HA6 := Lib.hid (hA5.below b6)
          have HH6 := Lib.hid (HH5.out.below b6)
          have e6 := (b6.cell (p := ⟨gb, k, none⟩) (cell_block e5)).trans e5
          have HNW := Lib.hid (show ThreeA (w5.alloc (.cells #[.int .i64 k, .int .i64 x, .int .i64 j] 91)) w5.heap.size 0 ((k : Int), (x : Int), (j : Int)) from ⟨(Blk.made w5 #[.int .i64 k, .int .i64 x, .int .i64 j] 91).cell 0, (Blk.made w5 #[.int .i64 k, .int .i64 x, .int .i64 j] 91).cell 1, (Blk.made w5 #[.int .i64 k, .int .i64 x, .int .i64 j] 91).cell 2⟩)
          have hsz6 : W1.heap.size ≤ (w5.alloc (.cells #[.int .i64 k, .int .i64 x, .int .i64 j] 91)).heap.size := G6.out.size
          have BB5 := Lib.hid b5
          have BB6 := Lib.hid b6
          clear hA5 b5 b6
          refine wpAnyH_take (i := 12) (oi := { dst := some 38, op := Go.Op.lookup 58 (Go.Operand.tmp 34) (Go.Operand.tmp 37) false, type := 2, pos := "l09_graphs.go:77", after := #[{ on := 8, ground := Go.Ground.data }, { on := 11, ground := Go.Ground.data }], guard := none }) (v := ?_) rfl (by kernel_rfl) (by kernel_rfl) (by kernel_rfl) (fun _ _ _ h => h) (Or.inl ⟨by rfl, ?_⟩) (by assumption) ?_
          rotate_left
          · (intro w hSw; (try dsimp only at hSw); go_simp); (try with_reducible rfl)
          try simp only [Act.put, List.setIfInBounds_toArray, List.set_cons_zero, List.set_cons_succ]
          refine wpAnyH_take (i := 13) (oi := { dst := some 39, op := Go.Op.build 91 #[(0, Go.Operand.tmp 32), (1, Go.Operand.tmp 33), (2, Go.Operand.tmp 38)], type := 91, pos := "l09_graphs.go:77", after := #[{ on := 6, ground := Go.Ground.data }, { on := 7, ground := Go.Ground.data }, { on := 12, ground := Go.Ground.data }], guard := none }) (v := ?_) rfl (by kernel_rfl) (by kernel_rfl) (by kernel_rfl) (fun _ _ _ h => h) (Or.inl ⟨by rfl, ?_⟩) (by assumption) ?_
          rotate_left
          · (intro w hSw; (try dsimp only at hSw); go_simp); (try with_reducible rfl)
          try simp only [Act.put, List.setIfInBounds_toArray, List.set_cons_zero, List.set_cons_succ]
          refine wpAnyH_ready (rs := [5, 14]) (by kernel_rfl) (by simp) ?_
          refine AllReadyH.cons (o := { dst := some 31, op := Go.Op.load 88 (Go.Operand.tmp 30), type := 88, pos := "l09_graphs.go:77", after := #[{ on := 4, ground := Go.Ground.data }], guard := none }) rfl (fun K hK => ?_) ?_
          · go_simp
            refine hK.out _ _ ?_ (fun hHeld2 => ?_)
            · (try dsimp only); exact HS.out _ G5.out
            clear hK K hHeld
            have hHeld := hHeld2
            clear hHeld2
            try simp only [Act.put, List.setIfInBounds_toArray, List.set_cons_zero, List.set_cons_succ]
            refine wpAnyH_ready (rs := [14]) (by kernel_rfl) (by simp) ?_
            refine AllReadyH.cons (o := { dst := some 40, op := Go.Op.buildSlice 88 1 #[(0, Go.Operand.tmp 39)], type := 88, pos := "l09_graphs.go:77", after := #[{ on := 13, ground := Go.Ground.data }], guard := none }) rfl (fun K hK => ?_) AllReadyH.nil
            go_simp
            refine hK.out _ _ ?_ (fun hHeld2 => ?_)
            · (try dsimp only); exact HS.out _ G6.out
            clear hK K hHeld
            have hHeld := hHeld2
            clear hHeld2
            try simp only [Act.put, List.setIfInBounds_toArray, List.set_cons_zero, List.set_cons_succ]
            refine wpAnyH_ready (rs := [15]) (by kernel_rfl) (by simp) ?_
            refine AllReadyH.cons (o := { dst := some 41, op := Go.Op.call { callee := Go.Callee.builtin Go.Builtin.append, args := #[Go.Operand.tmp 31, Go.Operand.tmp 40], argTypes := #[88, 88] }, type := 88, pos := "l09_graphs.go:77", after := #[{ on := 5, ground := Go.Ground.data }, { on := 14, ground := Go.Ground.data }, { on := 11, ground := Go.Ground.chain }], guard := none }) rfl (fun K hK => ?_) AllReadyH.nil
            (refine step_append_arc _ (by rfl) _ _ (by rfl) W1.heap.size _ _ (by rfl) HA6.out w5.heap.size 1 ((k : Int), (x : Int), (j : Int)) (by rfl) HNW.out hlenX hsz6 ?_; intro g4 c4 l4 w4 i4 gr4 ho4)
            refine hK.out _ _ ?_ (fun hHeld2 => ?_)
            · (try dsimp only); exact HS.out _ (grown_far G6.out gr4 fun g e => .inl (HA6.out.own_ge e))
            clear hK K hHeld
            have hHeld := hHeld2
            clear hHeld2
            try simp only [Act.put, List.setIfInBounds_toArray, List.set_cons_zero, List.set_cons_succ]
            refine wpAnyH_take (i := 16) (oi := { dst := some 42, op := Go.Op.indexAddr 56 (Go.Operand.tmp 26) (Go.Operand.tmp 27), type := 0, pos := "l09_graphs.go:77", after := #[{ on := 0, ground := Go.Ground.data }, { on := 1, ground := Go.Ground.data }, { on := 0, ground := Go.Ground.phase }, { on := 1, ground := Go.Ground.phase }, { on := 2, ground := Go.Ground.phase }, { on := 3, ground := Go.Ground.phase }, { on := 4, ground := Go.Ground.phase }, { on := 5, ground := Go.Ground.phase }, { on := 6, ground := Go.Ground.phase }, { on := 7, ground := Go.Ground.phase }, { on := 8, ground := Go.Ground.phase }, { on := 9, ground := Go.Ground.phase }, { on := 10, ground := Go.Ground.phase }, { on := 11, ground := Go.Ground.phase }, { on := 12, ground := Go.Ground.phase }, { on := 13, ground := Go.Ground.phase }, { on := 14, ground := Go.Ground.phase }, { on := 15, ground := Go.Ground.phase }], guard := none }) (v := ?_) rfl (by kernel_rfl) (by kernel_rfl) (by kernel_rfl) (fun _ _ _ h => h) (Or.inl ⟨by rfl, ?_⟩) (by assumption) ?_
            rotate_left
            · (intro w hSw; (try dsimp only at hSw); go_simp); (try with_reducible rfl)
            try simp only [Act.put, List.setIfInBounds_toArray, List.set_cons_zero, List.set_cons_succ]
            refine wpAnyH_ready (rs := [17]) (by kernel_rfl) (by simp) ?_
            refine AllReadyH.cons (o := { dst := none, op := Go.Op.store 88 (Go.Operand.tmp 42) (Go.Operand.tmp 41), type := 0, pos := "l09_graphs.go:77", after := #[{ on := 16, ground := Go.Ground.data }, { on := 15, ground := Go.Ground.data }, { on := 15, ground := Go.Ground.chain }, { on := 0, ground := Go.Ground.phase }, { on := 1, ground := Go.Ground.phase }, { on := 2, ground := Go.Ground.phase }, { on := 3, ground := Go.Ground.phase }, { on := 4, ground := Go.Ground.phase }, { on := 5, ground := Go.Ground.phase }, { on := 6, ground := Go.Ground.phase }, { on := 7, ground := Go.Ground.phase }, { on := 8, ground := Go.Ground.phase }, { on := 9, ground := Go.Ground.phase }, { on := 10, ground := Go.Ground.phase }, { on := 11, ground := Go.Ground.phase }, { on := 12, ground := Go.Ground.phase }, { on := 13, ground := Go.Ground.phase }, { on := 14, ground := Go.Ground.phase }, { on := 15, ground := Go.Ground.phase }], guard := none }) rfl (fun K hK => ?_) AllReadyH.nil
            have G7 := Lib.hid (grown_far G6.out gr4 fun g e => .inl (HA6.out.own_ge e))
            have HH7 := Lib.hid (HH6.out.block fun g hg hlt => gr4.block g hlt fun e => by have h9 : gb = g := Option.some.inj hg; subst h9; exact hds_ne HH6.out HA6.out e.symm)
            have f7 := HH7.out.free k
            have e7 := HH7.out.cell hd1_len nilV k 0 (by rw [List.length_set]; omega) (by decide)
            rw [Nat.mul_one, Nat.add_zero] at e7
            have e7 := e7.trans rfl
            simp only [hd1, List.getElem?_cons_zero] at e7
            go_simp
            refine hK.out _ _ ?_ (fun hHeld2 => ?_)
            · (try dsimp only); exact HS.out _ (grown_set G7.out k _)
            clear hK K hHeld
            have hHeld := hHeld2
            clear hHeld2
            try simp only [Act.put, List.setIfInBounds_toArray, List.set_cons_zero, List.set_cons_succ]
            refine wpAnyH_done (by kernel_rfl) (Calm.ok ?_) _
            gi_wp2
            have hk8 : KeepsOthers W (w4.setCell ⟨gb, k, none⟩ (.slice (some ⟨g4, 0, none⟩) l4 c4)) := (((((KeepsOthers.drew W).trans (keepsOthers_below (w := W.drew) BB5.out)).trans (keepsOthers_below BB6.out)).trans (KeepsOthers.of_grownBy gr4 HA6.out.row_cells)).trans (KeepsOthers.setCell _ _ _))
            refine ⟨hk8.from _, grown_set G7.out k _, .slice (some ⟨g4, 0, none⟩) l4 c4, ?_, ?_⟩
            · have h9 := HH7.out.put hd1_len nilV k 0 (.slice (some ⟨g4, 0, none⟩) l4 c4) (.slice (some ⟨g4, 0, none⟩) l4 c4) (by rw [List.length_set]; omega) (by decide) rfl
              rw [List.set_set, Nat.mul_one, Nat.add_zero] at h9
              exact h9
            · rw [List.map_append, List.map_singleton, HF.out]
              exact i4.block fun g hg hlt => Below.heap_setCell _ _ _ _ (by have h9 : g4 = g := Option.some.inj hg; have h8 := i4.own_ge hg; have h7 := HGL2.out; show g ≠ gb; omega)
          refine AllReadyH.cons (o := { dst := some 40, op := Go.Op.buildSlice 88 1 #[(0, Go.Operand.tmp 39)], type := 88, pos := "l09_graphs.go:77", after := #[{ on := 13, ground := Go.Ground.data }], guard := none }) rfl (fun K hK => ?_) ?_
          · go_simp
            refine hK.out _ _ ?_ (fun hHeld2 => ?_)
            · (try dsimp only); exact HS.out _ G6.out
            clear hK K hHeld
            have hHeld := hHeld2
            clear hHeld2
            try simp only [Act.put, List.setIfInBounds_toArray, List.set_cons_zero, List.set_cons_succ]
            refine wpAnyH_ready (rs := [5]) (by kernel_rfl) (by simp) ?_
            refine AllReadyH.cons (o := { dst := some 31, op := Go.Op.load 88 (Go.Operand.tmp 30), type := 88, pos := "l09_graphs.go:77", after := #[{ on := 4, ground := Go.Ground.data }], guard := none }) rfl (fun K hK => ?_) AllReadyH.nil
            go_simp
            refine hK.out _ _ ?_ (fun hHeld2 => ?_)
            · (try dsimp only); exact HS.out _ G6.out
            clear hK K hHeld
            have hHeld := hHeld2
            clear hHeld2
            try simp only [Act.put, List.setIfInBounds_toArray, List.set_cons_zero, List.set_cons_succ]
            refine wpAnyH_ready (rs := [15]) (by kernel_rfl) (by simp) ?_
            refine AllReadyH.cons (o := { dst := some 41, op := Go.Op.call { callee := Go.Callee.builtin Go.Builtin.append, args := #[Go.Operand.tmp 31, Go.Operand.tmp 40], argTypes := #[88, 88] }, type := 88, pos := "l09_graphs.go:77", after := #[{ on := 5, ground := Go.Ground.data }, { on := 14, ground := Go.Ground.data }, { on := 11, ground := Go.Ground.chain }], guard := none }) rfl (fun K hK => ?_) AllReadyH.nil
            (refine step_append_arc _ (by rfl) _ _ (by rfl) W1.heap.size _ _ (by rfl) HA6.out w5.heap.size 1 ((k : Int), (x : Int), (j : Int)) (by rfl) HNW.out hlenX hsz6 ?_; intro g4 c4 l4 w4 i4 gr4 ho4)
            refine hK.out _ _ ?_ (fun hHeld2 => ?_)
            · (try dsimp only); exact HS.out _ (grown_far G6.out gr4 fun g e => .inl (HA6.out.own_ge e))
            clear hK K hHeld
            have hHeld := hHeld2
            clear hHeld2
            try simp only [Act.put, List.setIfInBounds_toArray, List.set_cons_zero, List.set_cons_succ]
            refine wpAnyH_take (i := 16) (oi := { dst := some 42, op := Go.Op.indexAddr 56 (Go.Operand.tmp 26) (Go.Operand.tmp 27), type := 0, pos := "l09_graphs.go:77", after := #[{ on := 0, ground := Go.Ground.data }, { on := 1, ground := Go.Ground.data }, { on := 0, ground := Go.Ground.phase }, { on := 1, ground := Go.Ground.phase }, { on := 2, ground := Go.Ground.phase }, { on := 3, ground := Go.Ground.phase }, { on := 4, ground := Go.Ground.phase }, { on := 5, ground := Go.Ground.phase }, { on := 6, ground := Go.Ground.phase }, { on := 7, ground := Go.Ground.phase }, { on := 8, ground := Go.Ground.phase }, { on := 9, ground := Go.Ground.phase }, { on := 10, ground := Go.Ground.phase }, { on := 11, ground := Go.Ground.phase }, { on := 12, ground := Go.Ground.phase }, { on := 13, ground := Go.Ground.phase }, { on := 14, ground := Go.Ground.phase }, { on := 15, ground := Go.Ground.phase }], guard := none }) (v := ?_) rfl (by kernel_rfl) (by kernel_rfl) (by kernel_rfl) (fun _ _ _ h => h) (Or.inl ⟨by rfl, ?_⟩) (by assumption) ?_
            rotate_left
            · (intro w hSw; (try dsimp only at hSw); go_simp); (try with_reducible rfl)
            try simp only [Act.put, List.setIfInBounds_toArray, List.set_cons_zero, List.set_cons_succ]
            refine wpAnyH_ready (rs := [17]) (by kernel_rfl) (by simp) ?_
            refine AllReadyH.cons (o := { dst := none, op := Go.Op.store 88 (Go.Operand.tmp 42) (Go.Operand.tmp 41), type := 0, pos := "l09_graphs.go:77", after := #[{ on := 16, ground := Go.Ground.data }, { on := 15, ground := Go.Ground.data }, { on := 15, ground := Go.Ground.chain }, { on := 0, ground := Go.Ground.phase }, { on := 1, ground := Go.Ground.phase }, { on := 2, ground := Go.Ground.phase }, { on := 3, ground := Go.Ground.phase }, { on := 4, ground := Go.Ground.phase }, { on := 5, ground := Go.Ground.phase }, { on := 6, ground := Go.Ground.phase }, { on := 7, ground := Go.Ground.phase }, { on := 8, ground := Go.Ground.phase }, { on := 9, ground := Go.Ground.phase }, { on := 10, ground := Go.Ground.phase }, { on := 11, ground := Go.Ground.phase }, { on := 12, ground := Go.Ground.phase }, { on := 13, ground := Go.Ground.phase }, { on := 14, ground := Go.Ground.phase }, { on := 15, ground := Go.Ground.phase }], guard := none }) rfl (fun K hK => ?_) AllReadyH.nil
            have G7 := Lib.hid (grown_far G6.out gr4 fun g e => .inl (HA6.out.own_ge e))
            have HH7 := Lib.hid (HH6.out.block fun g hg hlt => gr4.block g hlt fun e => by have h9 : gb = g := Option.some.inj hg; subst h9; exact hds_ne HH6.out HA6.out e.symm)
            have f7 := HH7.out.free k
            have e7 := HH7.out.cell hd1_len nilV k 0 (by rw [List.length_set]; omega) (by decide)
            rw [Nat.mul_one, Nat.add_zero] at e7
            have e7 := e7.trans rfl
            simp only [hd1, List.getElem?_cons_zero] at e7
            go_simp
            refine hK.out _ _ ?_ (fun hHeld2 => ?_)
            · (try dsimp only); exact HS.out _ (grown_set G7.out k _)
            clear hK K hHeld
            have hHeld := hHeld2
            clear hHeld2
            try simp only [Act.put, List.setIfInBounds_toArray, List.set_cons_zero, List.set_cons_succ]
            refine wpAnyH_done (by kernel_rfl) (Calm.ok ?_) _
            gi_wp2
            have hk8 : KeepsOthers W (w4.setCell ⟨gb, k, none⟩ (.slice (some ⟨g4, 0, none⟩) l4 c4)) := (((((KeepsOthers.drew W).trans (keepsOthers_below (w := W.drew) BB5.out)).trans (keepsOthers_below BB6.out)).trans (KeepsOthers.of_grownBy gr4 HA6.out.row_cells)).trans (KeepsOthers.setCell _ _ _))
            refine ⟨hk8.from _, grown_set G7.out k _, .slice (some ⟨g4, 0, none⟩) l4 c4, ?_, ?_⟩
            · have h9 := HH7.out.put hd1_len nilV k 0 (.slice (some ⟨g4, 0, none⟩) l4 c4) (.slice (some ⟨g4, 0, none⟩) l4 c4) (by rw [List.length_set]; omega) (by decide) rfl
              rw [List.set_set, Nat.mul_one, Nat.add_zero] at h9
              exact h9
            · rw [List.map_append, List.map_singleton, HF.out]
              exact i4.block fun g hg hlt => Below.heap_setCell _ _ _ _ (by have h9 : g4 = g := Option.some.inj hg; have h8 := i4.own_ge hg; have h7 := HGL2.out; show g ≠ gb; omega)
          exact AllReadyH.nil
        exact AllReadyH.nil
      case done =>
        rintro D' xs W hD' hxs ⟨hg, d, hd, hA⟩ hK
        have hxs : xs.map Subtype.val = thrN h m := hxs
        have hG2 : W4.grownBy W (some gb) := grown_far G41 hg fun g e => .inr e
        have hRows : ∀ j, j < k + 1 → Arcs W w.heap.size ((hs.set k d).getD j nilV) ((gphG h p).getD j []) := fun j hj => by
          by_cases e : j = k
          · subst e
            rw [getD_set_self (by omega), HRW.out]
            have h9 : xs.map (fun x : {t : Nat // t ∈ thrN h m} => arcOf j m x.1) = rowG h j m := by
              have h8 := congrArg (List.map (arcOf j m)) hxs
              rw [List.map_map] at h8
              exact h8
            rw [h9] at hA
            exact OwnK.mono hA (by omega)
          · rw [getD_set_ne (fun e2 => e e2.symm)]
            have hA1 := (HR.out j (by omega)).below BR
            exact hA1.block fun g hg' hlt' => hg.block g hlt' fun e2 => hds_ne HH1 hA1 (by rw [hg', ← e2])
        have hZ2 : ∀ j, k + 1 ≤ j → (hs.set k d).getD j nilV = nilV := fun j hj => by
          rw [getD_set_ne (by omega)]; exact HZ.out j (by omega)
        have hC2 : Coll w.heap.size (markD D' :: ds) W := Coll.add HC.out (fun E hE => by
          have hlt := (Array.getElem?_eq_some_iff.1 hE).1
          have h9 := (BR.block E hlt).trans hE
          refine (hg.block E (by omega) fun e2 => ?_).trans h9
          have h8 := HH1.row_cells E _ (by simp [Value.ownBlock]; exact (Option.some.inj e2).symm) h9
          cases h8) (by omega) (by omega) hK
        have hl2 : (hs.set k d).length = n := by rw [List.length_set]; exact hsl
        clear HR HC HZ HNX HSS HLK HRW hH hZk hG hA hxs hK HH1 G41
        gi_wp2
        exact ⟨⟨k + 1, hs.set k d, markD D' :: ds, _, _, _, _, _, _, _, _, _, _, _, _, _, _, _, _, _, _, _, _, _, _, _, _, _, _, _, _, by omega, hl2, hG2, hd, hRows, hZ2, hC2, rfl⟩, by simp [intOf]; omega⟩
    · obtain rfl : k = n := by omega
      have cv := (HW.out wr hG).1
      have hB := (HW.out wr hG).2.2.2.2
      obtain ⟨Ds, rfl, hnd, hDs⟩ := hC
      have HFIN := Lib.hid (fun W' (ht : Taken w.heap.size wr W') => show GraphIs W' w.heap.size (.slice (some ⟨gb, 0, none⟩) k k) (gphG h p) ∧ Below w.heap.size w W' from
        ⟨⟨gb, hs, by rw [HPL.out], by rw [HPL.out]; exact hsl, by rw [HPL.out]; exact hH.taken ht, fun j hj => (hR j (by rw [HPL.out] at hj; omega)).taken ht⟩, ht.below hB⟩)
      clear HST O0 HNX HLK HPL hR hZ hH hG hB HW
      gi_wp2
      exact coll_leaves (N := w.heap.size) (fun W' ht => ⟨.slice (some ⟨gb, 0, none⟩) k k, by simp [results, Tryd.results25, go_sem], _, rfl, HFIN.out W' ht⟩) Ds wr (Taken.refl _ _) hnd (fun E hE => ⟨(hDs E hE).1, (hDs E hE).2, (hDs E hE).2⟩)

theorem popN_ground : ∀ p, p < 11 → popN (2 ^ p - 1) = p := by decide +kernel
theorem cntG_pos {h p : Nat} (hp : p ≤ h) (hh : h ≤ 10) : 1 ≤ cntG h p := by
  have h9 : 2 ^ p - 1 < 2 ^ h := by
    have := Nat.pow_le_pow_right (n := 2) (by decide) hp
    have := Nat.two_pow_pos p
    omega
  have := (idx_in (h := h) h9 (popN_ground p (by omega))).1
  omega
theorem graph_any (p h : Nat) (w : World) (hp : p ≤ h) (h1 : 1 ≤ h) (hh : h ≤ 10) (hT : CtzTab w) :
    Calls Tryd.prog 25 #[.agg #[.int .i64 p, .int .i64 h]] w fun e w' => ∃ u, e = .returned u ∧ GraphIs w' w.heap.size u (gphG h p) ∧ Below w.heap.size w w' :=
  callsIn_wide.1 (graph_in p h w hp h1 hh (cntG_pos hp hh) hT)
end Go.Proofs.YtdghbbnddgngoaaDoor
