/- PairUp, the program's. No conditions. -/
import Derived.Test.YtdgmmaghmdbnjaaPairU
import Derived.Test.YtdgmmaghmdbnjaaJoined
namespace Go.Proofs.Ytdgmmaghmdbnjaa
open Go.RowKit
open Go.Maps (Keyed)
set_option linter.unusedSimpArgs false
set_option linter.unusedVariables false

theorem look_thr {W : World} {b n : Nat} {D : DU} (h : W.ownsMap Try.prog 112 thrR b n D) (hS : SlidMap D 30) (g : Nat) (gi : Int) (hgi : gi = (g : Int)) (hg : g ≤ 1) (v : Int) (v0 : 0 ≤ v) (v1 : v ≤ 15) :
    ∃ t : Thr, (Instr.lookup 108 (.map (some b)) (.agg #[.int .i64 gi, .int .i64 v]) true).run Try.prog W = .ok (.tuple #[.agg #[.int .i64 t.1, .bool t.2], .bool (okT (backT v g))]) W ∧ (okT (backT v g) = true → t = backT v g) := by
  subst hgi
  obtain ⟨u, ps, hr, hv⟩ := h.look_ok pairKeyed Try.underlying108 (pairZero W) (thrR_mk t0) (klit_key (h := (g : Int)) (v := v) (by omega) (by omega) (by omega) (by omega))
  obtain ⟨l1, l2⟩ := hS.look g hg v v0 v1
  obtain ⟨t, rfl, hd⟩ := thrR_some hv
  refine ⟨t, by rw [l1] at hr; exact hr, fun e => ?_⟩
  have := l2 e
  rw [hd] at this
  simp only [thrD, DataW.agg.injEq, List.cons.injEq, DataW.lit.injEq, Lit.int.injEq, Lit.bool.injEq, true_and, and_true] at this
  exact Prod.ext this.1 this.2

set_option maxRecDepth 10000 in
set_option maxHeartbeats 8000000 in
theorem pairUp_impl_row (g n cap B : Nat) (p : List Int) (w : World) (h : Ints w B (.slice (some ⟨g, 0, none⟩) n cap) p) (hn : n = p.length) (hok : Hid (okPat p = true)) (c : Int) (r : List Syn) (hcc : Hid (c = pairC p)) (hrr : Hid (r = pairR p)) (HO : Calls Try.prog 94 #[.slice (some ⟨g, 0, none⟩) n cap] w fun e w' => e = .returned (.bool true) ∧ Below w.heap.size w w') :
    Calls Try.prog 33 #[.slice (some ⟨g, 0, none⟩) n cap] w fun e w' => ∃ u, e = .returned (.tuple #[u, .int .i64 c]) ∧ Syns w' w.heap.size u r ∧ Below w.heap.size w w' := by
  have hl := okPat_len hok.out
  have hsee := h.sees hl.1
  have HJ1 := fun W (hW : Below w.heap.size w W) => joined_any (.slice (some ⟨g, 0, none⟩) n cap) (.slice none 0 0) p [] W (hsee.below hW) (.inl ⟨rfl, rfl⟩) hl.1 (by simp; omega)
  have HJ2 := Lib.hid (fun W (hW : Below w.heap.size w W) => joined_any (.slice (some ⟨g, 0, none⟩) n cap) (.slice (some ⟨W.heap.size, 0, none⟩) 1 1) p [p] (W.alloc (.cells #[.slice (some ⟨g, 0, none⟩) n cap] 106)) ((hsee.below hW).below (belQ_al (Below.refl _ _) _))
    (.inr ⟨W.heap.size, 1, rfl, by simp, by simp, fun i hi => by
      obtain rfl : i = 0 := by simp at hi; omega
      exact ⟨_, by simp; rfl, by simpa using (hsee.below hW).below (belQ_al (Below.refl _ _) _)⟩⟩) hl.1 (by simp; omega))
  obtain ⟨hl1, hl2⟩ := hl
  have hn12 : n ≤ 12 := by omega
  have HN := Lib.hid hn
  clear h hsee hn
  go_enter Try.func33, Try.ntmps33
  go_wp2_with fail
  refine HO.mono ?_
  rintro e w1 ⟨rfl, b1⟩
  clear HO
  go_wp2_with fail
  refine (HJ1 _ b1).mono ?_
  rintro e w2 ⟨u, rfl, i2, b2⟩
  clear HJ1
  have B2 := b1.trans (b2.mono b1.size)
  have hz1 := b1.size
  have hz2 := b2.size
  replace i2 := i2.mono hz1
  rw [List.flatten_nil, List.append_nil] at i2
  clear b1 b2
  by_cases hodd : n % 2 = 1
  · have ho' : ((n : Int) % 2 != 0) = true := by have : (n : Int) % 2 = 1 := by omega
                                                 simp [this]
    have HJ := HJ2.out w2 B2
    clear HJ2 i2
    go_wp2_with fail
    refine HJ.mono ?_
    rintro e w3 ⟨u3, rfl, i3, b3⟩
    clear HJ
    have B3 : Below w.heap.size w w3 := (B2.alloc B2.size _).trans (b3.mono (by have := B2.size; simp; omega))
    have e9 : allP p = p ++ p := allP_odd (by have := HN.out; omega)
    replace i3 : Ints w3 w.heap.size u3 (allP p) := by rw [e9]; simpa using i3.mono (by have := B2.size; simp; omega)
    have hal := (allP_len p).2
    clear B2 b3 e9
    obtain ⟨ga, ca, rfl, hBa, hga, hca, hma⟩ := i3.shape2 (by omega)
    have hB9 : Below w.heap.size w w3 := B3
    by_cases h12 : 12 < (allP p).length
    · obtain ⟨e1, e2⟩ := pair_full hok.out h12
      obtain rfl := hcc.out.trans e1
      obtain rfl := hrr.out.trans e2
      have h12' : (12 : Int) < ((allP p).length : Int) := by omega
      generalize (allP p).length = nn at *
      clear i3
      go_wp2
      go_ret2
      first | exact ⟨_, rfl, OwnK.nil _ _ _ _ _, hB9⟩ | exact ⟨rfl, OwnK.nil _ _ _ _ _, hB9⟩
    · have h12' : ¬ (12 : Int) < ((allP p).length : Int) := by omega
      obtain ⟨m, hm⟩ : ∃ m, (allP p).length = 2 * m := ⟨(allP p).length / 2, by have := (allP_len p).1; omega⟩
      have hm6 : m ≤ 6 := by omega
      have HCE := Lib.hid (fun W (hW : Below w3.heap.size w3 W) i (hi : i < 2 * m) => show W.cell? ⟨ga, i, none⟩ = some (.int .i64 ((allP p).getD i 0)) from (hW.cell (p := ⟨ga, i, none⟩) hga).trans (i3.cell i (by omega)))
      have HVA := Lib.hid (fun i (hi : i < 2 * m) => show 0 ≤ (allP p).getD i 0 ∧ (allP p).getD i 0 ≤ 15 from by
        have hmem : (allP p).getD i 0 ∈ allP p := by rw [List.getD_eq_getElem?_getD, List.getElem?_eq_getElem (by omega)]; simp
        have hm' := allP_mem hmem
        obtain ⟨j, hj, e⟩ := List.getElem_of_mem hm'
        have := okPat_at hok.out j hj
        rw [List.getD_eq_getElem?_getD, List.getElem?_eq_getElem hj, Option.getD_some, e] at this
        exact this)
      have HPT := Lib.hid (fun k (hk : k < m) => show ((pairL (allP p)).take k ++ List.replicate (m - k) s0).set k (pairAt (allP p) k) = (pairL (allP p)).take (k + 1) ++ List.replicate (m - (k + 1)) s0 from by
        have := take_set_syn (pairL (allP p)) m k hk (by rw [pairL_len]; omega)
        rwa [pairL_at _ _ (by omega)] at this)
      have HLL := Lib.hid (fun k (hk : k < m) => show k < ((pairL (allP p)).take k ++ List.replicate (m - k) s0).length from by rw [List.length_append, List.length_take, pairL_len, List.length_replicate]; omega)
      have HBD := Lib.hid (fun i (hi : i < m) (hb : (okT (pairAt (allP p) i).1 && okT (pairAt (allP p) i).2) = false) => show pairC p = 10 ∧ pairR p = [] from pair_lost hok.out h12 (goodP_bad i (by omega) hb))
      have HGD := Lib.hid (fun (hg : ∀ i, i < m → okT (pairAt (allP p) i).1 = true ∧ okT (pairAt (allP p) i).2 = true) => show pairC p = 0 ∧ pairR p = (pairL (allP p)).take m from by
        obtain ⟨e1, e2⟩ := pair_good hok.out h12 (goodP_good fun i hi => hg i (by omega))
        exact ⟨e1, by rw [e2, List.take_of_length_le (by rw [pairL_len]; omega)]⟩)
      have HAT := Lib.hid (fun i => show pairAt (allP p) i = (backT ((allP p).getD (2 * i) 0) 0, backT ((allP p).getD (2 * i + 1) 0) 1) from rfl)
      rw [hm] at h12' ⊢
      have hz3 := B3.size
      clear i3 B3 h12 hm hok hca hma
      generalize allP p = L at *
      go_wp2_with fail
      refine (unslid_any _).mono ?_
      rintro e w4 ⟨D, nn, rfl, own4, hSM, b4⟩
      have hz4 := b4.size
      have hlo := own4.lt
      have hq1 : ((2 * m : Nat) : Int) / 2 = (m : Int) := by omega
      have hq2 : (2 * (m : Int)) / 2 = (m : Int) := by omega
      have hq3 : ((2 * m : Nat) : Int).tdiv 2 = (m : Int) := by rw [Int.tdiv_eq_ediv_of_nonneg (by omega)]; omega
      have hq4 : (2 * (m : Int)).tdiv 2 = (m : Int) := by rw [Int.tdiv_eq_ediv_of_nonneg (by omega)]; omega
      obtain ⟨i0, hi0, hz0, hz1', hz2'⟩ := info_parts Try.infoSyn
      go_wp2_with (at_make; refine wpList_make_full _ rfl _ _ 44 rfl w4.heap.size 114 i0 (.agg #[.int .i64 0, .bool false, .int .i64 0, .bool false]) 4 Try.underlying44 hi0 hz0 hz1' _ _ _ _ m rfl rfl rfl rfl (by rw [hz2']; omega) (by unfold maxLen; omega) (Nat.le_refl _) ?_; intro w5 hown hg5; refine Hid.out ?_)
      have i5 : Syns w5 w4.heap.size (.slice (some ⟨w4.heap.size, 0, none⟩) m m) ((pairL L).take 0 ++ List.replicate (m - 0) s0) := by
        have e := made_flat synV_len s0 m (by decide)
        unfold Syns OwnK
        rw [List.take_zero, List.nil_append, Nat.sub_zero, List.length_replicate, ← e]
        exact hown
      have b5 : Below w4.heap.size w4 w5 := (Below.refl _ _).grown hg5 (Nat.le_refl _) (by simp)
      clear hown hg5 hi0 hz0 hz1' hz2' hq1 hq2 hq3 hq4
      refine Lib.hid ?_
      go_wp2
      go_loopw [35] (fun i wr => ∃ k : Nat, k ≤ m ∧ i = .int .i64 (k : Int) ∧ Syns wr w4.heap.size (.slice (some ⟨w4.heap.size, 0, none⟩) m m) ((pairL L).take k ++ List.replicate (m - k) s0) ∧ Hid (∀ j, j < k → okT (pairAt L j).1 = true ∧ okT (pairAt L j).2 = true) ∧ Below w4.heap.size w4 wr) (fun i _ => m - (intOf i).toNat)
      case atStart => exact ⟨0, Nat.zero_le _, rfl, i5, fun j hj => absurd hj (Nat.not_lt_zero _), b5⟩
      case round =>
        clear i5 b5
        obtain ⟨k, hk, rfl, hi, hall, hb⟩ := hrel
        have hzr := hb.size
        by_cases hlt : k < m
        · have hlt' : (k : Int) < (m : Int) := by omega
          have b3r : Below w3.heap.size w3 wr := b4.trans (hb.mono hz4)
          have ce0 := HCE.out wr b3r (2 * k) (by omega)
          have bA := belQ_al (Below.refl wr.heap.size wr)
          obtain ⟨va0, va1⟩ := HVA.out (2 * k) (by omega)
          obtain ⟨vb0, vb1⟩ := HVA.out (2 * k + 1) (by omega)
          have HTK := Lib.hid (HPT.out k hlt)
          have hkl := HLL.out k hlt
          have HBK := Lib.hid (HBD.out k hlt)
          have hAT := HAT.out k
          have HNX := Lib.hid (fun (h : okT (pairAt L k).1 = true ∧ okT (pairAt L k).2 = true) => show ∀ j, j < k + 1 → okT (pairAt L j).1 = true ∧ okT (pairAt L j).2 = true from fun j hj => by
            by_cases e : j = k
            · subst e; exact h
            · exact hall.out j (by omega))
          obtain ⟨ta, hta, hta2⟩ := look_thr (ownsMap_below own4 (hb.mono (Nat.le_refl _))) hSM 0 0 rfl (by decide) (L.getD (2 * k) 0) va0 va1
          have HTB := Lib.hid (fun (o : Obj) => look_thr (ownsMap_below own4 (hb.trans ((bA o).mono hzr))) hSM 1 1 rfl (by decide) (L.getD (2 * k + 1) 0) vb0 vb1)
          have HC1 := Lib.hid (fun (o : Obj) => HCE.out (wr.alloc o) (b3r.trans ((bA o).mono b3r.size)) (2 * k + 1) (by omega))
          have hw1 : IntKind.i64.wrap (2 * (k : Int)) = ((2 * k : Nat) : Int) := by rw [IntWalk.i64_in _ (by omega)]; omega
          have hw2 : IntKind.i64.wrap (((2 * k : Nat) : Int) + 1) = ((2 * k + 1 : Nat) : Int) := by rw [IntWalk.i64_in _ (by omega)]; omega
          clear HCE HVA HPT HLL HBD HGD HAT hall own4 hSM b3r bA
          generalize pairAt L k = y at *
          subst hAT
          generalize (pairL L).take k ++ List.replicate (m - k) s0 = acc at *
          generalize L.getD (2 * k) 0 = xa at *
          generalize L.getD (2 * k + 1) 0 = xb at *
          simp only at HBK HNX HTK
          obtain ⟨a0, a1⟩ := ta
          obtain ⟨tb, htb, htb2⟩ := HTB.out (.cells #[.int .i64 a0, .bool a1] 100)
          have ce1 := HC1.out (.cells #[.int .i64 a0, .bool a1] 100)
          obtain ⟨b0, b1⟩ := tb
          simp only at hta htb
          clear HTB HC1
          have bw := belQ_al (belQ_al (Below.refl wr.heap.size wr) (.cells #[.int .i64 a0, .bool a1] 100)) (.cells #[.int .i64 b0, .bool b1] 100)
          have hb9 : Below w.heap.size w ((wr.alloc (.cells #[.int .i64 a0, .bool a1] 100)).alloc (.cells #[.int .i64 b0, .bool b1] 100)) := hB9.trans ((b4.trans ((hb.trans (bw.mono hzr)).mono hz4)).mono hz3)
          cases h1 : okT (backT xa 0) with
          | false =>
            obtain ⟨q1, q2⟩ := HBK.out (by rw [h1]; rfl)
            obtain rfl := hcc.out.trans q1
            obtain rfl := hrr.out.trans q2
            rw [h1] at hta
            clear HBK HNX HTK hi hta2 htb2 h1 bw
            generalize okT (backT xb 1) = ok1 at *
            go_wp2
            go_ret2
            first | exact ⟨_, rfl, OwnK.nil _ _ _ _ _, hb9⟩ | exact ⟨rfl, OwnK.nil _ _ _ _ _, hb9⟩
          | true =>
            cases h2 : okT (backT xb 1) with
            | false =>
              obtain ⟨q1, q2⟩ := HBK.out (by rw [h1, h2]; rfl)
              obtain rfl := hcc.out.trans q1
              obtain rfl := hrr.out.trans q2
              rw [h1] at hta
              rw [h2] at htb
              clear HBK HNX HTK hi hta2 htb2 h1 h2 bw
              go_wp2
              go_ret2
              first | exact ⟨_, rfl, OwnK.nil _ _ _ _ _, hb9⟩ | exact ⟨rfl, OwnK.nil _ _ _ _ _, hb9⟩
            | true =>
              have HN := Lib.hid (HNX.out ⟨h1, h2⟩)
              have t1 := hta2 h1
              have t2 := htb2 h2
              rw [h1] at hta
              rw [h2] at htb
              rw [← t1, ← t2] at HTK
              clear HBK HNX hta2 htb2 h1 h2 t1 t2
              have hi2 := (hi.alloc (.cells #[.int .i64 a0, .bool a1] 100)).alloc (.cells #[.int .i64 b0, .bool b1] 100)
              obtain ⟨d0, d1, d2, d3⟩ := hi2.four k hkl
              have f0 := hi2.free (k * 4)
              have f1 := hi2.free (k * 4 + 1)
              have f2 := hi2.free (k * 4 + 2)
              have f3 := hi2.free (k * 4 + 3)
              have HP := Lib.hid (hi2.put4 k hkl ((a0, a1), (b0, b1)))
              rw [HTK.out] at HP
              have hbn := below_four (hb.trans (bw.mono hzr)) (g := w4.heap.size) (o := k * 4) (Nat.le_refl _) (.int .i64 a0) (.bool a1) (.int .i64 b0) (.bool b1)
              generalize acc.getD k s0 = z at *
              clear hi hi2 hb HTK bw hb9
              go_wp2
              go_roundw
              case rel => exact ⟨k + 1, by omega, by go_num, HP.out, HN, hbn⟩
              case measure => simp [intOf]; omega
        · obtain rfl : k = m := by omega
          obtain ⟨e1, e2⟩ := HGD.out hall.out
          obtain rfl := hcc.out.trans e1
          obtain rfl := hrr.out.trans e2
          have hb10 := hB9.trans ((b4.trans (hb.mono hz4)).mono hz3)
          have hi9 := hi.mono (show w.heap.size ≤ w4.heap.size by omega)
          rw [Nat.sub_self, List.replicate_zero, List.append_nil] at hi9
          clear HCE HVA HPT HLL HBD HGD HAT hall hi
          go_wp2
          go_ret2
          first | exact ⟨_, rfl, hi9, hb10⟩ | exact ⟨rfl, hi9, hb10⟩
  · have ho' : ((n : Int) % 2 != 0) = false := by have : (n : Int) % 2 = 0 := by omega
                                                  simp [this]
    have e9 : allP p = p := allP_even (by have := HN.out; omega)
    rw [← e9] at i2
    have hal := (allP_len p).2
    obtain ⟨w3, hw3⟩ : ∃ w3, w3 = w2 := ⟨_, rfl⟩
    subst hw3
    have i3 := i2
    have B3 := B2
    clear i2 B2 e9 HJ2
    obtain ⟨ga, ca, rfl, hBa, hga, hca, hma⟩ := i3.shape2 (by omega)
    have hB9 : Below w.heap.size w w3 := B3
    by_cases h12 : 12 < (allP p).length
    · obtain ⟨e1, e2⟩ := pair_full hok.out h12
      obtain rfl := hcc.out.trans e1
      obtain rfl := hrr.out.trans e2
      have h12' : (12 : Int) < ((allP p).length : Int) := by omega
      generalize (allP p).length = nn at *
      clear i3
      go_wp2
      go_ret2
      first | exact ⟨_, rfl, OwnK.nil _ _ _ _ _, hB9⟩ | exact ⟨rfl, OwnK.nil _ _ _ _ _, hB9⟩
    · have h12' : ¬ (12 : Int) < ((allP p).length : Int) := by omega
      obtain ⟨m, hm⟩ : ∃ m, (allP p).length = 2 * m := ⟨(allP p).length / 2, by have := (allP_len p).1; omega⟩
      have hm6 : m ≤ 6 := by omega
      have HCE := Lib.hid (fun W (hW : Below w3.heap.size w3 W) i (hi : i < 2 * m) => show W.cell? ⟨ga, i, none⟩ = some (.int .i64 ((allP p).getD i 0)) from (hW.cell (p := ⟨ga, i, none⟩) hga).trans (i3.cell i (by omega)))
      have HVA := Lib.hid (fun i (hi : i < 2 * m) => show 0 ≤ (allP p).getD i 0 ∧ (allP p).getD i 0 ≤ 15 from by
        have hmem : (allP p).getD i 0 ∈ allP p := by rw [List.getD_eq_getElem?_getD, List.getElem?_eq_getElem (by omega)]; simp
        have hm' := allP_mem hmem
        obtain ⟨j, hj, e⟩ := List.getElem_of_mem hm'
        have := okPat_at hok.out j hj
        rw [List.getD_eq_getElem?_getD, List.getElem?_eq_getElem hj, Option.getD_some, e] at this
        exact this)
      have HPT := Lib.hid (fun k (hk : k < m) => show ((pairL (allP p)).take k ++ List.replicate (m - k) s0).set k (pairAt (allP p) k) = (pairL (allP p)).take (k + 1) ++ List.replicate (m - (k + 1)) s0 from by
        have := take_set_syn (pairL (allP p)) m k hk (by rw [pairL_len]; omega)
        rwa [pairL_at _ _ (by omega)] at this)
      have HLL := Lib.hid (fun k (hk : k < m) => show k < ((pairL (allP p)).take k ++ List.replicate (m - k) s0).length from by rw [List.length_append, List.length_take, pairL_len, List.length_replicate]; omega)
      have HBD := Lib.hid (fun i (hi : i < m) (hb : (okT (pairAt (allP p) i).1 && okT (pairAt (allP p) i).2) = false) => show pairC p = 10 ∧ pairR p = [] from pair_lost hok.out h12 (goodP_bad i (by omega) hb))
      have HGD := Lib.hid (fun (hg : ∀ i, i < m → okT (pairAt (allP p) i).1 = true ∧ okT (pairAt (allP p) i).2 = true) => show pairC p = 0 ∧ pairR p = (pairL (allP p)).take m from by
        obtain ⟨e1, e2⟩ := pair_good hok.out h12 (goodP_good fun i hi => hg i (by omega))
        exact ⟨e1, by rw [e2, List.take_of_length_le (by rw [pairL_len]; omega)]⟩)
      have HAT := Lib.hid (fun i => show pairAt (allP p) i = (backT ((allP p).getD (2 * i) 0) 0, backT ((allP p).getD (2 * i + 1) 0) 1) from rfl)
      rw [hm] at h12' ⊢
      have hz3 := B3.size
      clear i3 B3 h12 hm hok hca hma
      generalize allP p = L at *
      go_wp2_with fail
      refine (unslid_any _).mono ?_
      rintro e w4 ⟨D, nn, rfl, own4, hSM, b4⟩
      have hz4 := b4.size
      have hlo := own4.lt
      have hq1 : ((2 * m : Nat) : Int) / 2 = (m : Int) := by omega
      have hq2 : (2 * (m : Int)) / 2 = (m : Int) := by omega
      have hq3 : ((2 * m : Nat) : Int).tdiv 2 = (m : Int) := by rw [Int.tdiv_eq_ediv_of_nonneg (by omega)]; omega
      have hq4 : (2 * (m : Int)).tdiv 2 = (m : Int) := by rw [Int.tdiv_eq_ediv_of_nonneg (by omega)]; omega
      obtain ⟨i0, hi0, hz0, hz1', hz2'⟩ := info_parts Try.infoSyn
      go_wp2_with (at_make; refine wpList_make_full _ rfl _ _ 44 rfl w4.heap.size 114 i0 (.agg #[.int .i64 0, .bool false, .int .i64 0, .bool false]) 4 Try.underlying44 hi0 hz0 hz1' _ _ _ _ m rfl rfl rfl rfl (by rw [hz2']; omega) (by unfold maxLen; omega) (Nat.le_refl _) ?_; intro w5 hown hg5; refine Hid.out ?_)
      have i5 : Syns w5 w4.heap.size (.slice (some ⟨w4.heap.size, 0, none⟩) m m) ((pairL L).take 0 ++ List.replicate (m - 0) s0) := by
        have e := made_flat synV_len s0 m (by decide)
        unfold Syns OwnK
        rw [List.take_zero, List.nil_append, Nat.sub_zero, List.length_replicate, ← e]
        exact hown
      have b5 : Below w4.heap.size w4 w5 := (Below.refl _ _).grown hg5 (Nat.le_refl _) (by simp)
      clear hown hg5 hi0 hz0 hz1' hz2' hq1 hq2 hq3 hq4
      refine Lib.hid ?_
      go_wp2
      go_loopw [35] (fun i wr => ∃ k : Nat, k ≤ m ∧ i = .int .i64 (k : Int) ∧ Syns wr w4.heap.size (.slice (some ⟨w4.heap.size, 0, none⟩) m m) ((pairL L).take k ++ List.replicate (m - k) s0) ∧ Hid (∀ j, j < k → okT (pairAt L j).1 = true ∧ okT (pairAt L j).2 = true) ∧ Below w4.heap.size w4 wr) (fun i _ => m - (intOf i).toNat)
      case atStart => exact ⟨0, Nat.zero_le _, rfl, i5, fun j hj => absurd hj (Nat.not_lt_zero _), b5⟩
      case round =>
        clear i5 b5
        obtain ⟨k, hk, rfl, hi, hall, hb⟩ := hrel
        have hzr := hb.size
        by_cases hlt : k < m
        · have hlt' : (k : Int) < (m : Int) := by omega
          have b3r : Below w3.heap.size w3 wr := b4.trans (hb.mono hz4)
          have ce0 := HCE.out wr b3r (2 * k) (by omega)
          have bA := belQ_al (Below.refl wr.heap.size wr)
          obtain ⟨va0, va1⟩ := HVA.out (2 * k) (by omega)
          obtain ⟨vb0, vb1⟩ := HVA.out (2 * k + 1) (by omega)
          have HTK := Lib.hid (HPT.out k hlt)
          have hkl := HLL.out k hlt
          have HBK := Lib.hid (HBD.out k hlt)
          have hAT := HAT.out k
          have HNX := Lib.hid (fun (h : okT (pairAt L k).1 = true ∧ okT (pairAt L k).2 = true) => show ∀ j, j < k + 1 → okT (pairAt L j).1 = true ∧ okT (pairAt L j).2 = true from fun j hj => by
            by_cases e : j = k
            · subst e; exact h
            · exact hall.out j (by omega))
          obtain ⟨ta, hta, hta2⟩ := look_thr (ownsMap_below own4 (hb.mono (Nat.le_refl _))) hSM 0 0 rfl (by decide) (L.getD (2 * k) 0) va0 va1
          have HTB := Lib.hid (fun (o : Obj) => look_thr (ownsMap_below own4 (hb.trans ((bA o).mono hzr))) hSM 1 1 rfl (by decide) (L.getD (2 * k + 1) 0) vb0 vb1)
          have HC1 := Lib.hid (fun (o : Obj) => HCE.out (wr.alloc o) (b3r.trans ((bA o).mono b3r.size)) (2 * k + 1) (by omega))
          have hw1 : IntKind.i64.wrap (2 * (k : Int)) = ((2 * k : Nat) : Int) := by rw [IntWalk.i64_in _ (by omega)]; omega
          have hw2 : IntKind.i64.wrap (((2 * k : Nat) : Int) + 1) = ((2 * k + 1 : Nat) : Int) := by rw [IntWalk.i64_in _ (by omega)]; omega
          clear HCE HVA HPT HLL HBD HGD HAT hall own4 hSM b3r bA
          generalize pairAt L k = y at *
          subst hAT
          generalize (pairL L).take k ++ List.replicate (m - k) s0 = acc at *
          generalize L.getD (2 * k) 0 = xa at *
          generalize L.getD (2 * k + 1) 0 = xb at *
          simp only at HBK HNX HTK
          obtain ⟨a0, a1⟩ := ta
          obtain ⟨tb, htb, htb2⟩ := HTB.out (.cells #[.int .i64 a0, .bool a1] 100)
          have ce1 := HC1.out (.cells #[.int .i64 a0, .bool a1] 100)
          obtain ⟨b0, b1⟩ := tb
          simp only at hta htb
          clear HTB HC1
          have bw := belQ_al (belQ_al (Below.refl wr.heap.size wr) (.cells #[.int .i64 a0, .bool a1] 100)) (.cells #[.int .i64 b0, .bool b1] 100)
          have hb9 : Below w.heap.size w ((wr.alloc (.cells #[.int .i64 a0, .bool a1] 100)).alloc (.cells #[.int .i64 b0, .bool b1] 100)) := hB9.trans ((b4.trans ((hb.trans (bw.mono hzr)).mono hz4)).mono hz3)
          cases h1 : okT (backT xa 0) with
          | false =>
            obtain ⟨q1, q2⟩ := HBK.out (by rw [h1]; rfl)
            obtain rfl := hcc.out.trans q1
            obtain rfl := hrr.out.trans q2
            rw [h1] at hta
            clear HBK HNX HTK hi hta2 htb2 h1 bw
            generalize okT (backT xb 1) = ok1 at *
            go_wp2
            go_ret2
            first | exact ⟨_, rfl, OwnK.nil _ _ _ _ _, hb9⟩ | exact ⟨rfl, OwnK.nil _ _ _ _ _, hb9⟩
          | true =>
            cases h2 : okT (backT xb 1) with
            | false =>
              obtain ⟨q1, q2⟩ := HBK.out (by rw [h1, h2]; rfl)
              obtain rfl := hcc.out.trans q1
              obtain rfl := hrr.out.trans q2
              rw [h1] at hta
              rw [h2] at htb
              clear HBK HNX HTK hi hta2 htb2 h1 h2 bw
              go_wp2
              go_ret2
              first | exact ⟨_, rfl, OwnK.nil _ _ _ _ _, hb9⟩ | exact ⟨rfl, OwnK.nil _ _ _ _ _, hb9⟩
            | true =>
              have HN := Lib.hid (HNX.out ⟨h1, h2⟩)
              have t1 := hta2 h1
              have t2 := htb2 h2
              rw [h1] at hta
              rw [h2] at htb
              rw [← t1, ← t2] at HTK
              clear HBK HNX hta2 htb2 h1 h2 t1 t2
              have hi2 := (hi.alloc (.cells #[.int .i64 a0, .bool a1] 100)).alloc (.cells #[.int .i64 b0, .bool b1] 100)
              obtain ⟨d0, d1, d2, d3⟩ := hi2.four k hkl
              have f0 := hi2.free (k * 4)
              have f1 := hi2.free (k * 4 + 1)
              have f2 := hi2.free (k * 4 + 2)
              have f3 := hi2.free (k * 4 + 3)
              have HP := Lib.hid (hi2.put4 k hkl ((a0, a1), (b0, b1)))
              rw [HTK.out] at HP
              have hbn := below_four (hb.trans (bw.mono hzr)) (g := w4.heap.size) (o := k * 4) (Nat.le_refl _) (.int .i64 a0) (.bool a1) (.int .i64 b0) (.bool b1)
              generalize acc.getD k s0 = z at *
              clear hi hi2 hb HTK bw hb9
              go_wp2
              go_roundw
              case rel => exact ⟨k + 1, by omega, by go_num, HP.out, HN, hbn⟩
              case measure => simp [intOf]; omega
        · obtain rfl : k = m := by omega
          obtain ⟨e1, e2⟩ := HGD.out hall.out
          obtain rfl := hcc.out.trans e1
          obtain rfl := hrr.out.trans e2
          have hb10 := hB9.trans ((b4.trans (hb.mono hz4)).mono hz3)
          have hi9 := hi.mono (show w.heap.size ≤ w4.heap.size by omega)
          rw [Nat.sub_self, List.replicate_zero, List.append_nil] at hi9
          clear HCE HVA HPT HLL HBD HGD HAT hall hi
          go_wp2
          go_ret2
          first | exact ⟨_, rfl, hi9, hb10⟩ | exact ⟨rfl, hi9, hb10⟩

theorem pairUp_impl (v : Value) (B : Nat) (p : List Int) (w : World) (h : Ints w B v p) :
    Calls Try.prog 33 #[v] w fun e w' => ∃ u, e = .returned (.tuple #[u, .int .i64 (pairC p)]) ∧ Syns w' w.heap.size u (pairR p) ∧ Below w.heap.size w w' := by
  have HO := validPattern_impl v B p w h
  cases hok : okPat p with
  | false =>
    obtain ⟨e1, e2⟩ := pair_bad hok
    rw [e1, e2]
    rw [hok] at HO
    clear h hok e1 e2
    go_enter Try.func33, Try.ntmps33
    go_wp2_with fail
    refine HO.mono ?_
    rintro e w1 ⟨rfl, b1⟩
    go_wp2
    go_ret2
    first | exact ⟨_, rfl, OwnK.nil _ _ _ _ _, b1⟩ | exact ⟨rfl, OwnK.nil _ _ _ _ _, b1⟩
  | true =>
    rw [hok] at HO
    obtain ⟨g, cap, rfl, _, _, _, _⟩ := h.shape2 (okPat_len hok).1
    exact pairUp_impl_row g p.length cap B p w h rfl hok _ _ rfl rfl HO
end Go.Proofs.Ytdgmmaghmdbnjaa
