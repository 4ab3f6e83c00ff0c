/- The arcs of one kind of states, the model's: l09Arcs. No conditions. -/
import Derived.Test.YtdghbbnddgngoaaDoorArV
import Derived.Test.YtdghbbnddgngoaaDoorGpT
import Derived.Test.YtdghbbnddgngoaaDoorStU
import Derived.Test.YtdghbbnddgngoaaDoorStO
import Derived.Deep.AppendLies
import Derived.Deep.DeepCutAuto
import Derived.Deep.RegionHeld3
namespace Go.Proofs.YtdghbbnddgngoaaDoor
open Go.RowKit
set_option linter.unusedSimpArgs false
set_option linter.unusedVariables false

theorem arcV_one (y : ArcT) : ∀ u ∈ arcV y, u.oneCell' = true := by
  intro u hu
  simp [arcV] at hu
  rcases hu with rfl | rfl | rfl <;> rfl
theorem append_arc (w0 : World) {ops : Array Oper} {rest : List Oper} {o : Oper} {a : Act} {Q : Exit → Act → World → Prop} (hgd : o.guard = none) (s x : Operand)
    (ho : o.op = .call { callee := .builtin .append, args := #[s, x], argTypes := #[88, 88] }) (B : Nat) (v : Value) (xs : List ArcT) (hs : a.eval s = v) (h : Arcs w0 B v xs) (y : ArcT)
    (hx : a.eval x = .slice (some ⟨w0.heap.size, 0, none⟩) 1 1) (hlen : xs.length ≤ 1000000) (hB : B ≤ w0.heap.size)
    (hK : ∀ v' w', Arcs w' B v' (xs ++ [y]) → w0.grownBy w' v.ownBlock → (v'.ownBlock = v.ownBlock ∨ v'.ownBlock = some (w0.heap.size + 1)) → wpList Tryd.prog ops Q rest (a.put o.dst v') w') :
    wpList Tryd.prog ops Q (o :: rest) a (w0.alloc (.cells #[.int .i64 y.1, .int .i64 y.2.1, .int .i64 y.2.2] 91)) := by
  obtain ⟨i0, hi, hz0, hz1, hz2⟩ := info_parts Tryd.infoArc
  refine wpList_append_own_at (w0.alloc (.cells (arcV y).toArray 91)) hgd s x 88 ho B 91 i0 (.agg #[.int .i64 0, .int .i64 0, .int .i64 0]) 3 24 Tryd.underlying88 hi hz0 hz1 hz2 rfl (by decide) v xs.length _ hs (World.ownsRow.alloc h _)
    ⟨w0.heap.size, 0, none⟩ 1 1 (arcV y) hx rfl ?_ (arcV_one y) (by unfold maxLen; omega) (by omega) (by simp; omega) ?_
  · intro j u hj
    match j, hj with
    | 0, hj => simp [arcV] at hj; subst hj; simp [Addr.add, arcV]
    | 1, hj => simp [arcV] at hj; subst hj; simp [Addr.add, arcV]
    | 2, hj => simp [arcV] at hj; subst hj; simp [Addr.add, arcV]
    | j + 3, hj => simp [arcV] at hj
  · intro v' w' h1 h2 _ h3
    refine hK v' w' ?_ ⟨h2.os, h2.tape, h2.output, by have := h2.size; simp at this; omega, fun k hk hne => ?_⟩ (by simpa using h3)
    · unfold Arcs OwnK
      simpa using h1
    · rw [h2.block k (by simp; omega) hne]
      exact Below.heap_alloc _ _ _ hk

theorem step_append_arc (w : World) {ops : Array Oper} {o : Oper} {a : Act} {K : Act → World → Prop} {Q : Exit → Act → World → Prop} {E : Prop} (hgd : o.guard = none) (s x : Operand)
    (ho : o.op = .call { callee := .builtin .append, args := #[s, x], argTypes := #[88, 88] }) (B : Nat) (v : Value) (xs : List ArcT) (hs : a.eval s = v) (h : Arcs w B v xs) (G cx : Nat) (y : ArcT)
    (hx : a.eval x = .slice (some ⟨G, 0, none⟩) 1 cx) (hcell : ThreeA w G 0 y) (hlen : xs.length ≤ 1000000) (hB : B ≤ w.heap.size)
    (hK : ∀ g cap l w', Arcs w' B (.slice (some ⟨g, 0, none⟩) l cap) (xs ++ [y]) → w.grownBy w' v.ownBlock → (v.ownBlock = some g ∨ g = w.heap.size) → K (a.put o.dst (.slice (some ⟨g, 0, none⟩) l cap)) w') :
    if Region.wanted o (yielded ops a.tmps) = true then Oper.wp Tryd.prog o a w K Q else E := by
  obtain ⟨i0, hi, hz0, hz1, hz2⟩ := info_parts Tryd.infoArc
  refine step_append_lies w hgd s x 88 ho B 91 i0 (.agg #[.int .i64 0, .int .i64 0, .int .i64 0]) 3 24 Tryd.underlying88 hi hz0 hz1 hz2 rfl (by decide) v xs.length _ hs h ⟨G, 0, none⟩ 1 cx (arcV y) hx (by simp [arcV]) ?_ (arcV_one y) (by omega) (by unfold maxLen; omega) (by omega) hB w.heap.size rfl ?_
  · intro j u hj
    obtain ⟨c0, c1, c2⟩ := hcell
    match j, hj with
    | 0, hj => simp [arcV] at hj; subst hj; simpa [Addr.add] using c0
    | 1, hj => simp [arcV] at hj; subst hj; simpa [Addr.add] using c1
    | 2, hj => simp [arcV] at hj; subst hj; simpa [Addr.add] using c2
    | j + 3, hj => simp [arcV] at hj
  · intro g cap w' h1 h2 h3 _
    refine hK g cap (xs.length + 1) w' ?_ h2 h3
    unfold Arcs OwnK
    simpa using h1

/-- a list that grows: its block is the old one or one made since -/
def Since (N : Nat) (v0 v : Value) : Prop := v.ownBlock = v0.ownBlock ∨ ∀ g, v.ownBlock = some g → N ≤ g
theorem Since.refl (N : Nat) (v : Value) : Since N v v := .inl rfl
theorem grown_step {w wa wb : World} {N : Nat} {v0 v : Value} (hN : w.heap.size = N) (h : w.grownBy wa v0.ownBlock) (hv : Since N v0 v) (h2 : wa.grownBy wb v.ownBlock) : w.grownBy wb v0.ownBlock := by
  refine ⟨h2.os.trans h.os, h2.tape.trans h.tape, h2.output.trans h.output, Nat.le_trans h.size h2.size, fun k hk hne => ?_⟩
  rw [h2.block k (by have := h.size; omega) (fun e => ?_), h.block k hk hne]
  rcases hv with hv | hv
  · exact hne (e.trans hv)
  · have := hv k e.symm; omega
theorem Since.step {wa : World} {N : Nat} {v0 v v' : Value} (hN : N ≤ wa.heap.size) (hv : Since N v0 v) (he : v'.ownBlock = v.ownBlock ∨ ∀ g, v'.ownBlock = some g → wa.heap.size ≤ g) : Since N v0 v' := by
  rcases he with he | he
  · rcases hv with hv | hv
    · exact .inl (he.trans hv)
    · exact .inr fun g hg => hv g (he ▸ hg)
  · exact .inr fun g hg => Nat.le_trans hN (he g hg)
theorem grown_below {w wa wb : World} {r : Option Nat} (h : w.grownBy wa r) (hb : Below wa.heap.size wa wb) : w.grownBy wb r :=
  ⟨hb.os.trans h.os, hb.tape.trans h.tape, hb.output.trans h.output, Nat.le_trans h.size hb.size, fun k hk hne => by rw [hb.block k (by have := h.size; omega), h.block k hk hne]⟩
theorem grown_cell {w wa : World} {r : Option Nat} {p : Addr} {x : Value} (h : w.grownBy wa r) (hc : w.cell? p = some x) (hne : some p.block ≠ r) : wa.cell? p = some x := by
  have hlt := cell_block hc
  simp only [World.cell?] at hc ⊢
  rw [h.block p.block hlt hne]
  exact hc

set_option maxRecDepth 10000 in
set_option maxHeartbeats 4000000 in
theorem l09Arcs_any (v : Value) (B p h : Nat) (w : World) (hI : Ints w B v (mskI p (2 ^ h))) (h1 : 1 ≤ h) (hh : h ≤ 10) :
    Calls Tryd.prog 59 #[v, .int .i64 h] w fun e w' => ∃ u, e = .returned u ∧ Arcs w' w.heap.size u (arcG h p) ∧ Below w.heap.size w w' := by
  have hn10 := cntG_le h p hh
  obtain ⟨n, hn⟩ : ∃ n, cntG h p = n := ⟨_, rfl⟩
  have hl : (mskI p (2 ^ h)).length = n := by rw [mskI_len]; exact hn
  have HFN := Lib.hid (fun (m : Nat) (W : World) (hW : Below w.heap.size w W) (hm : m < 2 ^ h) (hp : popN m = p) => l09Find_any v B p (2 ^ h) m W (hI.below hW) hm hp (pow_lt_1024 hh))
  have HMK := Lib.hid (fun i (hi : i < n) => show ∃ g cap, v = .slice (some ⟨g, 0, none⟩) n cap ∧ g < w.heap.size ∧ w.cell? ⟨g, i, none⟩ = some (.int .i64 (mskG h p i : Nat)) from by
    obtain ⟨g, cap, e, _, e2, _⟩ := Ints.shape2 hI (by omega)
    rw [hl] at e
    have hc := hI
    rw [e] at hc
    have := hc.cell i (by omega)
    rw [mskI_at (by rw [← mskI_len]; omega)] at this
    exact ⟨g, cap, e, e2, this⟩)
  obtain ⟨va, vc, rfl⟩ := ints_slO hI
  rw [hl] at HMK HFN ⊢
  clear hI
  have HT := Lib.hid (fun (i : Nat) (W : World) (hi : i < n) => l08Throws_any h (mskG h p i) W hh (mskG_at (h := h) (p := p) (i := i) (by omega)).1)
  have HA := Lib.hid (fun i (hi : i < n) => arcTo_step (h := h) (p := p) (k := i) (by omega))
  have HAL := Lib.hid (fun i => arcTo_len h p i)
  have HEND := Lib.hid (show arcTo h p n = arcG h p from by rw [← hn]; exact arcTo_all h p)
  have HNX := Lib.hid (fun (i : Nat) (hi : i < n) (k : Nat) (hk : k < (thrN h (mskG h p i)).length) => show (thrN h (mskG h p i)).getD k 0 ≤ h ∧ nextM (mskG h p i) ((thrN h (mskG h p i)).getD k 0) < 2 ^ h ∧ popN (nextM (mskG h p i) ((thrN h (mskG h p i)).getD k 0)) = p from by
    have hm : (thrN h (mskG h p i)).getD k 0 ∈ thrN h (mskG h p i) := by
      have : (thrN h (mskG h p i)).getD k 0 = (thrN h (mskG h p i))[k] := by simp [hk]
      rw [this]; exact List.getElem_mem hk
    obtain ⟨a, b⟩ := next_in h1 hh (by omega) hm
    exact ⟨(thrN_mem hm).1, a, b⟩)
  have HMM := Lib.hid (fun i (hi : i < n) => (mskG_at (h := h) (p := p) (i := i) (by omega)).1)
  have O0 : Arcs (w.alloc (.cells #[] 91)) w.heap.size (.slice (some ⟨w.heap.size, 0, none⟩) 0 0) (arcTo h p 0) := OwnK.empty _ _ _ _ (Nat.le_refl _)
  have B0 : Below w.heap.size w (w.alloc (.cells #[] 91)) := (Below.refl _ w).alloc (Nat.le_refl _) _
  have hn11 : n ≤ 1024 := by omega
  clear hn hl hn10
  go_enter Tryd.func59, Tryd.ntmps59
  go_wp2
  go_loopw [5, 6] (fun o i wr => ∃ k : Nat, k ≤ n ∧ i = .int .i64 k ∧ Arcs wr w.heap.size o (arcTo h p k) ∧ Below w.heap.size w wr) (fun _ i _ => n - (intOf i).toNat)
  case atStart => exact ⟨0, Nat.zero_le _, rfl, O0, B0⟩
  case round =>
    clear O0 B0
    rename_i wq
    obtain ⟨i, hi, rfl, hO, hb⟩ := hrel
    by_cases hlt : i < n
    · have hlt' : decide (i < n) = true := decide_eq_true hlt
      obtain ⟨mg, mc, hv, hgl, hmc⟩ := HMK.out i hlt
      cases hv
      obtain ⟨m, hm⟩ : ∃ m, mskG h p i = m := ⟨_, rfl⟩
      have HT1 := Lib.hid (fun W => HT.out i W hlt)
      have HA1 := Lib.hid (HA.out i hlt)
      have HNX1 := Lib.hid (HNX.out i hlt)
      have HM1 := Lib.hid (HMM.out i hlt)
      rw [hm] at hmc HT1 HA1 HNX1 HM1
      have hcm := (hb.cell (p := ⟨mg, i, none⟩) hgl).trans hmc
      have hAl := HAL.out i
      have hrl : (rowG h i m).length = (thrN h m).length := rowG_len h i m
      have hthl := thrN_len h m
      clear HT HA HNX HMM HMK hm
      have hL0 : (thrN h m).length ≠ 0 := thrN_some h (by omega) m HM1.out
      obtain ⟨oV, hoV⟩ : ∃ x, x = u5 := ⟨_, rfl⟩
      subst hoV
      obtain ⟨wz, hwz⟩ : ∃ x, x = wr := ⟨_, rfl⟩
      subst hwz
      have hOu := hO.under
      go_wp2_with fail
      refine (HT1.out _).mono ?_
      rintro e w1 ⟨lv, rfl, hL, bL⟩
      clear HT1
      have hS1 : Blk w1 wz.heap.size [.int .i64 h, .int .i64 m] 35 := Blk.below (Blk.made wz #[.int .i64 h, .int .i64 m] 35) bL (by simp)
      have hO1 : Arcs w1 w.heap.size oV (arcTo h p i) := OwnK.below (hO.alloc _) bL
      have bzl := ((Below.refl wz.heap.size wz).alloc (Nat.le_refl _) (.cells #[.int .i64 h, .int .i64 m] 35)).trans (bL.mono (by simp))
      have hb1 := hb.trans (bzl.mono hb.size)
      have hN1 := bL.size
      simp only [World.size_alloc] at hN1 hL
      have hLl : (throwsL h m).length = (thrN h m).length := by rw [thrN_throws]; simp
      obtain ⟨lb, lc, hlv, hlb1, hlb2, _⟩ := Ints.shape2 hL (by omega)
      subst hlv
      have hLc : ∀ k, k < (thrN h m).length → w1.cell? ⟨lb, k, none⟩ = some (.int .i64 ((thrN h m).getD k 0 : Nat)) := fun k hk => by
        rw [hL.cell k (by omega), thrN_throws]
        simp [hk]
      have hnl0 : some lb ≠ oV.ownBlock := fun e => by have := hOu lb e.symm; omega
      have hns0 : some wz.heap.size ≠ oV.ownBlock := fun e => by have := hOu _ e.symm; omega
      have HC := Lib.hid (fun wx (hg : w1.grownBy wx oV.ownBlock) => show wx.cell? ⟨wz.heap.size, 0, none⟩ = some (.int .i64 h) ∧ wx.cell? ⟨wz.heap.size, 1, none⟩ = some (.int .i64 m) ∧ ∀ k, k < (thrN h m).length → wx.cell? ⟨lb, k, none⟩ = some (.int .i64 ((thrN h m).getD k 0 : Nat)) from
        ⟨grown_cell hg (hS1.cell 0) hns0, grown_cell hg (hS1.cell 1) hns0, fun k hk => grown_cell hg (hLc k hk) hnl0⟩)
      have HTK := Lib.hid (fun k (hk : k < (thrN h m).length) => rowG_take (h := h) (i := i) (m := m) hk)
      have HTA := Lib.hid (show (rowG h i m).take (thrN h m).length = rowG h i m from by rw [List.take_of_length_le (by omega)])
      have O1 : Arcs w1 w.heap.size oV (arcTo h p i ++ (rowG h i m).take 0) := by simpa using hO1
      have G1 := World.grownBy.refl w1 oV.ownBlock
      rw [hLl]
      clear hLc hL hS1 hO1 hLl bL hcm hmc hO hb bzl HAL hgl
      generalize hLn : (thrN h m).length = L at *
      clear hLn
      go_wp2
      go_loopw [5, 9] (fun o k wr => ∃ k' : Nat, k' ≤ L ∧ k = .int .i64 k' ∧ Arcs wr w.heap.size o (arcTo h p i ++ (rowG h i m).take k') ∧ w1.grownBy wr oV.ownBlock ∧ Hid (Since w1.heap.size oV o) ∧ Below w.heap.size w wr) (fun _ k _ => L - (intOf k).toNat)
      case atStart => exact ⟨0, Nat.zero_le _, rfl, O1, G1, Lib.hid (Since.refl _ _), hb1⟩
      case round =>
        clear O1 G1 hb1
        obtain ⟨k, hk, rfl, hO, hG, hSi, hb⟩ := hrel
        by_cases hkl : k < L
        · have hkl' : decide (k < L) = true := decide_eq_true hkl
          obtain ⟨s0, s1, hls⟩ := HC.out wr hG
          have cl := hls k hkl
          obtain ⟨x1, x2, x3⟩ := HNX1.out k hkl
          have HTK1 := Lib.hid (HTK.out k hkl)
          unfold arcOf at HTK1
          have hbz := hb.size
          have hGz := hG.size
          have hOu := hO.under
          have hM := HM1.out
          have HX2 := Lib.hid x2
          have HX3 := Lib.hid x3
          have HKE := Lib.hid (fun W (hW : Below wr.heap.size wr W) => show W.cell? ⟨wz.heap.size, 0, none⟩ = some (.int .i64 h) ∧ W.cell? ⟨wz.heap.size, 1, none⟩ = some (.int .i64 m) ∧ W.cell? ⟨lb, k, none⟩ = some (.int .i64 ((thrN h m).getD k 0 : Nat)) from
            ⟨(hW.cell (p := ⟨_, _, none⟩) (cell_block s0)).trans s0, (hW.cell (p := ⟨_, _, none⟩) (cell_block s1)).trans s1, (hW.cell (p := ⟨_, _, none⟩) (cell_block cl)).trans cl⟩)
          have HN := Lib.hid (fun W (hW : Below wr.heap.size wr W) => show Calls Tryd.prog 83 #[.agg #[.int .i64 h, .int .i64 m], .int .i64 ((thrN h m).getD k 0 : Nat)] W fun e w' => e = .returned (.agg #[.int .i64 h, .int .i64 (nextM m ((thrN h m).getD k 0) : Nat)]) ∧ Below wr.heap.size wr w' from
            (l08Next_any h m _ W hh hM x1).mono fun e w' ⟨h1, h2⟩ => ⟨h1, hW.trans (h2.mono hW.size)⟩)
          have HNA := Lib.hid (fun W (hW : Below wr.heap.size wr W) (hB : Blk W wr.heap.size [.int .i64 0, .int .i64 0] 35) => show Calls Tryd.prog 83 #[.agg #[.int .i64 h, .int .i64 m], .int .i64 ((thrN h m).getD k 0 : Nat)] W fun e w' => e = .returned (.agg #[.int .i64 h, .int .i64 (nextM m ((thrN h m).getD k 0) : Nat)]) ∧ Below wr.heap.size wr w' ∧ (w'.cell? ⟨wr.heap.size, 0, none⟩ = some (.int .i64 0) ∧ w'.cell? ⟨wr.heap.size, 1, none⟩ = some (.int .i64 0) ∧ w'.frozen? ⟨wr.heap.size, 0, none⟩ = false ∧ w'.frozen? ⟨wr.heap.size, 1, none⟩ = false) from
            (l08Next_any h m _ W hh hM x1).mono fun e w' ⟨h1, h2⟩ => by
              have hB2 := hB.below h2 hB.lt
              exact ⟨h1, hW.trans (h2.mono hW.size), hB2.cell 0, hB2.cell 1, hB2.free 0, hB2.free 1⟩)
          clear HC HTK HTA HNX1 hls x1 x2 x3 hM HM1 HA1 HEND
          generalize nextM m ((thrN h m).getD k 0) = q at *
          generalize (thrN h m).getD k 0 = t at *
          generalize hj : idxN q = j at *
          go_upto_region 10 with fail
          go_cut [10] (fun pn wx => ∃ nb : Nat, pn = .pointer (some ⟨nb, 0, none⟩) ∧ wr.heap.size ≤ nb ∧ StTwo wx nb (.int .i64 h) (.int .i64 q) ∧ Below wr.heap.size wr wx)
          case first =>
            go_region_held3 (fun W => Below wr.heap.size wr W ∧ W.cell? ⟨wz.heap.size, 0, none⟩ = some (.int .i64 h) ∧ W.cell? ⟨wz.heap.size, 1, none⟩ = some (.int .i64 m) ∧ W.cell? ⟨lb, k, none⟩ = some (.int .i64 t)) (refine ⟨?_, HKE.out _ ?_⟩ <;> (repeat (first | assumption | exact Below.refl _ _ | refine Below.drew ?_ | refine below_drewN ?_ _ | refine bel_alGp ?_ _ | refine Below.setCell ?_ (by simp) _))) (first | (go_at_call 83; (with_reducible refine (HNA.out _ ?_ ?hB).mono ?_); (case hB => exact Blk.made _ _ _); (repeat (first | assumption | exact Below.refl _ _ | refine Below.drew ?_ | refine below_drewN ?_ _ | refine bel_alGp ?_ _)); rintro e w2 ⟨rfl, b2, e0, e1, f0, f1⟩) | (go_at_call 83; (with_reducible refine (HN.out _ ?_).mono ?_); (repeat (first | assumption | exact Below.refl _ _ | refine Below.drew ?_ | refine below_drewN ?_ _)); rintro e w2 ⟨rfl, b2⟩))
            all_goals (go_wp2_with fail; go_meet)
            · exact ⟨_, rfl, b2.size, StTwo.made _ _ _ _, bel_alGp b2 _⟩
            · exact ⟨_, rfl, Nat.le_refl _, stc_set _ _ e0 e1, two_below b2 (Nat.le_refl _) _ _⟩
          case rest =>
            obtain ⟨nb, rfl, hnb, NX, hbx⟩ := hcut
            rename World => wx
            clear HN HNA
            have c0 := (HKE.out wx hbx).2.2
            have c1 := NX.2
            have hbw := hb.trans (hbx.mono hb.size)
            have HFND := Lib.hid (fun W (hW : Below wx.heap.size wx W) => by have := HFN.out q W (hbw.trans (hW.mono hbw.size)) HX2.out HX3.out; rw [hj] at this; exact this)
            have hOx : Arcs wx w.heap.size u5 (arcTo h p i ++ (rowG h i m).take k) := hO.below hbx
            have HO2 := Lib.hid (show Arcs (wx.drew.alloc (.cells #[.int .i64 i, .int .i64 t, .int .i64 j] 91)) w.heap.size u5 (arcTo h p i ++ (rowG h i m).take k) from OwnK.alloc (w := wx.drew) hOx _)
            have HNW := Lib.hid (show ThreeA (wx.drew.alloc (.cells #[.int .i64 i, .int .i64 t, .int .i64 j] 91)) wx.heap.size 0 ((i : Int), (t : Int), (j : Int)) from ⟨(Blk.made wx.drew #[.int .i64 i, .int .i64 t, .int .i64 j] 91).cell 0, (Blk.made wx.drew #[.int .i64 i, .int .i64 t, .int .i64 j] 91).cell 1, (Blk.made wx.drew #[.int .i64 i, .int .i64 t, .int .i64 j] 91).cell 2⟩)
            have HAL := Lib.hid (fun (pq : Addr) (y : Value) (hc : wx.cell? pq = some y) => show (wx.drew.alloc (.cells #[.int .i64 i, .int .i64 t, .int .i64 j] 91)).cell? pq = some y from (((Below.refl wx.drew.heap.size wx.drew).alloc (Nat.le_refl _) (.cells #[.int .i64 i, .int .i64 t, .int .i64 j] 91)).cell (cell_block hc)).trans hc)
            have hlenO : (arcTo h p i ++ (rowG h i m).take k).length ≤ 1000000 := by
              have h3 : i * (h + 1) ≤ 1024 * 11 := Nat.mul_le_mul (by omega) (by omega)
              have h4 : ((rowG h i m).take k).length ≤ k := by simp; omega
              rw [List.length_append]; omega
            have hszO : w.heap.size ≤ (wx.drew.alloc (.cells #[.int .i64 i, .int .i64 t, .int .i64 j] 91)).heap.size := by have := hbw.size; simp; omega
            have HGR := Lib.hid (fun w4 (gr : (wx.drew.alloc (.cells #[.int .i64 i, .int .i64 t, .int .i64 j] 91)).grownBy w4 u5.ownBlock) (pq : Addr) (y : Value) (hc : (wx.drew.alloc (.cells #[.int .i64 i, .int .i64 t, .int .i64 j] 91)).cell? pq = some y) (hne : some pq.block ≠ u5.ownBlock) => grown_cell gr hc hne)
            have hnl : some lb ≠ u5.ownBlock := fun e => by
              rcases hSi.out with h9 | h9
              · exact hnl0 (e.trans h9)
              · have := h9 lb e.symm; omega
            have hnn : some nb ≠ u5.ownBlock := fun e => by have := hOu nb e.symm; omega
            have hbO := (Below.drew hbx).alloc (show wr.heap.size ≤ wx.drew.heap.size from hbx.size) (.cells #[.int .i64 i, .int .i64 t, .int .i64 j] 91)
            have HGO := Lib.hid (grown_below hG hbO)
            have HBO := Lib.hid (hb.trans (hbO.mono hb.size))
            clear hbO hOx
            go_upto_region 11 with fail
            refine wp_region_held_drew (S := (fun W' => W'.cell? ⟨lb, k, none⟩ = some (.int .i64 t) ∧ W'.cell? ⟨nb, 1, none⟩ = some (.int .i64 q))) (by kernel_rfl) ?_ (fun hHeld => ?_)
            · (try dsimp only); exact ⟨c0, c1⟩
            refine wpAnyH_take (i := 0) (oi := { dst := some 38, op := Go.Op.move (Go.Operand.tmp 5), type := 88, pos := "l09_graphs.go:87", after := #[], guard := none }) (v := ?_) rfl (by kernel_rfl) (by kernel_rfl) (by kernel_rfl) (fun _ _ _ h => h) (Or.inl ⟨by rfl, ?_⟩) (by assumption) ?_
            rotate_left
            · (intro w hSw; (try dsimp only at hSw); go_simp); (try with_reducible rfl)
            try simp only [Act.put, List.setIfInBounds_toArray, List.set_cons_zero, List.set_cons_succ]
            refine wpAnyH_take (i := 1) (oi := { dst := some 39, op := Go.Op.move (Go.Operand.tmp 6), type := 3, pos := "l09_graphs.go:87", after := #[], guard := none }) (v := ?_) rfl (by kernel_rfl) (by kernel_rfl) (by kernel_rfl) (fun _ _ _ h => h) (Or.inl ⟨by rfl, ?_⟩) (by assumption) ?_
            rotate_left
            · (intro w hSw; (try dsimp only at hSw); go_simp); (try with_reducible rfl)
            try simp only [Act.put, List.setIfInBounds_toArray, List.set_cons_zero, List.set_cons_succ]
            refine wpAnyH_take (i := 2) (oi := { dst := some 40, op := Go.Op.move (Go.Operand.tmp 8), type := 24, pos := "l09_graphs.go:87", after := #[], guard := none }) (v := ?_) rfl (by kernel_rfl) (by kernel_rfl) (by kernel_rfl) (fun _ _ _ h => h) (Or.inl ⟨by rfl, ?_⟩) (by assumption) ?_
            rotate_left
            · (intro w hSw; (try dsimp only at hSw); go_simp); (try with_reducible rfl)
            try simp only [Act.put, List.setIfInBounds_toArray, List.set_cons_zero, List.set_cons_succ]
            refine wpAnyH_take (i := 3) (oi := { dst := some 41, op := Go.Op.move (Go.Operand.tmp 9), type := 3, pos := "l09_graphs.go:87", after := #[], guard := none }) (v := ?_) rfl (by kernel_rfl) (by kernel_rfl) (by kernel_rfl) (fun _ _ _ h => h) (Or.inl ⟨by rfl, ?_⟩) (by assumption) ?_
            rotate_left
            · (intro w hSw; (try dsimp only at hSw); go_simp); (try with_reducible rfl)
            try simp only [Act.put, List.setIfInBounds_toArray, List.set_cons_zero, List.set_cons_succ]
            refine wpAnyH_take (i := 4) (oi := { dst := some 42, op := Go.Op.indexAddr 24 (Go.Operand.tmp 40) (Go.Operand.tmp 41), type := 0, pos := "l09_graphs.go:87", after := #[{ on := 2, ground := Go.Ground.data }, { on := 3, ground := Go.Ground.data }], guard := none }) (v := ?_) rfl (by kernel_rfl) (by kernel_rfl) (by kernel_rfl) (fun _ _ _ h => h) (Or.inl ⟨by rfl, ?_⟩) (by assumption) ?_
            rotate_left
            · (intro w hSw; (try dsimp only at hSw); go_simp); (try with_reducible rfl)
            try simp only [Act.put, List.setIfInBounds_toArray, List.set_cons_zero, List.set_cons_succ]
            refine wpAnyH_take (i := 5) (oi := { dst := some 43, op := Go.Op.load 2 (Go.Operand.tmp 42), type := 2, pos := "l09_graphs.go:87", after := #[{ on := 4, ground := Go.Ground.data }], guard := none }) (v := ?_) rfl (by kernel_rfl) (by kernel_rfl) (by kernel_rfl) (fun _ _ _ h => h) (Or.inl ⟨by rfl, ?_⟩) (by assumption) ?_
            rotate_left
            · (intro w hSw; (try dsimp only at hSw); go_simp); (try with_reducible rfl)
            try simp only [Act.put, List.setIfInBounds_toArray, List.set_cons_zero, List.set_cons_succ]
            refine wpAnyH_take (i := 6) (oi := { dst := some 44, op := Go.Op.move (Go.Operand.tmp 0), type := 24, pos := "l09_graphs.go:87", after := #[], guard := none }) (v := ?_) rfl (by kernel_rfl) (by kernel_rfl) (by kernel_rfl) (fun _ _ _ h => h) (Or.inl ⟨by rfl, ?_⟩) (by assumption) ?_
            rotate_left
            · (intro w hSw; (try dsimp only at hSw); go_simp); (try with_reducible rfl)
            try simp only [Act.put, List.setIfInBounds_toArray, List.set_cons_zero, List.set_cons_succ]
            refine wpAnyH_take (i := 7) (oi := { dst := some 45, op := Go.Op.fieldAddr 35 (Go.Operand.tmp 10) 1, type := 0, pos := "l09_graphs.go:87", after := #[], guard := none }) (v := ?_) rfl (by kernel_rfl) (by kernel_rfl) (by kernel_rfl) (fun _ _ _ h => h) (Or.inl ⟨by rfl, ?_⟩) (by assumption) ?_
            rotate_left
            · (intro w hSw; (try dsimp only at hSw); go_simp); (try with_reducible rfl)
            try simp only [Act.put, List.setIfInBounds_toArray, List.set_cons_zero, List.set_cons_succ]
            refine wpAnyH_take (i := 8) (oi := { dst := some 46, op := Go.Op.load 2 (Go.Operand.tmp 45), type := 2, pos := "l09_graphs.go:87", after := #[{ on := 7, ground := Go.Ground.data }], guard := none }) (v := ?_) rfl (by kernel_rfl) (by kernel_rfl) (by kernel_rfl) (fun _ _ _ h => h) (Or.inl ⟨by rfl, ?_⟩) (by assumption) ?_
            rotate_left
            · (intro w hSw; (try dsimp only at hSw); go_simp); (try with_reducible rfl)
            try simp only [Act.put, List.setIfInBounds_toArray, List.set_cons_zero, List.set_cons_succ]
            refine wpAnyH_ready (rs := [9]) (by kernel_rfl) (by simp) ?_
            refine AllReadyH.cons (o := { dst := some 47, op := Go.Op.call { callee := Go.Callee.value (Go.Operand.func 33), args := #[Go.Operand.tmp 44, Go.Operand.tmp 46], argTypes := #[24, 2] }, type := 2, pos := "l09_graphs.go:87", after := #[{ on := 6, ground := Go.Ground.data }, { on := 8, ground := Go.Ground.data }], guard := none }) rfl (fun K hK => ?_) AllReadyH.nil
            go_simp
            (go_at_call 33; (with_reducible refine (HFND.out _ ?_).mono ?_); (exact Below.drew (Below.refl _ _)); rintro e w2 ⟨rfl, rfl⟩)
            refine hK.out _ _ ?_ (fun hHeld2 => ?_)
            · (try dsimp only); exact ⟨c0, c1⟩
            clear hK K hHeld
            have hHeld := hHeld2
            clear hHeld2
            try simp only [Act.put, List.setIfInBounds_toArray, List.set_cons_zero, List.set_cons_succ]
            refine wpAnyH_take (i := 10) (oi := { dst := some 48, op := Go.Op.build 91 #[(0, Go.Operand.tmp 39), (1, Go.Operand.tmp 43), (2, Go.Operand.tmp 47)], type := 91, pos := "l09_graphs.go:87", after := #[{ on := 1, ground := Go.Ground.data }, { on := 5, ground := Go.Ground.data }, { on := 9, ground := Go.Ground.data }], guard := none }) (v := ?_) rfl (by kernel_rfl) (by kernel_rfl) (by kernel_rfl) (fun _ _ _ h => h) (Or.inl ⟨by rfl, ?_⟩) (by assumption) ?_
            rotate_left
            · (intro w hSw; (try dsimp only at hSw); go_simp); (try with_reducible rfl)
            try simp only [Act.put, List.setIfInBounds_toArray, List.set_cons_zero, List.set_cons_succ]
            refine wpAnyH_ready (rs := [11]) (by kernel_rfl) (by simp) ?_
            refine AllReadyH.cons (o := { dst := some 49, op := Go.Op.buildSlice 88 1 #[(0, Go.Operand.tmp 48)], type := 88, pos := "l09_graphs.go:87", after := #[{ on := 10, ground := Go.Ground.data }], guard := none }) rfl (fun K hK => ?_) AllReadyH.nil
            go_simp
            refine hK.out _ _ ?_ (fun hHeld2 => ?_)
            · (try dsimp only); exact ⟨HAL.out _ _ c0, HAL.out _ _ c1⟩
            clear hK K hHeld
            have hHeld := hHeld2
            clear hHeld2
            try simp only [Act.put, List.setIfInBounds_toArray, List.set_cons_zero, List.set_cons_succ]
            refine wpAnyH_ready (rs := [12]) (by kernel_rfl) (by simp) ?_
            refine AllReadyH.cons (o := { dst := some 50, op := Go.Op.call { callee := Go.Callee.builtin Go.Builtin.append, args := #[Go.Operand.tmp 38, Go.Operand.tmp 49], argTypes := #[88, 88] }, type := 88, pos := "l09_graphs.go:87", after := #[{ on := 0, ground := Go.Ground.data }, { on := 11, ground := Go.Ground.data }, { on := 9, ground := Go.Ground.chain }], guard := none }) rfl (fun K hK => ?_) AllReadyH.nil
            (refine step_append_arc _ (by rfl) _ _ (by rfl) w.heap.size _ _ (by rfl) HO2.out wx.heap.size 1 ((i : Int), t, (j : Int)) (by rfl) HNW.out hlenO hszO ?_; intro g4 c4 l4 w4 i4 gr4 ho4)
            refine hK.out _ _ ?_ (fun hHeld2 => ?_)
            · (try dsimp only); exact ⟨HGR.out _ gr4 _ _ (HAL.out _ _ c0) hnl, HGR.out _ gr4 _ _ (HAL.out _ _ c1) hnn⟩
            clear hK K hHeld
            have hHeld := hHeld2
            clear hHeld2
            try simp only [Act.put, List.setIfInBounds_toArray, List.set_cons_zero, List.set_cons_succ]
            refine wpAnyH_take (i := 13) (oi := { dst := some 5, op := Go.Op.assign (Go.Operand.tmp 50), type := 88, pos := "l09_graphs.go:87", after := #[{ on := 12, ground := Go.Ground.data }, { on := 12, ground := Go.Ground.chain }, { on := 0, ground := Go.Ground.phase }, { on := 1, ground := Go.Ground.phase }, { on := 2, ground := Go.Ground.phase }, { on := 3, ground := Go.Ground.phase }, { on := 4, ground := Go.Ground.phase }, { on := 5, ground := Go.Ground.phase }, { on := 6, ground := Go.Ground.phase }, { on := 7, ground := Go.Ground.phase }, { on := 8, ground := Go.Ground.phase }, { on := 9, ground := Go.Ground.phase }, { on := 10, ground := Go.Ground.phase }, { on := 11, ground := Go.Ground.phase }, { on := 12, ground := Go.Ground.phase }], guard := none }) (v := ?_) rfl (by kernel_rfl) (by kernel_rfl) (by kernel_rfl) (fun _ _ _ h => h) (Or.inl ⟨by rfl, ?_⟩) (by assumption) ?_
            rotate_left
            · (intro w hSw; (try dsimp only at hSw); go_simp); (try with_reducible rfl)
            try simp only [Act.put, List.setIfInBounds_toArray, List.set_cons_zero, List.set_cons_succ]
            refine wpAnyH_done (by kernel_rfl) ?_ _
            go_wp2
            go_roundw
            case rel => exact ⟨k + 1, by omega, by go_num, by rw [HTK1.out, ← List.append_assoc]; exact i4, grown_step rfl HGO.out hSi.out gr4, Lib.hid (Since.step (wa := wx.drew.alloc (.cells #[.int .i64 i, .int .i64 t, .int .i64 j] 91)) HGO.out.size hSi.out (ho4.imp (fun e => e.symm) (fun e g hg => by have h9 : g4 = g := Option.some.inj hg; rw [← h9, e]; exact Nat.le_refl _))), HBO.out.grown gr4 hszO (by intro q hq; exact HO2.out.own_ge hq)⟩
            case measure => simp [intOf]; omega
        · obtain rfl : k = L := by omega
          rw [HTA.out, ← HA1.out] at hO
          clear HC HTK HTA HNX1 HA1 HM1 hSi hG
          go_wp2
          go_roundw
          case rel => exact ⟨i + 1, by omega, by go_num, hO, hb⟩
          case measure => simp [intOf]; omega
    · obtain rfl : i = n := by omega
      rw [HEND.out] at hO
      clear HT HA HNX HMM HMK HFN HAL HEND
      go_wp2
      go_ret
      exact ⟨_, rfl, hO, hb⟩
end Go.Proofs.YtdghbbnddgngoaaDoor
