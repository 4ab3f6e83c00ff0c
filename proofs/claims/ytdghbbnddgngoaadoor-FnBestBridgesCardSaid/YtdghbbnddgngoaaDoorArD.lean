/- The distances of all states from one, the program's: breadth first over its graph. No conditions. -/
import Derived.Test.YtdghbbnddgngoaaDoorArB
import Derived.Test.YtdghbbnddgngoaaDoorArQ
import Derived.Deep.RegionHeld3
namespace Go.Proofs.YtdghbbnddgngoaaDoor
open Go.RowKit
set_option linter.unusedSimpArgs false
set_option linter.unusedVariables false

def slLen : Value → Nat
  | .slice _ l _ => l
  | _ => 0
/-- how many states are not reached, read off the world -/
def cntW (w : World) (g n : Nat) : Nat := ((List.range n).map fun i => intOf ((w.cell? ⟨g, i, none⟩).getD undef)).count (-1)
theorem cntW_eq {w : World} {B g n cap : Nat} {D : List Int} (h : Ints w B (.slice (some ⟨g, 0, none⟩) n cap) D) (hn : D.length = n) : cntW w g n = D.count (-1) := by
  unfold cntW
  congr 1
  apply List.ext_getElem
  · simp [hn]
  · intro i h1 h2
    have := h.cell i h2
    simp [this, intOf, h2]
/-- the numbers of a queue -/
def qI (l : List Nat) : List Int := l.map fun x : Nat => (x : Int)
theorem qI_len (l : List Nat) : (qI l).length = l.length := by simp [qI]
theorem qI_drop {l : List Nat} {k : Nat} (hk : k < l.length) : qI (l.drop k) = ((l.getD k 0 : Nat) : Int) :: qI (l.drop (k + 1)) := by
  have e : l.getD k 0 = l[k] := by simp [hk]
  rw [List.drop_eq_getElem_cons hk, e]
  rfl
theorem qI_snoc {l : List Nat} {k t : Nat} (hk : k ≤ l.length) : qI ((l ++ [t]).drop k) = qI (l.drop k) ++ [(t : Int)] := by
  rw [List.drop_append_of_le_length hk]
  simp [qI]

set_option maxRecDepth 10000 in
set_option maxHeartbeats 8000000 in
theorem distFrom_any (v : Value) (B p h a : Nat) (w : World) (hG : GraphIs w B v (gphG h p)) (h1 : 1 ≤ h) (hh : h ≤ 10) (ha : a < cntG h p) :
    Calls Tryd.prog 28 #[v, .int .i64 a] w fun e w' => ∃ u, e = .returned u ∧ Ints w' w.heap.size u (distA h p a) ∧ Below w.heap.size w w' := by
  have hn10 := cntG_le h p hh
  have HINV := Lib.hid (fun k => InvQ.run (G := adjN h p) (n := cntG h p) (a := a) (adjN_lt h1 hh) ha k)
  have HALL := Lib.hid (fun k (hk : k < (runQ (adjN h p) (startQ (cntG h p) a) k).2.length) (j : Nat) => show InvQ (cntG h p) (visitsQ ((runQ (adjN h p) (startQ (cntG h p) a) k).2.getD k 0) (runQ (adjN h p) (startQ (cntG h p) a) k) ((adjN h p ((runQ (adjN h p) (startQ (cntG h p) a) k).2.getD k 0)).take j)) ∧ (runQ (adjN h p) (startQ (cntG h p) a) k).2.getD k 0 ∈ (visitsQ ((runQ (adjN h p) (startQ (cntG h p) a) k).2.getD k 0) (runQ (adjN h p) (startQ (cntG h p) a) k) ((adjN h p ((runQ (adjN h p) (startQ (cntG h p) a) k).2.getD k 0)).take j)).2 from by
    have hI := InvQ.run (G := adjN h p) (n := cntG h p) (a := a) (adjN_lt h1 hh) ha k
    have hm := getD_memQ hk
    exact InvQ.all _ (fun t ht => adjN_lt h1 hh _ (hI.mem _ hm).1 t (List.mem_of_mem_take ht)) hI hm)
  have HEND := Lib.hid (fun k (hk : (runQ (adjN h p) (startQ (cntG h p) a) k).2.length = k) => farQ_end (adjN_lt h1 hh) ha hk)
  have HNX := Lib.hid (fun k (hk : k < (runQ (adjN h p) (startQ (cntG h p) a) k).2.length) => runQ_next hk)
  have HLT := Lib.hid (fun i (hi : i < cntG h p) j (hj : j < (adjN h p i).length) => show (adjN h p i).getD j 0 < cntG h p from by
    have : (adjN h p i).getD j 0 = (adjN h p i)[j] := by simp [hj]
    rw [this]; exact adjN_lt h1 hh i hi _ (List.getElem_mem hj))
  have HAL := Lib.hid (fun i => show (adjN h p i).length ≤ 11 from by rw [adjN_len]; have := thrN_len h (mskG h p i); omega)
  obtain ⟨gb, hs, rfl, hsl, hH, hR⟩ := hG
  rw [gphG_len] at hH hsl hR ⊢
  have HROW := Lib.hid (fun i (hi : i < cntG h p) => show ∃ rg rc, ∀ wr, Below w.heap.size w wr → wr.cell? ⟨gb, i, none⟩ = some (.slice (some ⟨rg, 0, none⟩) (adjN h p i).length rc) ∧ ∀ j, j < (adjN h p i).length → ∃ t : Nat, ThreeA wr rg (j * 3) ((i : Int), (t : Int), (((adjN h p i).getD j 0 : Nat) : Int)) from by
    have hA := hR i hi
    rw [gphG_at hi] at hA
    have hl : (rowG h i (mskG h p i)).length = (adjN h p i).length := by rw [rowG_len, adjN_len]
    have h0 := thrN_some h (by omega) _ (mskG_at hi).1
    obtain ⟨g, cap, e, _, hg, _⟩ := hA.shape2 (by rw [rowG_len]; omega)
    rw [e] at hA
    rw [hl] at hA e
    refine ⟨g, cap, fun wr hb => ?_⟩
    have hc := (hH.below hb).cell hd1_len nilV i 0 (by omega) (by decide)
    rw [Nat.mul_one, Nat.add_zero] at hc
    simp only [hd1, List.getElem?_cons_zero] at hc
    rw [e] at hc
    refine ⟨hc, fun j hj => ?_⟩
    obtain ⟨t, ht⟩ := rowG_adj hj a0
    have := (OwnK.below hA hb).threeA j (by omega)
    rw [ht] at this
    exact ⟨t, this⟩)
  have hS0 : startQ (cntG h p) a = runQ (adjN h p) (startQ (cntG h p) a) 0 := rfl
  have HS0 := Lib.hid hS0
  clear hH hR hsl hS0
  unfold distA
  have hD0 : (startQ (cntG h p) a).1 = (List.replicate (cntG h p) (-1)).set a 0 := rfl
  have hQ0 : (startQ (cntG h p) a).2 = [a] := rfl
  generalize startQ (cntG h p) a = s0 at *
  generalize adjN h p = G at *
  generalize hF : farQ G (cntG h p) a = F at *
  generalize hn : cntG h p = n at *
  clear hF hn
  have HRP := repeat_any w.heap.size (-1) n (w.alloc (.cells #[.int .i64 (-1)] 2)) (by omega) (by omega) ((Blk.made w #[.int .i64 (-1)] 2).cell 0)
  go_enter Tryd.func28, Tryd.ntmps28
  go_wp2_with fail
  refine HRP.mono ?_
  rintro e w1 ⟨gd, rfl, iD, b1⟩
  have B1 : Below w.heap.size w w1 := ((Below.refl w.heap.size w).alloc (Nat.le_refl _) (.cells #[.int .i64 (-1)] 2)).trans (b1.mono (by simp))
  have iD1 := iD.mono (B' := w.heap.size) (by simp)
  have cD := iD1.cell a (by simpa using ha)
  have fD := iD1.free a
  have iD2 := iD1.set a 0
  rw [← hD0] at iD2
  have hgd := iD1.own_ge rfl
  have hgd2 := iD1.under gd rfl
  have B2 : Below w.heap.size w (w1.setCell ⟨gd, a, none⟩ (.int .i64 0)) := B1.setCell (p := ⟨gd, a, none⟩) hgd _
  have iQ := Que.start (w1.setCell ⟨gd, a, none⟩ (.int .i64 0)) w.heap.size (a : Int) B2.size
  have hqI : qI (s0.2.drop 0) = [(a : Int)] := by rw [hQ0]; rfl
  rw [← hqI] at iQ
  have iD3 := iD2.alloc (.cells #[.int .i64 a] 2)
  have B3 := B2.alloc B2.size (.cells #[.int .i64 a] 2)
  have hz1 : (w1.setCell ⟨gd, a, none⟩ (.int .i64 0)).heap.size = w1.heap.size := by simp
  rw [hz1] at iQ
  have HNQ := Lib.hid (show (Value.slice (some ⟨w1.heap.size, 0, none⟩) 1 1).ownBlock ≠ some gd from fun e => by simp [Value.ownBlock] at e; omega)
  have h0 : 0 ≤ s0.2.length := Nat.zero_le _
  clear HRP b1 iD iD1 iD2 hqI hz1 B1 B2 hD0 hQ0
  go_wp2
  go_loopw [6] (fun q wr => ∃ (k : Nat) (s : List Int × List Nat), Hid (s = runQ G s0 k) ∧ k ≤ s.2.length ∧ Ints wr w.heap.size (.slice (some ⟨gd, 0, none⟩) n n) s.1 ∧ Que wr w.heap.size q (qI (s.2.drop k)) ∧ Hid (q.ownBlock ≠ some gd) ∧ Below w.heap.size w wr) (fun q wr => 2 * cntW wr gd n + slLen q)
  case atStart => exact ⟨0, s0, Lib.hid rfl, h0, iD3, iQ, HNQ, B3⟩
  case round =>
    clear iD3 iQ HNQ B3 cD fD h0
    obtain ⟨k, s, hs, hk, hD, hQ, hN, hb⟩ := hrel
    have hI := HINV.out k
    rw [← hs.out] at hI
    have hIl := hI.len
    have hIc := hI.cnt
    have hcw := cntW_eq hD hIl
    obtain ⟨qg, qo, qc, rfl, hqc⟩ := hQ.sl
    rw [qI_len, List.length_drop] at hqc hQ hN ⊢
    by_cases hlt : k < s.2.length
    · have hlt' : decide ((0 : Int) < ((s.2.length - k : Nat) : Int)) = true := by simp; omega
      have hlt2 : decide (0 < s.2.length - k) = true := decide_eq_true (by omega)
      have hc0 := hqc 0 (by omega)
      rw [Nat.add_zero, qI_drop hlt] at hc0
      have hc0 : wr.cell? ⟨qg, qo, none⟩ = some (.int .i64 (s.2.getD k 0 : Nat)) := hc0
      have hALL := HALL.out k (by rw [← hs.out]; exact hlt)
      have hNX := HNX.out k (by rw [← hs.out]; exact hlt)
      rw [← hs.out] at hALL hNX
      have hat := (hI.mem _ (getD_memQ hlt)).1
      have HQK := Lib.hid (qI_drop hlt)
      have HMU := Lib.hid (show 2 * cntW wr gd n + (s.2.length - k) + s.2.length + k = 2 * n from by rw [hcw]; omega)
      have HS2 := Lib.hid (fun (A : List Nat) => visitsQ_len (s.2.getD k 0) A s)
      have HVS := Lib.hid (fun (A : List Nat) j hj => visits_snoc (s.2.getD k 0) s A j hj)
      have V0 : Hid (s = visitsQ (s.2.getD k 0) s ((G (s.2.getD k 0)).take 0)) := Lib.hid rfl
      have hAL := HAL.out (s.2.getD k 0)
      have hLT := HLT.out (s.2.getD k 0) hat
      have hRW := HROW.out (s.2.getD k 0) hat
      have HTA := Lib.hid (show (G (s.2.getD k 0)).take (G (s.2.getD k 0)).length = G (s.2.getD k 0) from List.take_length)
      have HNX1 := Lib.hid hNX
      have HALL1 := Lib.hid hALL
      have HLT1 := Lib.hid hLT
      obtain ⟨rg, rc, hRW⟩ := hRW
      have HRW1 := Lib.hid hRW
      obtain ⟨hrc, _⟩ := hRW wr hb
      clear HALL HNX HAL HLT HROW HINV HEND hALL hNX hLT hRW hqc hcw hI hIc
      generalize s.2.getD k 0 = at' at *
      generalize G at' = A at *
      obtain ⟨L, hL⟩ : ∃ L, L = A.length := ⟨_, rfl⟩
      rw [← hL] at hrc hAL HTA
      have HL := Lib.hid hL
      clear hL
      go_wp2
      go_loopw [6, 30] (fun q i wx => ∃ (j : Nat) (s' : List Int × List Nat), j ≤ L ∧ i = .int .i64 j ∧ Hid (s' = visitsQ at' s (A.take j)) ∧ Ints wx w.heap.size (.slice (some ⟨gd, 0, none⟩) n n) s'.1 ∧ Que wx w.heap.size q (qI (s'.2.drop k)) ∧ Hid (q.ownBlock ≠ some gd) ∧ Below w.heap.size w wx) (fun _ i _ => L - (intOf i).toNat)
      case atStart => exact ⟨0, s, Nat.zero_le _, rfl, V0, hD, hQ, hN, hb⟩
      case round =>
        clear hD hQ hN hb V0 hc0 hrc
        obtain ⟨j, s', hj, rfl, hs', hD, hQ, hN, hb⟩ := hrel
        rename World => wx
        have hALL := HALL1.out j
        rw [← hs'.out] at hALL
        obtain ⟨hI, hmem⟩ := hALL
        have hl2 := HS2.out (A.take j)
        rw [← hs'.out] at hl2
        have hIl := hI.len
        have hIc := hI.cnt
        by_cases hjl : j < L
        · have hjl' : decide (j < L) = true := decide_eq_true hjl
          obtain ⟨t, d0, d1, d2⟩ := (HRW1.out wx hb).2 j (by rw [← HL.out]; exact hjl)
          have hto := HLT1.out j (by rw [← HL.out]; exact hjl)
          have hVS := HVS.out A j (by rw [← HL.out]; exact hjl)
          rw [← hs'.out] at hVS
          have cto := hD.cell (A.getD j 0) (by rw [hIl]; exact hto)
          have cat := hD.cell at' (by rw [hIl]; exact hat)
          have fto := hD.free (A.getD j 0)
          have lo := hI.low (A.getD j 0)
          have hag := (hI.mem at' hmem).2
          have hatop := hI.top at' hat
          have hgd3 := hD.under gd rfl
          obtain ⟨wy, hwy⟩ : ∃ wy, wx.alloc (.cells #[.int .i64 at', .int .i64 t, .int .i64 (A.getD j 0 : Nat)] 91) = wy := ⟨_, rfl⟩
          have BA : Below wx.heap.size wx wy := by rw [← hwy]; exact (Below.refl wx.heap.size wx).alloc (Nat.le_refl _) _
          have KA : Blk wy wx.heap.size [.int .i64 at', .int .i64 t, .int .i64 (A.getD j 0 : Nat)] 91 := by rw [← hwy]; exact Blk.made wx #[.int .i64 at', .int .i64 t, .int .i64 (A.getD j 0 : Nat)] _
          have cto2 := (BA.cell (p := ⟨gd, A.getD j 0, none⟩) hgd3).trans cto
          rw [← hwy] at cto2
          have hD2 := hD.below BA
          have hQ2 := hQ.below BA
          have hb2 := hb.trans (BA.mono hb.size)
          have HVS1 := Lib.hid hVS
          have hqs := hb2.size
          have HIc := Lib.hid hIc
          simp only at d0 d1 d2
          clear hVS hD hQ
          generalize A.getD j 0 = tq at *
          by_cases hm : s'.1.getD tq 0 = -1
          · have hne : at' ≠ tq := fun e => by rw [← e] at hm; omega
            have HV2 := Lib.hid (show visitQ at' s' tq = (s'.1.set tq (s'.1.getD at' 0 + 1), s'.2 ++ [tq]) from by unfold visitQ; rw [if_pos hm])
            rw [hm] at cto cto2
            have c10 := (BA.cell (p := ⟨gd, at', none⟩) hgd3).trans cat
            have f10 : wy.frozen? ⟨gd, tq, none⟩ = false := hD2.free tq
            have c11 : wy.cell? ⟨gd, tq, none⟩ = some (.int .i64 (-1)) := by rw [← hwy]; exact cto2
            have iD3 := hD2.set tq (s'.1.getD at' 0 + 1)
            have hsl : s'.2.length ≤ 1024 := by omega
            have hwr : IntKind.i64.wrap (s'.1.getD at' 0 + 1) = s'.1.getD at' 0 + 1 := IntWalk.i64_in _ (by omega)
            clear hI hmem hIl lo cat fto
            generalize s'.1.getD at' 0 = dv at *
            have HAB := Lib.hid (show wx.heap.size ≠ gd from by omega)
            have HNE := Lib.hid hne
            have k0 := KA.cell 0
            have k2 := KA.cell 2
            simp only [List.getElem?_cons_zero, List.getElem?_cons_succ] at k0 k2
            have W10 : Below w.heap.size w (wy.setCell ⟨gd, tq, none⟩ (.int .i64 (dv + 1))) := hb2.setCell (p := ⟨gd, tq, none⟩) (by show w.heap.size ≤ gd; exact hgd) _
            have Q10 := hQ2.block (w' := wy.setCell ⟨gd, tq, none⟩ (.int .i64 (dv + 1))) (by simp) (fun g hg => Below.heap_setCell _ _ _ _ (fun e => hN.out (by rw [hg]; exact congrArg some e)))
            have k2' : (wy.setCell ⟨gd, tq, none⟩ (.int .i64 (dv + 1))).cell? ⟨wx.heap.size, 2, none⟩ = some (.int .i64 tq) := (World.cell?_setCell_far _ _ _ _ (fun e => HAB.out e.symm)).trans k2
            have HID := Lib.hid iD3
            have HQQ := Lib.hid Q10
            have HW10 := Lib.hid W10
            have HDV := Lib.hid hag
            have HTOP := Lib.hid hatop
            clear iD3 Q10 W10 hQ2 hD2 hne hag hatop KA cto cto2 hm
            go_upto_region 10 with fail
            try rw [hwy]
            refine wp_region_held_drew (S := (fun W' => W'.cell? ⟨wx.heap.size, 0, none⟩ = some (.int .i64 at') ∧ W'.cell? ⟨wx.heap.size, 2, none⟩ = some (.int .i64 tq) ∧ W'.cell? ⟨gd, at', none⟩ = some (.int .i64 dv))) (by kernel_rfl) ?_ (fun hHeld => ?_)
            · (try dsimp only); exact ⟨k0, k2, c10⟩
            refine wpAnyH_take (i := 0) (oi := { dst := some 40, op := Go.Op.move (Go.Operand.tmp 5), type := 24, pos := "l09_graphs.go:105", after := #[], guard := none }) (v := ?_) rfl (by kernel_rfl) (by kernel_rfl) (by kernel_rfl) (fun _ _ _ h => h) (Or.inl ⟨by rfl, ?_⟩) (by assumption) ?_
            rotate_left
            · (intro w hSw; (try dsimp only at hSw); go_simp); (try with_reducible rfl)
            try simp only [Act.put, List.setIfInBounds_toArray, List.set_cons_zero, List.set_cons_succ]
            refine wpAnyH_take (i := 1) (oi := { dst := some 41, op := Go.Op.fieldAddr 91 (Go.Operand.tmp 8) 2, type := 0, pos := "l09_graphs.go:105", after := #[], guard := none }) (v := ?_) rfl (by kernel_rfl) (by kernel_rfl) (by kernel_rfl) (fun _ _ _ h => h) (Or.inl ⟨by rfl, ?_⟩) (by assumption) ?_
            rotate_left
            · (intro w hSw; (try dsimp only at hSw); go_simp); (try with_reducible rfl)
            try simp only [Act.put, List.setIfInBounds_toArray, List.set_cons_zero, List.set_cons_succ]
            refine wpAnyH_take (i := 2) (oi := { dst := some 42, op := Go.Op.load 2 (Go.Operand.tmp 41), type := 2, pos := "l09_graphs.go:105", after := #[{ on := 1, ground := Go.Ground.data }], guard := none }) (v := ?_) rfl (by kernel_rfl) (by kernel_rfl) (by kernel_rfl) (fun _ _ _ h => h) (Or.inl ⟨by rfl, ?_⟩) (by assumption) ?_
            rotate_left
            · (intro w hSw; (try dsimp only at hSw); go_simp); (try with_reducible rfl)
            try simp only [Act.put, List.setIfInBounds_toArray, List.set_cons_zero, List.set_cons_succ]
            refine wpAnyH_take (i := 3) (oi := { dst := some 43, op := Go.Op.move (Go.Operand.tmp 5), type := 24, pos := "l09_graphs.go:105", after := #[], guard := none }) (v := ?_) rfl (by kernel_rfl) (by kernel_rfl) (by kernel_rfl) (fun _ _ _ h => h) (Or.inl ⟨by rfl, ?_⟩) (by assumption) ?_
            rotate_left
            · (intro w hSw; (try dsimp only at hSw); go_simp); (try with_reducible rfl)
            try simp only [Act.put, List.setIfInBounds_toArray, List.set_cons_zero, List.set_cons_succ]
            refine wpAnyH_take (i := 4) (oi := { dst := some 44, op := Go.Op.fieldAddr 91 (Go.Operand.tmp 8) 0, type := 0, pos := "l09_graphs.go:105", after := #[], guard := none }) (v := ?_) rfl (by kernel_rfl) (by kernel_rfl) (by kernel_rfl) (fun _ _ _ h => h) (Or.inl ⟨by rfl, ?_⟩) (by assumption) ?_
            rotate_left
            · (intro w hSw; (try dsimp only at hSw); go_simp); (try with_reducible rfl)
            try simp only [Act.put, List.setIfInBounds_toArray, List.set_cons_zero, List.set_cons_succ]
            refine wpAnyH_take (i := 5) (oi := { dst := some 45, op := Go.Op.load 2 (Go.Operand.tmp 44), type := 2, pos := "l09_graphs.go:105", after := #[{ on := 4, ground := Go.Ground.data }], guard := none }) (v := ?_) rfl (by kernel_rfl) (by kernel_rfl) (by kernel_rfl) (fun _ _ _ h => h) (Or.inl ⟨by rfl, ?_⟩) (by assumption) ?_
            rotate_left
            · (intro w hSw; (try dsimp only at hSw); go_simp); (try with_reducible rfl)
            try simp only [Act.put, List.setIfInBounds_toArray, List.set_cons_zero, List.set_cons_succ]
            refine wpAnyH_take (i := 6) (oi := { dst := some 46, op := Go.Op.indexAddr 24 (Go.Operand.tmp 43) (Go.Operand.tmp 45), type := 0, pos := "l09_graphs.go:105", after := #[{ on := 3, ground := Go.Ground.data }, { on := 5, ground := Go.Ground.data }], guard := none }) (v := ?_) rfl (by kernel_rfl) (by kernel_rfl) (by kernel_rfl) (fun _ _ _ h => h) (Or.inl ⟨by rfl, ?_⟩) (by assumption) ?_
            rotate_left
            · (intro w hSw; (try dsimp only at hSw); go_simp); (try with_reducible rfl)
            try simp only [Act.put, List.setIfInBounds_toArray, List.set_cons_zero, List.set_cons_succ]
            refine wpAnyH_take (i := 7) (oi := { dst := some 47, op := Go.Op.load 2 (Go.Operand.tmp 46), type := 2, pos := "l09_graphs.go:105", after := #[{ on := 6, ground := Go.Ground.data }], guard := none }) (v := ?_) rfl (by kernel_rfl) (by kernel_rfl) (by kernel_rfl) (fun _ _ _ h => h) (Or.inl ⟨by rfl, ?_⟩) (by assumption) ?_
            rotate_left
            · (intro w hSw; (try dsimp only at hSw); go_simp); (try with_reducible rfl)
            try simp only [Act.put, List.setIfInBounds_toArray, List.set_cons_zero, List.set_cons_succ]
            refine wpAnyH_take (i := 8) (oi := { dst := some 48, op := Go.Op.binOp Go.BinOp.add 2 (Go.Operand.tmp 47) (Go.Operand.const (Go.Value.int Go.IntKind.i64 1)) 2, type := 2, pos := "l09_graphs.go:105", after := #[{ on := 7, ground := Go.Ground.data }], guard := none }) (v := ?_) rfl (by kernel_rfl) (by kernel_rfl) (by kernel_rfl) (fun _ _ _ h => h) (Or.inl ⟨by rfl, ?_⟩) (by assumption) ?_
            rotate_left
            · (intro w hSw; (try dsimp only at hSw); go_simp); (try with_reducible rfl)
            try simp only [Act.put, List.setIfInBounds_toArray, List.set_cons_zero, List.set_cons_succ]
            refine wpAnyH_take (i := 9) (oi := { dst := some 49, op := Go.Op.indexAddr 24 (Go.Operand.tmp 40) (Go.Operand.tmp 42), type := 0, pos := "l09_graphs.go:105", after := #[{ on := 0, ground := Go.Ground.data }, { on := 2, ground := Go.Ground.data }, { on := 0, ground := Go.Ground.phase }, { on := 1, ground := Go.Ground.phase }, { on := 2, ground := Go.Ground.phase }, { on := 3, ground := Go.Ground.phase }, { on := 4, ground := Go.Ground.phase }, { on := 5, ground := Go.Ground.phase }, { on := 6, ground := Go.Ground.phase }, { on := 7, ground := Go.Ground.phase }, { on := 8, ground := Go.Ground.phase }], guard := none }) (v := ?_) rfl (by kernel_rfl) (by kernel_rfl) (by kernel_rfl) (fun _ _ _ h => h) (Or.inl ⟨by rfl, ?_⟩) (by assumption) ?_
            rotate_left
            · (intro w hSw; (try dsimp only at hSw); go_simp); (try with_reducible rfl)
            try simp only [Act.put, List.setIfInBounds_toArray, List.set_cons_zero, List.set_cons_succ]
            refine wpAnyH_ready (rs := [10]) (by kernel_rfl) (by simp) ?_
            refine AllReadyH.cons (o := { dst := none, op := Go.Op.store 2 (Go.Operand.tmp 49) (Go.Operand.tmp 48), type := 0, pos := "l09_graphs.go:105", after := #[{ on := 9, ground := Go.Ground.data }, { on := 8, ground := Go.Ground.data }, { on := 0, ground := Go.Ground.phase }, { on := 1, ground := Go.Ground.phase }, { on := 2, ground := Go.Ground.phase }, { on := 3, ground := Go.Ground.phase }, { on := 4, ground := Go.Ground.phase }, { on := 5, ground := Go.Ground.phase }, { on := 6, ground := Go.Ground.phase }, { on := 7, ground := Go.Ground.phase }, { on := 8, ground := Go.Ground.phase }], guard := none }) rfl (fun K hK => ?_) AllReadyH.nil
            go_simp
            refine hK.out _ _ ?_ (fun hHeld2 => ?_)
            · (try dsimp only); exact ⟨(World.cell?_setCell_far _ _ _ _ (fun e => HAB.out e.symm)).trans k0, (World.cell?_setCell_far _ _ _ _ (fun e => HAB.out e.symm)).trans k2, (World.cell?_setCell_other _ _ _ _ (fun e => HNE.out (by have h9 := congrArg Addr.off e; exact h9.symm))).trans c10⟩
            clear hK K hHeld
            have hHeld := hHeld2
            clear hHeld2
            try simp only [Act.put, List.setIfInBounds_toArray, List.set_cons_zero, List.set_cons_succ]
            refine wpAnyH_done (by kernel_rfl) ?_ _
            have k2'' : ((wy.setCell ⟨gd, tq, none⟩ (.int .i64 (dv + 1))).drew).cell? ⟨wx.heap.size, 2, none⟩ = some (.int .i64 tq) := k2'
            obtain ⟨wz, hwz⟩ : ∃ wz, (wy.setCell ⟨gd, tq, none⟩ (.int .i64 (dv + 1))).drew = wz := ⟨_, rfl⟩
            have iZ : Ints wz w.heap.size (.slice (some ⟨gd, 0, none⟩) n n) (s'.1.set tq (dv + 1)) := by rw [← hwz]; exact HID.out
            have qZ : Que wz w.heap.size u6 (qI (s'.2.drop k)) := by rw [← hwz]; exact HQQ.out
            have bZ : Below w.heap.size w wz := by rw [← hwz]; exact Below.drew HW10.out
            rw [hwz] at k2'' ⊢
            clear hwz k2' k0 k2 c10 c11 f10 hwy
            have bY := bZ.alloc bZ.size (.cells #[.int .i64 tq] 2)
            have qY := qZ.below ((Below.refl wz.heap.size wz).alloc (Nat.le_refl _) (.cells #[.int .i64 tq] 2))
            have iY := iZ.alloc (.cells #[.int .i64 tq] 2)
            have hcy : (wz.alloc (.cells #[.int .i64 tq] 2)).cell? ⟨wz.heap.size, 0, none⟩ = some (.int .i64 tq) := (Blk.made wz #[.int .i64 tq] 2).cell 0
            have hll : (qI (s'.2.drop k)).length ≤ 1000000 := by rw [qI_len, List.length_drop]; omega
            go_wp2_with (at_builtin; refine append_que _ rfl _ _ rfl w.heap.size u6 _ rfl qY (tq : Int) wz.heap.size (by first | rfl | simp) hcy hll bY.size ?_; intro v' w12 hQ12 hg12 ho12; refine Hid.out ?_)
            have hD12 := iY.block (w' := w12) fun g hg hlt => hg12.block g hlt fun e => by have h9 : gd = g := Option.some.inj hg; subst h9; exact hN.out e.symm
            have hb12 := bY.grown hg12 bY.size (fun q hq => (qY.own_ge hq).1)
            have hN12 : Hid (v'.ownBlock ≠ some gd) := Lib.hid fun e => by
              rcases ho12 with h9 | h9
              · exact hN.out (by rw [← h9, e])
              · have h8 := h9 gd e
                have h7 := iZ.under gd rfl
                simp at h8; omega
            rw [← qI_snoc (by omega)] at hQ12
            have hS2 : Hid ((s'.1.set tq (dv + 1), s'.2 ++ [tq]) = visitsQ at' s (A.take (j + 1))) := Lib.hid (by rw [HVS1.out, HV2.out])
            clear qY iY hcy bY qZ iZ bZ hg12 ho12
            refine Lib.hid ?_
            go_wp2
            go_roundw
            case rel => exact ⟨j + 1, _, by omega, by go_num, hS2, hD12, hQ12, hN12, hb12⟩
            case measure => simp [intOf]; omega
          · have hm' : (s'.1.getD tq 0 == -1) = false := beq_eq_false_iff_ne.2 hm
            have hS2 : Hid (s' = visitsQ at' s (A.take (j + 1))) := Lib.hid (by rw [HVS1.out]; unfold visitQ; rw [if_neg hm])
            have c11 : wy.cell? ⟨gd, tq, none⟩ = some (.int .i64 (s'.1.getD tq 0)) := by rw [← hwy]; exact cto2
            have k2 := KA.cell 2
            simp only [List.getElem?_cons_zero, List.getElem?_cons_succ] at k2
            clear hI hmem cat cto lo
            generalize s'.1.getD tq 0 = dt at *
            have HD2 := Lib.hid hD2
            have HQ2 := Lib.hid hQ2
            have HB2 := Lib.hid hb2
            clear hD2 hQ2 hb2
            go_wp2
            try rw [hwy]
            go_roundw
            case rel => exact ⟨j + 1, s', by omega, by go_num, hS2, HD2.out, HQ2.out, hN, HB2.out⟩
            case measure => simp [intOf]; omega
        · obtain rfl : j = L := by omega
          have hsv := hs'.out
          rw [HTA.out] at hsv
          have hk2 : k < s'.2.length := by omega
          have hQ' := hQ
          rw [qI_drop hk2] at hQ'
          obtain ⟨S, hrun, hS, hown⟩ := hQ'.tail (by rw [qI_len, List.length_drop]; omega)
          have HSN : Hid (S.ownBlock ≠ some gd) := Lib.hid (by rw [hown]; exact hN.out)
          have hcw := cntW_eq hD hIl
          have HSL : Hid (slLen S = s'.2.length - (k + 1)) := Lib.hid (by
            obtain ⟨g9, o9, c9, e9, _⟩ := hS.sl
            rw [e9, qI_len, List.length_drop]; rfl)
          have HNS : Hid (s' = runQ G s0 (k + 1)) := Lib.hid (by rw [HNX1.out]; exact hsv)
          have HM2 := Lib.hid (show 2 * cntW wx gd n + (s'.2.length - (k + 1)) + s'.2.length + (k + 1) = 2 * n from by rw [hcw]; omega)
          obtain ⟨g8, o8, c8, rfl, _⟩ := hQ.sl
          rw [qI_len, List.length_drop] at hrun
          have HSS := Lib.hid hS
          clear hI hmem hsv hQ' hS hown hcw hQ HS2 HVS HLT1 HRW1 HALL1
          rw [qI_len, List.length_drop]
          go_wp2
          go_roundw
          case rel => exact ⟨k + 1, s', HNS, by omega, hD, HSS.out, HSN, hb⟩
          case measure =>
            rw [HSL.out]
            have h8 := HMU.out
            have h9 := HM2.out
            show _ < 2 * cntW wr gd n + (s.2.length - k)
            omega
    · have hle : s.2.length - k = 0 := by omega
      rw [hle]
      have hs2 : s.2.length = k := by omega
      have hfin := HEND.out k (by rw [← hs.out]; exact hs2)
      rw [← hs.out] at hfin
      rw [hfin] at hD
      clear HALL HNX HAL HLT HROW HINV HEND hqc hcw hI hfin
      go_wp2
      go_ret
      exact ⟨_, rfl, hD, hb⟩
end Go.Proofs.YtdghbbnddgngoaaDoor
