/- The distances of all states from one, the model's: l09Far. No conditions. -/
import Derived.Test.YtdghbbnddgngoaaDoorArN
import Derived.Test.YtdghbbnddgngoaaDoorArD
namespace Go.Proofs.YtdghbbnddgngoaaDoor
open Go.RowKit
set_option linter.unusedSimpArgs false
set_option linter.unusedVariables false

set_option maxRecDepth 10000 in
set_option maxHeartbeats 16000000 in
theorem l09Far_any (v u : Value) (B C p h a : Nat) (w : World) (hM : Ints w B v (mskI p (2 ^ h))) (hA : Arcs w C u (arcG h p)) (h1 : 1 ≤ h) (hh : h ≤ 10) (hp : p ≤ h) (ha : a < cntG h p) :
    Calls Tryd.prog 58 #[v, u, .int .i64 a] w fun e w' => ∃ r, e = .returned r ∧ Ints w' w.heap.size r (distA h p a) ∧ Below w.heap.size w w' := by
  have hn10 := cntG_le h p hh
  have hml : (mskI p (2 ^ h)).length = cntG h p := by rw [mskI_len]; rfl
  have hal := arcG_len h p hh
  have hap := arcG_pos h p hp hh
  have hap : 1 ≤ (arcG h p).length := hap
  have HINV := Lib.hid (fun k => InvQ.run (G := adjN h p) (n := cntG h p) (a := a) (adjN_lt h1 hh) ha k)
  have HALL := Lib.hid (fun k (hk : k < (runQ (adjN h p) (startQ (cntG h p) a) k).2.length) (j : Nat) => show InvQ (cntG h p) (visitsQ ((runQ (adjN h p) (startQ (cntG h p) a) k).2.getD k 0) (runQ (adjN h p) (startQ (cntG h p) a) k) ((adjN h p ((runQ (adjN h p) (startQ (cntG h p) a) k).2.getD k 0)).take j)) ∧ (runQ (adjN h p) (startQ (cntG h p) a) k).2.getD k 0 ∈ (visitsQ ((runQ (adjN h p) (startQ (cntG h p) a) k).2.getD k 0) (runQ (adjN h p) (startQ (cntG h p) a) k) ((adjN h p ((runQ (adjN h p) (startQ (cntG h p) a) k).2.getD k 0)).take j)).2 from by
    have hI := InvQ.run (G := adjN h p) (n := cntG h p) (a := a) (adjN_lt h1 hh) ha k
    have hm := getD_memQ hk
    exact InvQ.all _ (fun t ht => adjN_lt h1 hh _ (hI.mem _ hm).1 t (List.mem_of_mem_take ht)) hI hm)
  have HEND := Lib.hid (fun k (hk : (runQ (adjN h p) (startQ (cntG h p) a) k).2.length = k) => farQ_end (adjN_lt h1 hh) ha hk)
  have HNX := Lib.hid (fun k (hk : k < (runQ (adjN h p) (startQ (cntG h p) a) k).2.length) => runQ_next hk)
  have HLT := Lib.hid (fun i (hi : i < cntG h p) j (hj : j < (adjN h p i).length) => show (adjN h p i).getD j 0 < cntG h p from by
    have : (adjN h p i).getD j 0 = (adjN h p i)[j] := by simp [hj]
    rw [this]; exact adjN_lt h1 hh i hi _ (List.getElem_mem hj))
  have HAL := Lib.hid (fun i => show (adjN h p i).length ≤ 11 from by rw [adjN_len]; have := thrN_len h (mskG h p i); omega)
  have HA1 := Lib.hid (fun i (hi : i < cntG h p) => show 1 ≤ (adjN h p i).length from by rw [adjN_len]; have := thrN_some h (by omega) _ (mskG_at hi).1; omega)
  have HNA := Lib.hid (fun i (hi : i < cntG h p) => nextG_all h p i hi)
  have HFR := Lib.hid (fun k (hk : k < (arcG h p).length) => show ∃ f t : Nat, ((arcG h p).getD k a0).1 = f ∧ ((arcG h p).getD k a0).2.2 = t ∧ f < cntG h p ∧ nextG ((arcG h p).take (k + 1)) (cntG h p) = (nextG ((arcG h p).take k) (cntG h p)).set f ((nextG ((arcG h p).take k) (cntG h p)).getD f [] ++ [(t : Int)]) from by
    have e : (arcG h p).getD k a0 = (arcG h p)[k] := by simp [hk]
    have hm : (arcG h p)[k] ∈ arcG h p := List.getElem_mem hk
    obtain ⟨row, hr, hx⟩ := List.mem_flatten.1 hm
    simp only [gphG, List.mem_map, List.mem_range] at hr
    obtain ⟨i, hi, rfl⟩ := hr
    obtain ⟨e1, j, e2, _⟩ := row_to h1 hh hi hx
    refine ⟨i, j, by rw [e]; exact e1, by rw [e]; exact e2, hi, ?_⟩
    rw [List.take_succ_eq_append_getElem hk, nextG_step _ _ hi e1, e2])
  have HNL := Lib.hid (fun xs => nextG_len xs (cntG h p))
  have HN0 := Lib.hid (nextG_nil (cntG h p))
  have HAC := Lib.hid (fun k (hk : k < (arcG h p).length) => show ∃ g cap, u = .slice (some ⟨g, 0, none⟩) (arcG h p).length cap ∧ g < w.heap.size ∧ ThreeA w g (k * 3) ((arcG h p).getD k a0) from by
    obtain ⟨g, cap, e, _, hg, _⟩ := hA.shape2 hap
    have hc := hA
    rw [e] at hc
    exact ⟨g, cap, e, hg, hc.threeA k hk⟩)
  obtain ⟨va, vc, rfl⟩ := ints_slO hM
  obtain ⟨ua, uc, rfl⟩ := hA.sl
  rw [hml]
  unfold distA
  have hD0 : (startQ (cntG h p) a).1 = (List.replicate (cntG h p) (-1)).set a 0 := rfl
  have hQ0 : (startQ (cntG h p) a).2 = [a] := rfl
  clear hM hA hml
  generalize startQ (cntG h p) a = s0 at *
  generalize adjN h p = G at *
  generalize hF : farQ G (cntG h p) a = F at *
  generalize arcG h p = XS at *
  generalize hn : cntG h p = n at *
  clear hF hn
  have O0 : Ints (w.alloc (.cells #[] 2)) w.heap.size (.slice (some ⟨w.heap.size, 0, none⟩) 0 0) (List.replicate 0 (-1)) := by
    have := World.ownsRow_lit (e := 2) (size := 1) w #[] 0 (Nat.le_refl _) (by simp [maxLen]) rfl
    simpa [Ints] using this
  have B0 : Below w.heap.size w (w.alloc (.cells #[] 2)) := (Below.refl _ w).alloc (Nat.le_refl _) _
  go_enter Tryd.func58, Tryd.ntmps58
  go_wp2
  go_loopw [7, 8] (fun o i wr => ∃ k : Nat, k ≤ n ∧ i = .int .i64 k ∧ Ints wr w.heap.size o (List.replicate k (-1)) ∧ Below w.heap.size w wr) (fun _ i _ => n - (intOf i).toNat)
  case atStart => exact ⟨0, Nat.zero_le _, rfl, O0, B0⟩
  case round =>
    clear O0 B0
    obtain ⟨k, hk, rfl, hO, hb⟩ := hrel
    by_cases hlt : k < n
    · have hlt' : decide (k < n) = true := decide_eq_true hlt
      have hbs := hb.size
      have HE := Lib.hid (show List.replicate (k + 1) (-1 : Int) = List.replicate k (-1) ++ [-1] from List.replicate_succ')
      have hll : (List.replicate k (-1 : Int)).length ≤ 1000000000 := by simp; omega
      clear HINV HALL HEND HNX HLT HAL HNA HFR HNL HN0 HAC
      go_wp2_with (at_builtin; refine append_int _ rfl _ _ rfl _ _ _ rfl hO (-1) rfl hll hbs ?_; intro v' w2 hO2 hg2; refine Hid.out ?_)
      have hb2 := hO.below_grown hb hbs hg2
      rw [← HE.out] at hO2
      clear hg2 hO hb
      refine Lib.hid ?_
      go_wp2
      go_roundw
      case rel => exact ⟨k + 1, by omega, by go_num, hO2, hb2⟩
      case measure => simp [intOf]; omega
    · obtain rfl : n = k := by omega
      obtain ⟨og, oc, rfl, q1, q2, q3, q4⟩ := Ints.shape2 hO (by simp; omega)
      rw [List.length_replicate] at hO ⊢
      have cO := hO.cell a (by simpa using ha)
      have fO := hO.free a
      have iO := hO.set a 0
      rw [← hD0] at iO
      have bO := hb.setCell (p := ⟨og, a, none⟩) q1 (.int .i64 0)
      have iQ : Ints ((wr.setCell ⟨og, a, none⟩ (.int .i64 0)).alloc (.cells #[.int .i64 a] 2)) w.heap.size (.slice (some ⟨wr.heap.size, 0, none⟩) 1 1) (nI s0.2) := by
        have h9 := World.ownsRow_lit (base := w.heap.size) (e := 2) (size := 1) (wr.setCell ⟨og, a, none⟩ (.int .i64 0)) #[.int .i64 a] 1 (by have := hb.size; simpa using this) (by simp [maxLen]) rfl
        rw [hQ0]
        simpa [Ints, nI] using h9
      have iO2 := iO.alloc (.cells #[.int .i64 a] 2)
      have bQ := bO.alloc bO.size (.cells #[.int .i64 a] 2)
      have hz2 : ((wr.setCell ⟨og, a, none⟩ (.int .i64 0)).alloc (.cells #[.int .i64 a] 2)).heap.size = wr.heap.size + 1 := by simp
      obtain ⟨w2, hw2⟩ : ∃ w2, (wr.setCell ⟨og, a, none⟩ (.int .i64 0)).alloc (.cells #[.int .i64 a] 2) = w2 := ⟨_, rfl⟩
      rw [hw2] at iQ iO2 bQ hz2
      obtain ⟨gB, hgB⟩ : ∃ x, x = w2.heap.size := ⟨_, rfl⟩
      have hoB : og < gB := by omega
      have hqB : wr.heap.size < gB := by omega
      have G0 : Grid 24 (w2.alloc (.cells #[] 24)) gB (w2.alloc (.cells #[] 24)).heap.size (.slice (some ⟨w2.heap.size, 0, none⟩) 0 0) (List.replicate 0 []) := Grid.empty _ _ (by omega) (by simp)
      have BG0 : Below gB w2 (w2.alloc (.cells #[] 24)) := by rw [hgB]; exact (Below.refl _ w2).alloc (Nat.le_refl _) _
      have hoq : og < wr.heap.size := q2
      have hgBs : gB ≤ w2.heap.size := by omega
      have HZ2 := Lib.hid hz2
      clear iO bO hO hb hD0 hQ0 hz2 hgB
      go_wp2
      obtain ⟨qb, hqb⟩ : ∃ x, x = wr.heap.size := ⟨_, rfl⟩
      rw [← hqb] at iQ hoq hqB ⊢
      clear hqb
      go_loopw [10, 11] (fun g i wx => ∃ k : Nat, k ≤ n ∧ i = .int .i64 k ∧ Grid 24 wx gB wx.heap.size g (List.replicate k []) ∧ Below gB w2 wx) (fun _ i _ => n - (intOf i).toNat)
      case atStart => exact ⟨0, Nat.zero_le _, rfl, G0, BG0⟩
      case round =>
        clear G0 BG0
        rename World => wx
        obtain ⟨k, hk, rfl, hG, hb⟩ := hrel
        have hGs : gB ≤ wx.heap.size := Nat.le_trans hgBs hb.size
        by_cases hlt : k < n
        · have hlt' : decide (k < n) = true := decide_eq_true hlt
          have HE := Lib.hid (show List.replicate (k + 1) ([] : List Int) = List.replicate k [] ++ [[]] from List.replicate_succ')
          have hll : (List.replicate k ([] : List Int)).length ≤ 1000000 := by simp; omega
          have bA := (Below.refl wx.heap.size wx).alloc (Nat.le_refl _) (.cells #[] 2)
          have hG1 := hG.below bA
          have hn1 : Ints (wx.alloc (.cells #[] 2)) wx.heap.size (hdV (some (wx.heap.size, 0, 0))) [] := by
            have := World.ownsRow_lit (e := 2) (size := 1) wx #[] 0 (Nat.le_refl _) (by simp [maxLen]) rfl
            simpa [Ints, hdV] using this
          have hb1 := hb.trans (bA.mono hGs)
          clear HINV HALL HEND HNX HLT HAL HA1 HNA HFR HNL HN0 HAC hG hb iQ iO2 bQ
          go_wp2_with (at_builtin; refine append_grid _ rfl _ _ rfl gB wx.heap.size _ _ rfl hG1 (some (wx.heap.size, 0, 0)) [] _ rfl (by simp) hn1 hll hGs (by simp) ?_; intro v' w6 hG6 hW6; refine Hid.out ?_)
          have hb6 := hW6.below hb1 (Nat.le_refl _) (by simp; omega)
          rw [← HE.out] at hG6
          clear hW6 hG1 hn1 hb1 bA
          refine Lib.hid ?_
          go_wp2
          go_roundw
          case rel => exact ⟨k + 1, by omega, by go_num, hG6, hb6⟩
          case measure => simp [intOf]; omega
        · obtain rfl : n = k := by omega
          have hsh := hG.shape
          rw [List.length_replicate] at hsh
          obtain ⟨gn, gc, rfl, hgn1, hgn2, _⟩ := hsh.resolve_left (fun e => by have h9 := congrArg List.length e.2; simp at h9; omega)
          rw [← HN0.out] at hG
          have hG : Grid 24 wx gB wx.heap.size (.slice (some ⟨gn, 0, none⟩) n gc) (nextG (XS.take 0) n) := hG
          have hb : Below gB w2 wx := hb
          have hwB : w.heap.size ≤ gB := by have := bQ.size; omega
          clear hsh
          go_wp2
          go_loopw [12] (fun i wy => ∃ k : Nat, k ≤ XS.length ∧ i = .int .i64 k ∧ Grid 24 wy gB wy.heap.size (.slice (some ⟨gn, 0, none⟩) n gc) (nextG (XS.take k) n) ∧ Below gB w2 wy) (fun i _ => XS.length - (intOf i).toNat)
          case atStart => exact ⟨0, Nat.zero_le _, rfl, hG, hb⟩
          case round =>
            clear hG hb
            rename World => wy
            obtain ⟨k, hk, rfl, hG, hb⟩ := hrel
            have hbw := bQ.trans (hb.mono hwB)
            have hgs : gB ≤ wy.heap.size := Nat.le_trans hgBs hb.size
            by_cases hlt : k < XS.length
            · have hlt' : decide (k < XS.length) = true := decide_eq_true hlt
              obtain ⟨ag, ac, hav, hag, d0, d1, d2⟩ := HAC.out k hlt
              cases hav
              obtain ⟨f, tq, hf1, hf2, hf3, hf4⟩ := HFR.out k hlt
              rw [hf1] at d0
              rw [hf2] at d2
              have e0 := (hbw.cell (p := ⟨ag, k * 3, none⟩) hag).trans d0
              have e2 := (hbw.cell (p := ⟨ag, k * 3 + 2, none⟩) hag).trans d2
              have hpl := HNL.out (XS.take k)
              obtain ⟨uh, hcu, hIu, _⟩ := hG.row f (by rw [hpl]; exact hf3)
              obtain ⟨row, hrow⟩ : ∃ row, (nextG (XS.take k) n).getD f [] = row := ⟨_, rfl⟩
              rw [hrow] at hIu hf4
              have hrl : row.length ≤ 20000 := by
                rw [← hrow, nextG_at _ hf3, List.length_map]
                have h8 := List.length_filter_le (fun x : ArcT => decide (x.1 = (f : Int))) (XS.take k)
                have h7 := List.length_take_le k XS
                omega
              have HF4 := Lib.hid hf4
              have HUG := Lib.hid (fun g (hg : uh.ownBlock = some g) => hIu.own_ge hg)
              have bA : Below wy.heap.size wy.drew (wy.drew.alloc (.cells #[.int .i64 tq] 2)) := (Below.refl wy.drew.heap.size wy.drew).alloc (Nat.le_refl _) _
              have HIA := Lib.hid (show Ints (wy.drew.alloc (.cells #[.int .i64 tq] 2)) gB uh row from Ints.below (w := wy.drew) hIu bA)
              have HGA := Lib.hid (show Grid 24 (wy.drew.alloc (.cells #[.int .i64 tq] 2)) gB wy.heap.size (.slice (some ⟨gn, 0, none⟩) n gc) (nextG (XS.take k) n) from Grid.below (w := wy.drew) hG bA)
              have HNW := Lib.hid (show (wy.drew.alloc (.cells #[.int .i64 tq] 2)).cell? ⟨wy.heap.size, 0, none⟩ = some (.int .i64 tq) from (Blk.made wy.drew #[.int .i64 tq] 2).cell 0)
              have HCU := Lib.hid (show (wy.drew.alloc (.cells #[.int .i64 tq] 2)).cell? ⟨gn, f, none⟩ = some uh from (bA.cell (p := ⟨gn, f, none⟩) (cell_block hcu)).trans hcu)
              have HAR := Lib.hid (show (wy.drew.alloc (.cells #[.int .i64 tq] 2)).cell? ⟨ag, k * 3, none⟩ = some (.int .i64 f) ∧ (wy.drew.alloc (.cells #[.int .i64 tq] 2)).cell? ⟨ag, k * 3 + 2, none⟩ = some (.int .i64 tq) from ⟨(bA.cell (p := ⟨_, _, none⟩) (cell_block e0)).trans e0, (bA.cell (p := ⟨_, _, none⟩) (cell_block e2)).trans e2⟩)
              have HBB := Lib.hid ((Below.drew hb).alloc (show gB ≤ wy.drew.heap.size from hgs) (.cells #[.int .i64 tq] 2))
              have HPL := Lib.hid hpl
              have hszX : gB ≤ (wy.drew.alloc (.cells #[.int .i64 tq] 2)).heap.size := by simp; omega
              have HAG := Lib.hid (show gn ≠ ag from by omega)
              have HAG2 := Lib.hid (show some ag ≠ uh.ownBlock from fun e => by have := hIu.own_ge e.symm; omega)
              have hrl2 : row.length ≤ 1000000 := by omega
              have cu0 : wy.cell? ⟨gn, f, none⟩ = some uh := hcu
              have cu1 := HCU.out
              have cu2 : (wy.alloc (.cells #[.int .i64 tq] 2)).cell? ⟨gn, f, none⟩ = some uh := HCU.out
              clear HINV HALL HEND HNX HLT HAL HA1 HNA HFR HNL HN0 HAC hG hb iQ iO2 bQ hbw hIu hf4 hrow bA d0 d1 d2 hf1 hf2 hpl hcu
              go_upto_region 16 with fail
              refine wp_region_held_drew (S := (fun W' => W'.cell? ⟨ag, k * 3, none⟩ = some (.int .i64 f) ∧ W'.cell? ⟨ag, k * 3 + 2, none⟩ = some (.int .i64 tq))) (by kernel_rfl) ?_ (fun hHeld => ?_)
              · (try dsimp only); exact ⟨e0, e2⟩
              refine wpAnyH_take (i := 0) (oi := { dst := some 49, op := Go.Op.move (Go.Operand.tmp 10), type := 70, pos := "l09_graphs.go:138", after := #[], guard := none }) (v := ?_) rfl (by kernel_rfl) (by kernel_rfl) (by kernel_rfl) (fun _ _ _ h => h) (Or.inl ⟨by rfl, ?_⟩) (by assumption) ?_
              rotate_left
              · (intro w hSw; (try dsimp only at hSw); go_simp); (try with_reducible rfl)
              try simp only [Act.put, List.setIfInBounds_toArray, List.set_cons_zero, List.set_cons_succ]
              refine wpAnyH_take (i := 1) (oi := { dst := some 50, op := Go.Op.move (Go.Operand.tmp 1), type := 88, pos := "l09_graphs.go:138", after := #[], guard := none }) (v := ?_) rfl (by kernel_rfl) (by kernel_rfl) (by kernel_rfl) (fun _ _ _ h => h) (Or.inl ⟨by rfl, ?_⟩) (by assumption) ?_
              rotate_left
              · (intro w hSw; (try dsimp only at hSw); go_simp); (try with_reducible rfl)
              try simp only [Act.put, List.setIfInBounds_toArray, List.set_cons_zero, List.set_cons_succ]
              refine wpAnyH_take (i := 2) (oi := { dst := some 51, op := Go.Op.move (Go.Operand.tmp 12), type := 3, pos := "l09_graphs.go:138", after := #[], guard := none }) (v := ?_) rfl (by kernel_rfl) (by kernel_rfl) (by kernel_rfl) (fun _ _ _ h => h) (Or.inl ⟨by rfl, ?_⟩) (by assumption) ?_
              rotate_left
              · (intro w hSw; (try dsimp only at hSw); go_simp); (try with_reducible rfl)
              try simp only [Act.put, List.setIfInBounds_toArray, List.set_cons_zero, List.set_cons_succ]
              refine wpAnyH_take (i := 3) (oi := { dst := some 52, op := Go.Op.indexAddr 88 (Go.Operand.tmp 50) (Go.Operand.tmp 51), type := 0, pos := "l09_graphs.go:138", after := #[{ on := 1, ground := Go.Ground.data }, { on := 2, ground := Go.Ground.data }], guard := none }) (v := ?_) rfl (by kernel_rfl) (by kernel_rfl) (by kernel_rfl) (fun _ _ _ h => h) (Or.inl ⟨by rfl, ?_⟩) (by assumption) ?_
              rotate_left
              · (intro w hSw; (try dsimp only at hSw); go_simp); (try with_reducible rfl)
              try simp only [Act.put, List.setIfInBounds_toArray, List.set_cons_zero, List.set_cons_succ]
              refine wpAnyH_take (i := 4) (oi := { dst := some 53, op := Go.Op.fieldAddr 91 (Go.Operand.tmp 52) 0, type := 0, pos := "l09_graphs.go:138", after := #[{ on := 3, ground := Go.Ground.data }], guard := none }) (v := ?_) rfl (by kernel_rfl) (by kernel_rfl) (by kernel_rfl) (fun _ _ _ h => h) (Or.inl ⟨by rfl, ?_⟩) (by assumption) ?_
              rotate_left
              · (intro w hSw; (try dsimp only at hSw); go_simp); (try with_reducible rfl)
              try simp only [Act.put, List.setIfInBounds_toArray, List.set_cons_zero, List.set_cons_succ]
              refine wpAnyH_take (i := 5) (oi := { dst := some 54, op := Go.Op.load 2 (Go.Operand.tmp 53), type := 2, pos := "l09_graphs.go:138", after := #[{ on := 4, ground := Go.Ground.data }], guard := none }) (v := ?_) rfl (by kernel_rfl) (by kernel_rfl) (by kernel_rfl) (fun _ _ _ h => h) (Or.inl ⟨by rfl, ?_⟩) (by assumption) ?_
              rotate_left
              · (intro w hSw; (try dsimp only at hSw); go_simp); (try with_reducible rfl)
              try simp only [Act.put, List.setIfInBounds_toArray, List.set_cons_zero, List.set_cons_succ]
              refine wpAnyH_take (i := 6) (oi := { dst := some 55, op := Go.Op.move (Go.Operand.tmp 10), type := 70, pos := "l09_graphs.go:138", after := #[], guard := none }) (v := ?_) rfl (by kernel_rfl) (by kernel_rfl) (by kernel_rfl) (fun _ _ _ h => h) (Or.inl ⟨by rfl, ?_⟩) (by assumption) ?_
              rotate_left
              · (intro w hSw; (try dsimp only at hSw); go_simp); (try with_reducible rfl)
              try simp only [Act.put, List.setIfInBounds_toArray, List.set_cons_zero, List.set_cons_succ]
              refine wpAnyH_take (i := 7) (oi := { dst := some 56, op := Go.Op.move (Go.Operand.tmp 1), type := 88, pos := "l09_graphs.go:138", after := #[], guard := none }) (v := ?_) rfl (by kernel_rfl) (by kernel_rfl) (by kernel_rfl) (fun _ _ _ h => h) (Or.inl ⟨by rfl, ?_⟩) (by assumption) ?_
              rotate_left
              · (intro w hSw; (try dsimp only at hSw); go_simp); (try with_reducible rfl)
              try simp only [Act.put, List.setIfInBounds_toArray, List.set_cons_zero, List.set_cons_succ]
              refine wpAnyH_take (i := 8) (oi := { dst := some 57, op := Go.Op.move (Go.Operand.tmp 12), type := 3, pos := "l09_graphs.go:138", after := #[], guard := none }) (v := ?_) rfl (by kernel_rfl) (by kernel_rfl) (by kernel_rfl) (fun _ _ _ h => h) (Or.inl ⟨by rfl, ?_⟩) (by assumption) ?_
              rotate_left
              · (intro w hSw; (try dsimp only at hSw); go_simp); (try with_reducible rfl)
              try simp only [Act.put, List.setIfInBounds_toArray, List.set_cons_zero, List.set_cons_succ]
              refine wpAnyH_take (i := 9) (oi := { dst := some 58, op := Go.Op.indexAddr 88 (Go.Operand.tmp 56) (Go.Operand.tmp 57), type := 0, pos := "l09_graphs.go:138", after := #[{ on := 7, ground := Go.Ground.data }, { on := 8, ground := Go.Ground.data }], guard := none }) (v := ?_) rfl (by kernel_rfl) (by kernel_rfl) (by kernel_rfl) (fun _ _ _ h => h) (Or.inl ⟨by rfl, ?_⟩) (by assumption) ?_
              rotate_left
              · (intro w hSw; (try dsimp only at hSw); go_simp); (try with_reducible rfl)
              try simp only [Act.put, List.setIfInBounds_toArray, List.set_cons_zero, List.set_cons_succ]
              refine wpAnyH_take (i := 10) (oi := { dst := some 59, op := Go.Op.fieldAddr 91 (Go.Operand.tmp 58) 0, type := 0, pos := "l09_graphs.go:138", after := #[{ on := 9, ground := Go.Ground.data }], guard := none }) (v := ?_) rfl (by kernel_rfl) (by kernel_rfl) (by kernel_rfl) (fun _ _ _ h => h) (Or.inl ⟨by rfl, ?_⟩) (by assumption) ?_
              rotate_left
              · (intro w hSw; (try dsimp only at hSw); go_simp); (try with_reducible rfl)
              try simp only [Act.put, List.setIfInBounds_toArray, List.set_cons_zero, List.set_cons_succ]
              refine wpAnyH_take (i := 11) (oi := { dst := some 60, op := Go.Op.load 2 (Go.Operand.tmp 59), type := 2, pos := "l09_graphs.go:138", after := #[{ on := 10, ground := Go.Ground.data }], guard := none }) (v := ?_) rfl (by kernel_rfl) (by kernel_rfl) (by kernel_rfl) (fun _ _ _ h => h) (Or.inl ⟨by rfl, ?_⟩) (by assumption) ?_
              rotate_left
              · (intro w hSw; (try dsimp only at hSw); go_simp); (try with_reducible rfl)
              try simp only [Act.put, List.setIfInBounds_toArray, List.set_cons_zero, List.set_cons_succ]
              refine wpAnyH_take (i := 12) (oi := { dst := some 61, op := Go.Op.indexAddr 70 (Go.Operand.tmp 55) (Go.Operand.tmp 60), type := 0, pos := "l09_graphs.go:138", after := #[{ on := 6, ground := Go.Ground.data }, { on := 11, ground := Go.Ground.data }], guard := none }) (v := ?_) rfl (by kernel_rfl) (by kernel_rfl) (by kernel_rfl) (fun _ _ _ h => h) (Or.inl ⟨by rfl, ?_⟩) (by assumption) ?_
              rotate_left
              · (intro w hSw; (try dsimp only at hSw); go_simp); (try with_reducible rfl)
              try simp only [Act.put, List.setIfInBounds_toArray, List.set_cons_zero, List.set_cons_succ]
              refine wpAnyH_take (i := 14) (oi := { dst := some 63, op := Go.Op.move (Go.Operand.tmp 1), type := 88, pos := "l09_graphs.go:138", after := #[], guard := none }) (v := ?_) rfl (by kernel_rfl) (by kernel_rfl) (by kernel_rfl) (fun _ _ _ h => h) (Or.inl ⟨by rfl, ?_⟩) (by assumption) ?_
              rotate_left
              · (intro w hSw; (try dsimp only at hSw); go_simp); (try with_reducible rfl)
              try simp only [Act.put, List.setIfInBounds_toArray, List.set_cons_zero, List.set_cons_succ]
              refine wpAnyH_take (i := 15) (oi := { dst := some 64, op := Go.Op.move (Go.Operand.tmp 12), type := 3, pos := "l09_graphs.go:138", after := #[], guard := none }) (v := ?_) rfl (by kernel_rfl) (by kernel_rfl) (by kernel_rfl) (fun _ _ _ h => h) (Or.inl ⟨by rfl, ?_⟩) (by assumption) ?_
              rotate_left
              · (intro w hSw; (try dsimp only at hSw); go_simp); (try with_reducible rfl)
              try simp only [Act.put, List.setIfInBounds_toArray, List.set_cons_zero, List.set_cons_succ]
              refine wpAnyH_take (i := 16) (oi := { dst := some 65, op := Go.Op.indexAddr 88 (Go.Operand.tmp 63) (Go.Operand.tmp 64), type := 0, pos := "l09_graphs.go:138", after := #[{ on := 14, ground := Go.Ground.data }, { on := 15, ground := Go.Ground.data }], guard := none }) (v := ?_) rfl (by kernel_rfl) (by kernel_rfl) (by kernel_rfl) (fun _ _ _ h => h) (Or.inl ⟨by rfl, ?_⟩) (by assumption) ?_
              rotate_left
              · (intro w hSw; (try dsimp only at hSw); go_simp); (try with_reducible rfl)
              try simp only [Act.put, List.setIfInBounds_toArray, List.set_cons_zero, List.set_cons_succ]
              refine wpAnyH_take (i := 17) (oi := { dst := some 66, op := Go.Op.fieldAddr 91 (Go.Operand.tmp 65) 2, type := 0, pos := "l09_graphs.go:138", after := #[{ on := 16, ground := Go.Ground.data }], guard := none }) (v := ?_) rfl (by kernel_rfl) (by kernel_rfl) (by kernel_rfl) (fun _ _ _ h => h) (Or.inl ⟨by rfl, ?_⟩) (by assumption) ?_
              rotate_left
              · (intro w hSw; (try dsimp only at hSw); go_simp); (try with_reducible rfl)
              try simp only [Act.put, List.setIfInBounds_toArray, List.set_cons_zero, List.set_cons_succ]
              refine wpAnyH_take (i := 18) (oi := { dst := some 67, op := Go.Op.load 2 (Go.Operand.tmp 66), type := 2, pos := "l09_graphs.go:138", after := #[{ on := 17, ground := Go.Ground.data }], guard := none }) (v := ?_) rfl (by kernel_rfl) (by kernel_rfl) (by kernel_rfl) (fun _ _ _ h => h) (Or.inl ⟨by rfl, ?_⟩) (by assumption) ?_
              rotate_left
              · (intro w hSw; (try dsimp only at hSw); go_simp); (try with_reducible rfl)
              try simp only [Act.put, List.setIfInBounds_toArray, List.set_cons_zero, List.set_cons_succ]
              refine wpAnyH_ready (rs := [13, 19]) (by kernel_rfl) (by simp) ?_
              refine AllReadyH.cons (o := { dst := some 62, op := Go.Op.load 24 (Go.Operand.tmp 61), type := 24, pos := "l09_graphs.go:138", after := #[{ on := 12, ground := Go.Ground.data }], guard := none }) rfl (fun K hK => ?_) ?_
              · go_simp
                refine hK.out _ _ ?_ (fun hHeld2 => ?_)
                · (try dsimp only); exact ⟨e0, e2⟩
                clear hK K hHeld
                have hHeld := hHeld2
                clear hHeld2
                try simp only [Act.put, List.setIfInBounds_toArray, List.set_cons_zero, List.set_cons_succ]
                refine wpAnyH_ready (rs := [19]) (by kernel_rfl) (by simp) ?_
                refine AllReadyH.cons (o := { dst := some 68, op := Go.Op.buildSlice 24 1 #[(0, Go.Operand.tmp 67)], type := 24, pos := "l09_graphs.go:138", after := #[{ on := 18, ground := Go.Ground.data }], guard := none }) rfl (fun K hK => ?_) AllReadyH.nil
                go_simp
                refine hK.out _ _ ?_ (fun hHeld2 => ?_)
                · (try dsimp only); exact HAR.out
                clear hK K hHeld
                have hHeld := hHeld2
                clear hHeld2
                try simp only [Act.put, List.setIfInBounds_toArray, List.set_cons_zero, List.set_cons_succ]
                refine wpAnyH_ready (rs := [20]) (by kernel_rfl) (by simp) ?_
                refine AllReadyH.cons (o := { dst := some 69, op := Go.Op.call { callee := Go.Callee.builtin Go.Builtin.append, args := #[Go.Operand.tmp 62, Go.Operand.tmp 68], argTypes := #[24, 24] }, type := 24, pos := "l09_graphs.go:138", after := #[{ on := 13, ground := Go.Ground.data }, { on := 19, ground := Go.Ground.data }], guard := none }) rfl (fun K hK => ?_) AllReadyH.nil
                (refine step_append_one _ (by rfl) _ _ (by rfl) gB _ _ (by rfl) HIA.out wy.heap.size 1 (tq : Int) (by rfl) HNW.out hrl2 hszX ?_; intro g4 c4 l4 w4 i4 gr4 ho4)
                refine hK.out _ _ ?_ (fun hHeld2 => ?_)
                · (try dsimp only); exact ⟨grown_cell gr4 HAR.out.1 HAG2.out, grown_cell gr4 HAR.out.2 HAG2.out⟩
                clear hK K hHeld
                have hHeld := hHeld2
                clear hHeld2
                try simp only [Act.put, List.setIfInBounds_toArray, List.set_cons_zero, List.set_cons_succ]
                refine wpAnyH_take (i := 21) (oi := { dst := some 70, op := Go.Op.indexAddr 70 (Go.Operand.tmp 49) (Go.Operand.tmp 54), type := 0, pos := "l09_graphs.go:138", after := #[{ on := 0, ground := Go.Ground.data }, { on := 5, ground := Go.Ground.data }, { on := 0, ground := Go.Ground.phase }, { on := 1, ground := Go.Ground.phase }, { on := 2, ground := Go.Ground.phase }, { on := 3, ground := Go.Ground.phase }, { on := 4, ground := Go.Ground.phase }, { on := 5, ground := Go.Ground.phase }, { on := 6, ground := Go.Ground.phase }, { on := 7, ground := Go.Ground.phase }, { on := 8, ground := Go.Ground.phase }, { on := 9, ground := Go.Ground.phase }, { on := 10, ground := Go.Ground.phase }, { on := 11, ground := Go.Ground.phase }, { on := 12, ground := Go.Ground.phase }, { on := 13, ground := Go.Ground.phase }, { on := 14, ground := Go.Ground.phase }, { on := 15, ground := Go.Ground.phase }, { on := 16, ground := Go.Ground.phase }, { on := 17, ground := Go.Ground.phase }, { on := 18, ground := Go.Ground.phase }, { on := 19, ground := Go.Ground.phase }, { on := 20, ground := Go.Ground.phase }], guard := none }) (v := ?_) rfl (by kernel_rfl) (by kernel_rfl) (by kernel_rfl) (fun _ _ _ h => h) (Or.inl ⟨by rfl, ?_⟩) (by assumption) ?_
                rotate_left
                · (intro w hSw; (try dsimp only at hSw); go_simp); (try with_reducible rfl)
                try simp only [Act.put, List.setIfInBounds_toArray, List.set_cons_zero, List.set_cons_succ]
                refine wpAnyH_ready (rs := [22]) (by kernel_rfl) (by simp) ?_
                refine AllReadyH.cons (o := { dst := none, op := Go.Op.store 24 (Go.Operand.tmp 70) (Go.Operand.tmp 69), type := 0, pos := "l09_graphs.go:138", after := #[{ on := 21, ground := Go.Ground.data }, { on := 20, ground := Go.Ground.data }, { on := 20, ground := Go.Ground.chain }, { on := 0, ground := Go.Ground.phase }, { on := 1, ground := Go.Ground.phase }, { on := 2, ground := Go.Ground.phase }, { on := 3, ground := Go.Ground.phase }, { on := 4, ground := Go.Ground.phase }, { on := 5, ground := Go.Ground.phase }, { on := 6, ground := Go.Ground.phase }, { on := 7, ground := Go.Ground.phase }, { on := 8, ground := Go.Ground.phase }, { on := 9, ground := Go.Ground.phase }, { on := 10, ground := Go.Ground.phase }, { on := 11, ground := Go.Ground.phase }, { on := 12, ground := Go.Ground.phase }, { on := 13, ground := Go.Ground.phase }, { on := 14, ground := Go.Ground.phase }, { on := 15, ground := Go.Ground.phase }, { on := 16, ground := Go.Ground.phase }, { on := 17, ground := Go.Ground.phase }, { on := 18, ground := Go.Ground.phase }, { on := 19, ground := Go.Ground.phase }, { on := 20, ground := Go.Ground.phase }], guard := none }) rfl (fun K hK => ?_) AllReadyH.nil
                obtain ⟨c7, f7⟩ := grid_head HGA.out (by rw [HPL.out]; exact hf3) HCU.out gr4
                go_simp
                refine hK.out _ _ ?_ (fun hHeld2 => ?_)
                · (try dsimp only); exact ⟨(World.cell?_setCell_far _ _ _ _ HAG.out).trans (grown_cell gr4 HAR.out.1 HAG2.out), (World.cell?_setCell_far _ _ _ _ HAG.out).trans (grown_cell gr4 HAR.out.2 HAG2.out)⟩
                clear hK K hHeld
                have hHeld := hHeld2
                clear hHeld2
                try simp only [Act.put, List.setIfInBounds_toArray, List.set_cons_zero, List.set_cons_succ]
                refine wpAnyH_done (by kernel_rfl) ?_ _
                go_wp2
                go_roundw
                case rel =>
                  refine ⟨k + 1, by omega, by go_num, ?_, ?_⟩
                  · rw [HF4.out]
                    exact Grid.swap (by decide) HGA.out f (by rw [HPL.out]; exact hf3) HCU.out i4 gr4 (ho4.imp (fun e => e.symm) (fun e g hg => by have h9 : g4 = g := Option.some.inj hg; rw [← h9, e]; exact Nat.le_refl _)) (by simp) (by simp)
                  · exact (HBB.out.grown gr4 hszX (fun q hq => HUG.out q hq)).setCell (p := ⟨gn, f, none⟩) hgn1 _
                case measure => simp [intOf]; omega
              refine AllReadyH.cons (o := { dst := some 68, op := Go.Op.buildSlice 24 1 #[(0, Go.Operand.tmp 67)], type := 24, pos := "l09_graphs.go:138", after := #[{ on := 18, ground := Go.Ground.data }], guard := none }) rfl (fun K hK => ?_) ?_
              · go_simp
                refine hK.out _ _ ?_ (fun hHeld2 => ?_)
                · (try dsimp only); exact HAR.out
                clear hK K hHeld
                have hHeld := hHeld2
                clear hHeld2
                try simp only [Act.put, List.setIfInBounds_toArray, List.set_cons_zero, List.set_cons_succ]
                refine wpAnyH_ready (rs := [13]) (by kernel_rfl) (by simp) ?_
                refine AllReadyH.cons (o := { dst := some 62, op := Go.Op.load 24 (Go.Operand.tmp 61), type := 24, pos := "l09_graphs.go:138", after := #[{ on := 12, ground := Go.Ground.data }], guard := none }) rfl (fun K hK => ?_) AllReadyH.nil
                go_simp
                refine hK.out _ _ ?_ (fun hHeld2 => ?_)
                · (try dsimp only); exact HAR.out
                clear hK K hHeld
                have hHeld := hHeld2
                clear hHeld2
                try simp only [Act.put, List.setIfInBounds_toArray, List.set_cons_zero, List.set_cons_succ]
                refine wpAnyH_ready (rs := [20]) (by kernel_rfl) (by simp) ?_
                refine AllReadyH.cons (o := { dst := some 69, op := Go.Op.call { callee := Go.Callee.builtin Go.Builtin.append, args := #[Go.Operand.tmp 62, Go.Operand.tmp 68], argTypes := #[24, 24] }, type := 24, pos := "l09_graphs.go:138", after := #[{ on := 13, ground := Go.Ground.data }, { on := 19, ground := Go.Ground.data }], guard := none }) rfl (fun K hK => ?_) AllReadyH.nil
                (refine step_append_one _ (by rfl) _ _ (by rfl) gB _ _ (by rfl) HIA.out wy.heap.size 1 (tq : Int) (by rfl) HNW.out hrl2 hszX ?_; intro g4 c4 l4 w4 i4 gr4 ho4)
                refine hK.out _ _ ?_ (fun hHeld2 => ?_)
                · (try dsimp only); exact ⟨grown_cell gr4 HAR.out.1 HAG2.out, grown_cell gr4 HAR.out.2 HAG2.out⟩
                clear hK K hHeld
                have hHeld := hHeld2
                clear hHeld2
                try simp only [Act.put, List.setIfInBounds_toArray, List.set_cons_zero, List.set_cons_succ]
                refine wpAnyH_take (i := 21) (oi := { dst := some 70, op := Go.Op.indexAddr 70 (Go.Operand.tmp 49) (Go.Operand.tmp 54), type := 0, pos := "l09_graphs.go:138", after := #[{ on := 0, ground := Go.Ground.data }, { on := 5, ground := Go.Ground.data }, { on := 0, ground := Go.Ground.phase }, { on := 1, ground := Go.Ground.phase }, { on := 2, ground := Go.Ground.phase }, { on := 3, ground := Go.Ground.phase }, { on := 4, ground := Go.Ground.phase }, { on := 5, ground := Go.Ground.phase }, { on := 6, ground := Go.Ground.phase }, { on := 7, ground := Go.Ground.phase }, { on := 8, ground := Go.Ground.phase }, { on := 9, ground := Go.Ground.phase }, { on := 10, ground := Go.Ground.phase }, { on := 11, ground := Go.Ground.phase }, { on := 12, ground := Go.Ground.phase }, { on := 13, ground := Go.Ground.phase }, { on := 14, ground := Go.Ground.phase }, { on := 15, ground := Go.Ground.phase }, { on := 16, ground := Go.Ground.phase }, { on := 17, ground := Go.Ground.phase }, { on := 18, ground := Go.Ground.phase }, { on := 19, ground := Go.Ground.phase }, { on := 20, ground := Go.Ground.phase }], guard := none }) (v := ?_) rfl (by kernel_rfl) (by kernel_rfl) (by kernel_rfl) (fun _ _ _ h => h) (Or.inl ⟨by rfl, ?_⟩) (by assumption) ?_
                rotate_left
                · (intro w hSw; (try dsimp only at hSw); go_simp); (try with_reducible rfl)
                try simp only [Act.put, List.setIfInBounds_toArray, List.set_cons_zero, List.set_cons_succ]
                refine wpAnyH_ready (rs := [22]) (by kernel_rfl) (by simp) ?_
                refine AllReadyH.cons (o := { dst := none, op := Go.Op.store 24 (Go.Operand.tmp 70) (Go.Operand.tmp 69), type := 0, pos := "l09_graphs.go:138", after := #[{ on := 21, ground := Go.Ground.data }, { on := 20, ground := Go.Ground.data }, { on := 20, ground := Go.Ground.chain }, { on := 0, ground := Go.Ground.phase }, { on := 1, ground := Go.Ground.phase }, { on := 2, ground := Go.Ground.phase }, { on := 3, ground := Go.Ground.phase }, { on := 4, ground := Go.Ground.phase }, { on := 5, ground := Go.Ground.phase }, { on := 6, ground := Go.Ground.phase }, { on := 7, ground := Go.Ground.phase }, { on := 8, ground := Go.Ground.phase }, { on := 9, ground := Go.Ground.phase }, { on := 10, ground := Go.Ground.phase }, { on := 11, ground := Go.Ground.phase }, { on := 12, ground := Go.Ground.phase }, { on := 13, ground := Go.Ground.phase }, { on := 14, ground := Go.Ground.phase }, { on := 15, ground := Go.Ground.phase }, { on := 16, ground := Go.Ground.phase }, { on := 17, ground := Go.Ground.phase }, { on := 18, ground := Go.Ground.phase }, { on := 19, ground := Go.Ground.phase }, { on := 20, ground := Go.Ground.phase }], guard := none }) rfl (fun K hK => ?_) AllReadyH.nil
                obtain ⟨c7, f7⟩ := grid_head HGA.out (by rw [HPL.out]; exact hf3) HCU.out gr4
                go_simp
                refine hK.out _ _ ?_ (fun hHeld2 => ?_)
                · (try dsimp only); exact ⟨(World.cell?_setCell_far _ _ _ _ HAG.out).trans (grown_cell gr4 HAR.out.1 HAG2.out), (World.cell?_setCell_far _ _ _ _ HAG.out).trans (grown_cell gr4 HAR.out.2 HAG2.out)⟩
                clear hK K hHeld
                have hHeld := hHeld2
                clear hHeld2
                try simp only [Act.put, List.setIfInBounds_toArray, List.set_cons_zero, List.set_cons_succ]
                refine wpAnyH_done (by kernel_rfl) ?_ _
                go_wp2
                go_roundw
                case rel =>
                  refine ⟨k + 1, by omega, by go_num, ?_, ?_⟩
                  · rw [HF4.out]
                    exact Grid.swap (by decide) HGA.out f (by rw [HPL.out]; exact hf3) HCU.out i4 gr4 (ho4.imp (fun e => e.symm) (fun e g hg => by have h9 : g4 = g := Option.some.inj hg; rw [← h9, e]; exact Nat.le_refl _)) (by simp) (by simp)
                  · exact (HBB.out.grown gr4 hszX (fun q hq => HUG.out q hq)).setCell (p := ⟨gn, f, none⟩) hgn1 _
                case measure => simp [intOf]; omega
              exact AllReadyH.nil
            · obtain rfl : k = XS.length := by omega
              rw [List.take_length] at hG
              have iO4 : Ints wy w.heap.size (.slice (some ⟨og, 0, none⟩) n oc) s0.1 := iO2.block fun g hg hlt => hb.block g (by have h9 : og = g := Option.some.inj hg; omega)
              have iQ4 : Ints wy w.heap.size (.slice (some ⟨qb, 0, none⟩) 1 1) (nI s0.2) := iQ.block fun g hg hlt => hb.block g (by have h9 : qb = g := Option.some.inj hg; omega)
              have b4 := bQ.trans (hb.mono hwB)
              obtain ⟨N4, hN4⟩ : ∃ x, x = wy.heap.size := ⟨_, rfl⟩
              rw [← hN4] at hG
              have hNQ : Hid ((Value.slice (some ⟨qb, 0, none⟩) 1 1).ownBlock ≠ some og ∧ ((Value.slice (some ⟨qb, 0, none⟩) 1 1).ownBlock = some qb ∨ ∀ g, (Value.slice (some ⟨qb, 0, none⟩) 1 1).ownBlock = some g → N4 ≤ g)) := Lib.hid ⟨fun e => by have h9 : qb = og := Option.some.inj e; omega, .inl rfl⟩
              have hN4s : N4 ≤ wy.heap.size := by omega
              have hPL := HNL.out XS
              have HPS := Lib.hid (fun i (hi : i < n) => HNA.out i hi)
              have h0 : 0 ≤ s0.2.length := Nat.zero_le _
              generalize nextG XS n = PS at *
              clear iO2 iQ bQ hb hN4 HFR HAC HNL HN0 HNA
              go_wp2
              go_loopw [9, 13] (fun q i wz => ∃ (k : Nat) (s : List Int × List Nat), Hid (s = runQ G s0 k) ∧ k ≤ s.2.length ∧ i = .int .i64 k ∧ Ints wz w.heap.size (.slice (some ⟨og, 0, none⟩) n oc) s.1 ∧ Ints wz w.heap.size q (nI s.2) ∧ Hid (q.ownBlock ≠ some og ∧ (q.ownBlock = some qb ∨ ∀ g, q.ownBlock = some g → N4 ≤ g)) ∧ Grid 24 wz gB N4 (.slice (some ⟨gn, 0, none⟩) n gc) PS ∧ N4 ≤ wz.heap.size ∧ Below w.heap.size w wz) (fun _ i _ => n - (intOf i).toNat)
              case atStart => exact ⟨0, s0, Lib.hid rfl, h0, rfl, iO4, iQ4, hNQ, hG, hN4s, b4⟩
              case round =>
                clear iO4 iQ4 hNQ hG hN4s b4 h0
                rename World => wz
                obtain ⟨k, s, hs, hk, rfl, hD, hQ, hN, hG, hNs, hb⟩ := hrel
                have hI := HINV.out k
                rw [← hs.out] at hI
                have hIl := hI.len
                have hIc := hI.cnt
                have hql : (nI s.2).length = s.2.length := by simp [nI]
                obtain ⟨qa, qc, rfl⟩ := ints_slO hQ
                try rw [hql]
                by_cases hlt : k < s.2.length
                · have hlt' : decide (k < s.2.length) = true := decide_eq_true hlt
                  obtain ⟨qg, qc', hqe, _, hqg, _⟩ := Ints.shape2 hQ (by omega)
                  cases hqe
                  have hcq := hQ.cell k (by omega)
                  replace hcq : wz.cell? ⟨qg, k, none⟩ = some (.int .i64 (s.2.getD k 0 : Nat)) := by rw [hcq]; simp [nI, hlt]
                  have hALL := HALL.out k (by rw [← hs.out]; exact hlt)
                  have hNX := HNX.out k (by rw [← hs.out]; exact hlt)
                  rw [← hs.out] at hALL hNX
                  have hat := (hI.mem _ (getD_memQ hlt)).1
                  have HS2 := Lib.hid (fun (A : List Nat) => visitsQ_len (s.2.getD k 0) A s)
                  have HVS := Lib.hid (fun (A : List Nat) j hj => visits_snoc (s.2.getD k 0) s A j hj)
                  have V0 : Hid (s = visitsQ (s.2.getD k 0) s ((G (s.2.getD k 0)).take 0)) := Lib.hid rfl
                  have hAL := HAL.out (s.2.getD k 0)
                  have hA1 := HA1.out (s.2.getD k 0) hat
                  have hLT := HLT.out (s.2.getD k 0) hat
                  have hPS := HPS.out (s.2.getD k 0) hat
                  have HTA := Lib.hid (show (G (s.2.getD k 0)).take (G (s.2.getD k 0)).length = G (s.2.getD k 0) from List.take_length)
                  have HNX1 := Lib.hid hNX
                  have HALL1 := Lib.hid hALL
                  have HLT1 := Lib.hid hLT
                  have HKN := Lib.hid (show k < n from by omega)
                  clear HALL HNX HAL HLT HINV HEND hALL hNX hLT hI hIc HA1 HPS
                  try rw [hql] at hQ
                  try rw [hql] at hN
                  try rw [hql]
                  generalize s.2.getD k 0 = at' at *
                  generalize G at' = A at *
                  obtain ⟨L, hL⟩ : ∃ L, L = A.length := ⟨_, rfl⟩
                  rw [← hL] at hAL HTA hA1
                  have HL := Lib.hid hL
                  have HPS1 := Lib.hid hPS
                  clear hL hPS
                  go_wp2
                  go_loopw [9, 15] (fun q i wy => ∃ (j : Nat) (s' : List Int × List Nat), j ≤ L ∧ i = .int .i64 j ∧ Hid (s' = visitsQ at' s (A.take j)) ∧ Ints wy w.heap.size (.slice (some ⟨og, 0, none⟩) n oc) s'.1 ∧ Ints wy w.heap.size q (nI s'.2) ∧ Hid (q.ownBlock ≠ some og ∧ (q.ownBlock = some qb ∨ ∀ g, q.ownBlock = some g → N4 ≤ g)) ∧ Grid 24 wy gB N4 (.slice (some ⟨gn, 0, none⟩) n gc) PS ∧ N4 ≤ wy.heap.size ∧ Below w.heap.size w wy) (fun _ i _ => L - (intOf i).toNat)
                  case atStart => exact ⟨0, s, Nat.zero_le _, rfl, V0, hD, hQ, hN, hG, hNs, hb⟩
                  case round =>
                    clear hD hQ hN hb V0 hcq hG hNs
                    rename World => wx
                    obtain ⟨j, s', hj, rfl, hs', hD, hQ, hN, hG, hNs, hb⟩ := hrel
                    have hALL := HALL1.out j
                    rw [← hs'.out] at hALL
                    obtain ⟨hI, hmem⟩ := hALL
                    have hIl := hI.len
                    have hIc := hI.cnt
                    obtain ⟨uh, hcu, hIu, _⟩ := hG.row at' (by rw [hPL]; exact hat)
                    rw [HPS1.out] at hIu
                    have hnl : (nI A).length = L := by have := HL.out; simp [nI, this]
                    obtain ⟨rg, rc, hue, hrg1, hrg2, _⟩ := Ints.shape2 hIu (by omega)
                    subst hue
                    rw [hnl] at hcu hIu
                    by_cases hjl : j < L
                    · have hjl' : decide (j < L) = true := decide_eq_true hjl
                      have hjA : j < A.length := by have := HL.out; omega
                      have hto := HLT1.out j hjA
                      have hVS := HVS.out A j hjA
                      rw [← hs'.out] at hVS
                      have cr := hIu.cell j (by rw [hnl]; exact hjl)
                      replace cr : wx.cell? ⟨rg, j, none⟩ = some (.int .i64 (A.getD j 0 : Nat)) := by rw [cr]; simp [nI, hjA]
                      have cto := hD.cell (A.getD j 0) (by rw [hIl]; exact hto)
                      have cat := hD.cell at' (by rw [hIl]; exact hat)
                      have fto := hD.free (A.getD j 0)
                      have lo := hI.low (A.getD j 0)
                      have hag := (hI.mem at' hmem).2
                      have hatop := hI.top at' hat
                      have HVS1 := Lib.hid hVS
                      have hqs := hb.size
                      have HIc := Lib.hid hIc
                      clear hVS
                      generalize A.getD j 0 = tq at *
                      by_cases hm : s'.1.getD tq 0 = -1
                      · have hne : at' ≠ tq := fun e => by rw [← e] at hm; omega
                        have HV2 := Lib.hid (show visitQ at' s' tq = (s'.1.set tq (s'.1.getD at' 0 + 1), s'.2 ++ [tq]) from by unfold visitQ; rw [if_pos hm])
                        rw [hm] at cto
                        have iD3 := hD.set tq (s'.1.getD at' 0 + 1)
                        have hsl : s'.2.length ≤ 1024 := by omega
                        have hwr : IntKind.i64.wrap (s'.1.getD at' 0 + 1) = s'.1.getD at' 0 + 1 := IntWalk.i64_in _ (by omega)
                        have hogx := hD.under og rfl
                        clear hI hmem hIl lo hag hatop
                        generalize s'.1.getD at' 0 = dv at *
                        obtain ⟨wq, hwq⟩ : ∃ wq, wx.setCell ⟨og, tq, none⟩ (.int .i64 (dv + 1)) = wq := ⟨_, rfl⟩
                        have hsz : wq.heap.size = wx.heap.size := by rw [← hwq]; simp
                        have iD4 : Ints wq w.heap.size (.slice (some ⟨og, 0, none⟩) n oc) (s'.1.set tq (dv + 1)) := by rw [← hwq]; exact iD3
                        have iQ4 : Ints wq w.heap.size u9 (nI s'.2) := by rw [← hwq]; exact hQ.block fun g hg _ => Below.heap_setCell _ _ _ _ (fun e => hN.out.1 (by rw [hg]; exact congrArg some e))
                        have iG4 : Grid 24 wq gB N4 (.slice (some ⟨gn, 0, none⟩) n gc) PS := by rw [← hwq]; exact hG.keep fun g hlt h1 h2 => Below.heap_setCell _ _ _ _ (by show g ≠ og; omega)
                        have b4 : Below w.heap.size w wq := by rw [← hwq]; exact hb.setCell (p := ⟨og, tq, none⟩) q1 _
                        have hNs4 : N4 ≤ wq.heap.size := by omega
                        have hqs4 : w.heap.size ≤ wq.heap.size := by omega
                        have hll : (nI s'.2).length ≤ 1000000000 := by simp [nI]; omega
                        have HSZ := Lib.hid hsz
                        clear iD3 hD hQ hG hb hsz hne hm
                        go_wp2_with (at_builtin; refine append_intO wq rfl _ _ rfl w.heap.size u9 _ rfl iQ4 (tq : Int) (by first | rfl | (simp; omega)) hll hqs4 ?_; intro v' w12 hQ12 hg12 ho12; refine Hid.out ?_)
                        have hD12 := iD4.block (w' := w12) fun g hg hlt => hg12.block g hlt fun e => by have h9 : og = g := Option.some.inj hg; subst h9; exact hN.out.1 e.symm
                        have hG12 := iG4.keep (w' := w12) fun g hlt k1 k2 => hg12.block g hlt fun e => by
                          rcases hN.out.2 with h9 | h9
                          · rw [h9] at e; have := Option.some.inj e; omega
                          · have := h9 g e.symm; omega
                        have hb12 := b4.grown hg12 hqs4 (fun q hq => iQ4.own_ge hq)
                        have hN12 : Hid (v'.ownBlock ≠ some og ∧ (v'.ownBlock = some qb ∨ ∀ g, v'.ownBlock = some g → N4 ≤ g)) := Lib.hid (by
                          rcases ho12 with h9 | h9
                          · rw [h9]; exact hN.out
                          · rw [h9]
                            have h8 := iD4.under og rfl
                            exact ⟨fun e => by have := Option.some.inj e; omega, .inr fun g e => by have := Option.some.inj e; omega⟩)
                        have hs12 : N4 ≤ w12.heap.size := Nat.le_trans hNs4 hg12.size
                        have hq12 : nI s'.2 ++ [(tq : Int)] = nI (s'.2 ++ [tq]) := by simp [nI]
                        rw [hq12] at hQ12
                        have hS2 : Hid ((s'.1.set tq (dv + 1), s'.2 ++ [tq]) = visitsQ at' s (A.take (j + 1))) := Lib.hid (by rw [HVS1.out, HV2.out])
                        clear iD4 iQ4 iG4 b4 hg12 ho12 hq12
                        refine Lib.hid ?_
                        go_wp2
                        go_roundw
                        case rel => exact ⟨j + 1, _, by omega, by go_num, hS2, hD12, hQ12, hN12, hG12, hs12, hb12⟩
                        case measure => simp [intOf]; omega
                      · have hm' : decide (s'.1.getD tq 0 < 0) = false := decide_eq_false (by omega)
                        have hS2 : Hid (s' = visitsQ at' s (A.take (j + 1))) := Lib.hid (by rw [HVS1.out]; unfold visitQ; rw [if_neg hm])
                        clear hI hmem cat lo hm hag hatop
                        generalize s'.1.getD tq 0 = dt at *
                        go_wp2
                        go_roundw
                        case rel => exact ⟨j + 1, s', by omega, by go_num, hS2, hD, hQ, hN, hG, hNs, hb⟩
                        case measure => simp [intOf]; omega
                    · obtain rfl : j = L := by omega
                      have hsv := hs'.out
                      rw [HTA.out] at hsv
                      have HNS : Hid (s' = runQ G s0 (k + 1)) := Lib.hid (by rw [HNX1.out]; exact hsv)
                      have hl2 : k < s'.2.length := by
                        have := HS2.out A
                        rw [← hsv] at this
                        omega
                      have hkn := HKN.out
                      clear hI hmem hsv HS2 HVS HLT1 HALL1
                      go_wp2
                      go_roundw
                      case rel => exact ⟨k + 1, s', HNS, by omega, by go_num, hD, hQ, hN, hG, hNs, hb⟩
                      case measure => simp [intOf]; omega
                · have hs2 : s.2.length = k := by omega
                  have hfin := HEND.out k (by rw [← hs.out]; exact hs2)
                  rw [← hs.out] at hfin
                  rw [hfin] at hD
                  have hlt' : decide (k < s.2.length) = false := decide_eq_false hlt
                  clear HALL HNX HAL HLT HINV HEND hI hfin hs2
                  go_wp2
                  go_ret
                  exact ⟨_, rfl, hD, hb⟩
end Go.Proofs.YtdghbbnddgngoaaDoor
