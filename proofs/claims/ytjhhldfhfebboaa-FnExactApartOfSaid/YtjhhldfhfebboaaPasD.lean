/- PassesOf, the program's. -/
import Derived.Test.YtjhhldfhfebboaaPasF
import Derived.OwnWalkIn
namespace Go.Proofs.Ytjhhldfhfebboaa
open Go.RowKit Go.Shelf
set_option linter.unusedSimpArgs false
set_option linter.unusedVariables false
attribute [local go_sem] Oper.semAt_some

/-- the beats of the first k throws at which a juggler passes -/
def passL (a : List Pt) (k : Nat) : List Int := ((List.range k).filter (fun i => (a.getD i p0).2)).map (fun i : Nat => (i : Int))
/-- the beats of a list of throws at which the juggler j passes -/
def passM (j : Nat) (xs : List Mt) : List Int := (xs.filter (fun x => decide (x.2.1 = j) && x.1.2)).map (fun x => (x.2.2 : Int))
theorem passM_snoc (j : Nat) (xs : List Mt) (x : Mt) : passM j (xs ++ [x]) = passM j xs ++ (if x.2.1 = j ∧ x.1.2 = true then [(x.2.2 : Int)] else []) := by
  unfold passM
  rw [List.filter_append, List.map_append]
  congr 1
  by_cases h : x.2.1 = j ∧ x.1.2 = true
  · rw [if_pos h]; simp [h.1, h.2]
  · rw [if_neg h]
    have : (decide (x.2.1 = j) && x.1.2) = false := by
      cases hb : (decide (x.2.1 = j) && x.1.2) with
      | false => rfl
      | true => simp at hb; exact absurd hb h
    simp [this]
theorem passM_len (j : Nat) (xs : List Mt) : (passM j xs).length ≤ xs.length := by
  unfold passM
  rw [List.length_map]
  exact List.length_filter_le _ _
theorem passM_same (j : Nat) (a : List Pt) (n : Nat) : passM j (mtsOf j a n) = passL a n := by
  unfold passM passL mtsOf
  rw [List.filter_map, List.map_map]
  congr 1
  congr 1
  funext i
  simp
theorem passM_other (j k : Nat) (a : List Pt) (n : Nat) (h : j ≠ k) : passM j (mtsOf k a n) = [] := by
  unfold passM mtsOf
  rw [List.map_eq_nil_iff, List.filter_eq_nil_iff]
  intro x hx
  obtain ⟨i, _, rfl⟩ := List.mem_map.1 hx
  simp; omega
theorem passM_all (n : Nat) (a b : List Pt) : passM 0 (mts n a b) = passL a n ∧ passM 1 (mts n a b) = passL b n := by
  have e : ∀ j, passM j (mts n a b) = passM j (mtsOf 0 a n) ++ passM j (mtsOf 1 b n) := fun j => by
    unfold passM mts
    rw [List.filter_append, List.map_append]
  rw [e, e, passM_same, passM_same, passM_other 0 1 b n (by decide), passM_other 1 0 a n (by decide)]
  simp
theorem heads_own {S : Type} (b B : Nat) (f g : S → List Int) : OwnFrom B (fun (s : S) W => Heads b (f s) (g s) W) := fun s W W' row hs hg hr => by
  obtain ⟨u, v, h1, h2, h3, h4⟩ := hs
  refine ⟨u, v, ?_, h2.block fun q hv hlt => hg.block q hlt fun e => ?_, h3.block fun q hv hlt => hg.block q hlt fun e => ?_, h4⟩
  · exact blk_own (β := Unit) b (fun _ => [u, v]) 59 () W W' row h1 hg (fun r e => (hr r e).2)
  · obtain ⟨o, ho, hc⟩ := (hr q e.symm).2
    exact absurd (h2.row_cells q o hv ho) (by rw [hc]; decide)
  · obtain ⟨o, ho, hc⟩ := (hr q e.symm).2
    exact absurd (h3.row_cells q o hv ho) (by rw [hc]; decide)
theorem heads_alloc {b : Nat} {A B : List Int} {W : World} (h : Heads b A B W) (o : Obj) : Heads b A B (W.alloc o) := by
  obtain ⟨u, v, h1, h2, h3, h4⟩ := h
  exact ⟨u, v, h1.alloc o, h2.alloc o, h3.alloc o, h4⟩
theorem heads_nil {b : Nat} {W : World} (h : Blk W b [.slice none 0 0, .slice none 0 0] 59) : Heads b [] [] W :=
  ⟨_, _, h, Ints.nil _ _, Ints.nil _ _, fun g hg => by simp [Value.ownBlock] at hg⟩

set_option maxRecDepth 100000 in
set_option maxHeartbeats 4000000 in
theorem passesOf_row (ga gb ca cb len : Nat) (a b : List Pt) (w : World) (h1 : 1 ≤ len) (h8 : len ≤ 8) (hok : (mts len a b).all (fun x => okPt x.1) = true) (hra : ReadP w.heap.size w ga len a) (hrb : ReadP w.heap.size w gb len b)
    (hV : ∀ w', Below w.heap.size w w' → Calls Try.prog 45 #[.agg #[.slice (some ⟨ga, 0, none⟩) len ca, .slice (some ⟨gb, 0, none⟩) len cb]] w' fun e w'' => e = .returned (.bool true) ∧ Below w'.heap.size w' w'') :
    CallsIn Fence.wide 6 Try.prog 14 #[.agg #[.slice (some ⟨ga, 0, none⟩) len ca, .slice (some ⟨gb, 0, none⟩) len cb]] w fun e w' => ∃ u v, e = .returned (.tuple #[u, v, .int .i64 0]) ∧ Ints w' w.heap.size u (passL a len) ∧ Ints w' w.heap.size v (passL b len) ∧ Apart u v ∧ Below w.heap.size w w' := by
  refine callsIn_of_wp_marks Try.func14 rfl trivial ?_ rfl
  simp only [Try.ntmps14, List.size_toArray, List.length_cons, List.length_nil, Nat.reduceAdd, Nat.reduceSub, Array.replicate_succ, Array.replicate_zero, List.push_toArray, List.append_toArray, List.nil_append, List.cons_append]
  gi_wp2_with (first
    | (refine ⟨trivial, ?_⟩; gi_at_call 45; refine (callsIn_wide.2 (hV _ ?_)).mono ?_; rotate_left; rintro e w1 ⟨rfl, b1⟩; have bP : Blk w1 w.heap.size [.slice (some ⟨ga, 0, none⟩) len ca, .slice (some ⟨gb, 0, none⟩) len cb] 31 := (Blk.made w #[.slice (some ⟨ga, 0, none⟩) len ca, .slice (some ⟨gb, 0, none⟩) len cb] 31).below b1 (by simp); have j0 := (bP.alloc (.cells #[.slice none 0 0, .slice none 0 0] 59)).cell 0; have j1 := (bP.alloc (.cells #[.slice none 0 0, .slice none 0 0] 59)).cell 1; simp only [List.getElem?_cons_zero, List.getElem?_cons_succ] at j0 j1)
    | (refine ⟨trivial, ?_⟩; gi_at_call 51; refine (callsIn_wide.2 (jugglersOf_any _ _ _ _ _ _ _)).mono ?_; rintro e w2 ⟨rfl, b2⟩)
    | (refine ⟨trivial, ?_⟩; gi_at_call 52; refine (throws_in _ _ trivial rfl _ _ _).mono ?_; rintro e w3 ⟨rfl, rfl⟩))
  rotate_left
  · exact (Below.refl _ w).alloc (Nat.le_refl _) _
  have s1 := b1.size
  have s2 := b2.size
  have bS := (Blk.made w1 #[.slice none 0 0, .slice none 0 0] 59).below b2 (by simp)
  have bS := bS.alloc (.cells #[.slice (some ⟨ga, 0, none⟩) len ca, .slice (some ⟨gb, 0, none⟩) len cb] 63)
  have bP := ((bP.alloc (.cells #[.slice none 0 0, .slice none 0 0] 59)).below b2 (by simp; have := bP.lt; omega)).alloc (.cells #[.slice (some ⟨ga, 0, none⟩) len ca, .slice (some ⟨gb, 0, none⟩) len cb] 63)
  have bJ := Blk.made w2 #[.slice (some ⟨ga, 0, none⟩) len ca, .slice (some ⟨gb, 0, none⟩) len cb] 63
  simp only [World.size_alloc] at s1 s2
  have hB0 : Below w.heap.size w (w2.alloc (.cells #[.slice (some ⟨ga, 0, none⟩) len ca, .slice (some ⟨gb, 0, none⟩) len cb] 63)) := (((((Below.refl _ w).alloc (Nat.le_refl _) _).trans (b1.mono (by simp))).alloc (by omega) _).trans (b2.mono (by simp; omega))).alloc (by omega) _
  have hsz : (w2.alloc (.cells #[.slice (some ⟨ga, 0, none⟩) len ca, .slice (some ⟨gb, 0, none⟩) len cb] 63)).heap.size = w2.heap.size + 1 := by simp
  obtain ⟨W0, hW0⟩ : ∃ W0, w2.alloc (.cells #[.slice (some ⟨ga, 0, none⟩) len ca, .slice (some ⟨gb, 0, none⟩) len cb] 63) = W0 := ⟨_, rfl⟩
  rw [hW0] at bS bP bJ hB0 hsz ⊢
  clear hW0 j0 j1
  have HOK := Lib.hid hok
  refine wpIn_rangeFunc_ownH (F := Fence.wide) rfl (by omega) (gf := 87) (lb := #[.pointer (some ⟨w2.heap.size, 0, none⟩)]) rfl trivial (enters_of Try.func87 (by kernel_rfl) rfl)
    (throws_stopsS Fence.wide 5 trivial rfl (by omega) w2.heap.size w.heap.size ga gb ca cb len a b h8 hok W0 (by omega) (by omega) (by simpa using bJ.cell 0) (by simpa using bJ.cell 1) (hra.below hB0) (hrb.below hB0)) belowK_t (belowK_b (by omega)) (Below.refl _ _) (fun _ => rfl)
    (fun pre W => (Heads w1.heap.size (passM 0 (pre.map Subtype.val)) (passM 1 (pre.map Subtype.val)) W ∧ Blk W w.heap.size [.slice (some ⟨ga, 0, none⟩) len ca, .slice (some ⟨gb, 0, none⟩) len cb] 31) ∧ Below w.heap.size w W)
    (fun _ _ _ => False)
    (OwnFrom.and (OwnFrom.and (heads_own (S := List St) _ _ (fun pre => passM 0 (pre.map Subtype.val)) (fun pre => passM 1 (pre.map Subtype.val))) (Own.from (blk_own _ (fun _ => _) _) _)) (ownFrom_below (Nat.le_refl _) (by omega)))
    (fun c => fun _ _ _ _ hs _ _ => hs)
    ⟨⟨heads_nil bS, bP⟩, hB0⟩
    (fun x a' W => ∃ Bx, Blk W Bx [.int .i64 x.1.1.1, .bool x.1.1.2, .int .i64 x.1.2.1, .int .i64 x.1.2.2] 69 ∧ a' = { tmps := #[.agg #[.slice (some ⟨ga, 0, none⟩) len ca, .slice (some ⟨gb, 0, none⟩) len cb], .pointer (some ⟨w.heap.size, 0, none⟩), .slice none 0 0, .slice none 0 0, .int .i64 0, .pointer (some ⟨w1.heap.size, 0, none⟩), .pointer (some ⟨Bx, 0, none⟩), .agg #[.slice (some ⟨ga, 0, none⟩) len ca, .slice (some ⟨gb, 0, none⟩) len cb], .bool true, .bool false, .agg #[.slice (some ⟨ga, 0, none⟩) len ca, .slice (some ⟨gb, 0, none⟩) len cb], .agg #[.slice (some ⟨ga, 0, none⟩) len ca, .slice (some ⟨gb, 0, none⟩) len cb], .func (.func 87) #[] #[.pointer (some ⟨w2.heap.size, 0, none⟩)], .agg #[.int .i64 x.1.1.1, .bool x.1.1.2, .int .i64 x.1.2.1, .int .i64 x.1.2.2], undef, undef, undef, undef, undef, undef, undef, undef, undef, undef, undef, undef, undef, undef, undef, undef, undef, undef], defers := [] })
    (fun x a' _ X Y row hs hg hr => by obtain ⟨Bx, h2, h3⟩ := hs; exact ⟨Bx, blk_own (β := Unit) Bx (fun _ => [.int .i64 x.1.1.1, .bool x.1.1.2, .int .i64 x.1.2.1, .int .i64 x.1.2.2]) _ () X Y row h2 hg (fun r e => (hr r e).2), h3⟩)
    ?assign ?body ?done ?stop
  case assign =>
    rintro l pre x W K ⟨⟨bS1, bP1⟩, hB1⟩ hK
    obtain ⟨⟨⟨x0, x1⟩, x2, x3⟩, hx⟩ := x
    simp only [encS, encM] at hK ⊢
    gi_wp2
    exact hK _ _ ((KeepsOthers.alloc _ _).from _) ((Below.refl _ W).alloc hB1.size _) ⟨⟨heads_alloc bS1 _, bP1.alloc _⟩, hB1.alloc hB1.size _⟩ ⟨W.heap.size, Blk.made W _ _, rfl⟩
  case body =>
    rintro l pre x a' W hl ⟨r, hr⟩ ⟨⟨bS1, bP1⟩, hB1⟩ ⟨Bx, bX, rfl⟩ hlt
    have d0 := bX.cell 0
    have d1 := bX.cell 1
    have d2 := bX.cell 2
    have d3 := bX.cell 3
    simp only [List.getElem?_cons_zero, List.getElem?_cons_succ] at d0 d1 d2 d3
    have HSN := Lib.hid (fun j => show passM j ((pre ++ [x]).map Subtype.val) = passM j (pre.map Subtype.val) ++ (if x.1.2.1 = j ∧ x.1.1.2 = true then [(x.1.2.2 : Int)] else []) from by rw [List.map_append, List.map_singleton, passM_snoc])
    have hlen0 := passM_len 0 (pre.map Subtype.val)
    have hlen1 := passM_len 1 (pre.map Subtype.val)
    rw [List.length_map] at hlen0 hlen1
    obtain ⟨hx1, hx2, hx3⟩ := x.2
    have HP1 := Lib.hid bP1
    have HB1 := Lib.hid hB1
    obtain ⟨u, v, bU, iu, iv, hap⟩ := bS1
    have e0 := bU.cell 0
    have e1 := bU.cell 1
    have f0 := bU.free 0
    have f1 := bU.free 1
    simp only [List.getElem?_cons_zero, List.getElem?_cons_succ] at e0 e1
    have HU := Lib.hid bU
    have HIU := Lib.hid iu
    have HIV := Lib.hid iv
    have HX := Lib.hid bX
    clear bX bP1 hB1 hra hrb hr hok hV b1 b2 bS bP bJ hB0 bU iu iv
    generalize x.1.1.1 = xv at *
    generalize x.1.1.2 = xp at *
    generalize x.1.2.1 = xj at *
    generalize x.1.2.2 = xi at *
    cases xp with
    | false =>
      gi_wp2
      exact ⟨(KeepsOthers.refl _).from _, Below.refl _ _, ⟨⟨u, v, HU.out, by rw [HSN.out 0, if_neg (by simp), List.append_nil]; exact HIU.out, by rw [HSN.out 1, if_neg (by simp), List.append_nil]; exact HIV.out, hap⟩, HP1.out⟩, HB1.out⟩
    | true =>
      have hj : xj = 0 ∨ xj = 1 := by omega
      rcases hj with rfl | rfl
      · have HXX := Lib.hid (fun (i : Nat) (y : Value) (h : W.cell? ⟨Bx, i, none⟩ = some y) => show (W.drew.alloc (.cells #[.int .i64 xi] 2)).cell? ⟨Bx, i, none⟩ = some y from (((Below.refl W.heap.size W).alloc (Nat.le_refl _) (.cells #[.int .i64 xi] 2)).cell (p := ⟨Bx, i, none⟩) HX.out.lt).trans h)
        have HA := Lib.hid (show Ints (W.drew.alloc (.cells #[.int .i64 xi] 2)) (w1.heap.size + 1) u (passM 0 (pre.map Subtype.val)) from HIU.out.alloc _)
        have HO := Lib.hid (show Ints (W.drew.alloc (.cells #[.int .i64 xi] 2)) (w1.heap.size + 1) v (passM 1 (pre.map Subtype.val)) from HIV.out.alloc _)
        have HNW := Lib.hid (show (W.drew.alloc (.cells #[.int .i64 xi] 2)).cell? ⟨W.heap.size, 0, none⟩ = some (.int .i64 xi) from (Blk.made W #[.int .i64 xi] 2).cell 0)
        have hlenX : (passM 0 (pre.map Subtype.val)).length ≤ 1000000 := by omega
        have hszX : w1.heap.size + 1 ≤ (W.drew.alloc (.cells #[.int .i64 xi] 2)).heap.size := by have := HU.out.lt; simp; omega
        have HBX := Lib.hid (show Blk (W.drew.alloc (.cells #[.int .i64 xi] 2)) w1.heap.size [u, v] 59 from HU.out.alloc _)
        have HBK := Lib.hid (fun w4 (gr : (W.drew.alloc (.cells #[.int .i64 xi] 2)).grownBy w4 u.ownBlock) => heads_blk HBX.out HA.out gr)
        have e0A := (HU.out.alloc (.cells #[.int .i64 xi] 2)).cell 0
        simp only [List.getElem?_cons_zero, List.getElem?_cons_succ] at e0A
        have HNB := Lib.hid (HX.out.ne_blk HU.out (by decide))
        have HGR := Lib.hid (fun w4 (gr : (W.drew.alloc (.cells #[.int .i64 xi] 2)).grownBy w4 u.ownBlock) (i : Nat) (y : Value) (h : W.cell? ⟨Bx, i, none⟩ = some y) => show w4.cell? ⟨Bx, i, none⟩ = some y from by
          rw [← HXX.out i y h]
          simp only [World.cell?, gr.block Bx (by have := HX.out.lt; simp; omega) (fun e => HA.out.ne_blk (HX.out.alloc (.cells #[.int .i64 xi] 2)) (by decide) e.symm)])
        have HST := Lib.hid (fun (W' : World) (i : Nat) (y z : Value) (h : W'.cell? ⟨Bx, i, none⟩ = some y) => show (W'.setCell ⟨w1.heap.size, 0, none⟩ z).cell? ⟨Bx, i, none⟩ = some y from (World.cell?_setCell_far W' ⟨w1.heap.size, 0, none⟩ ⟨Bx, i, none⟩ z (fun e => HNB.out e.symm)).trans h)
        gi_wp2
        refine wpIn_region_heldR (S := (fun W' => W'.cell? ⟨Bx, 0, none⟩ = some (.int .i64 xv) ∧ W'.cell? ⟨Bx, 2, none⟩ = some (.int .i64 0) ∧ W'.cell? ⟨Bx, 3, none⟩ = some (.int .i64 xi))) (by kernel_rfl) (by kernel_rfl) ?_ (fun hHeld => ?_)
        · (try dsimp only); exact ⟨d0, d2, d3⟩
        refine wpAnyH_take (i := 0) (oi := { dst := some 17, op := Go.Op.fieldAddr 69 (Go.Operand.tmp 6) 1, type := 0, pos := "l06_passing.go:174", after := #[], guard := none }) (v := ?_) rfl (by kernel_rfl) (by kernel_rfl) (by kernel_rfl) (fun _ _ _ h => h) (Or.inl ⟨by rfl, ?_⟩) (by assumption) ?_
        rotate_left
        · (intro w hSw; (try dsimp only at hSw); go_simp); (try with_reducible rfl)
        try simp only [Act.put, List.setIfInBounds_toArray, List.set_cons_zero, List.set_cons_succ]
        refine wpAnyH_take (i := 1) (oi := { dst := some 18, op := Go.Op.load 3 (Go.Operand.tmp 17), type := 3, pos := "l06_passing.go:174", after := #[{ on := 0, ground := Go.Ground.data }], guard := none }) (v := ?_) rfl (by kernel_rfl) (by kernel_rfl) (by kernel_rfl) (fun _ _ _ h => h) (Or.inl ⟨by rfl, ?_⟩) (by assumption) ?_
        rotate_left
        · (intro w hSw; (try dsimp only at hSw); go_simp); (try with_reducible rfl)
        try simp only [Act.put, List.setIfInBounds_toArray, List.set_cons_zero, List.set_cons_succ]
        refine wpAnyH_take (i := 2) (oi := { dst := some 19, op := Go.Op.fieldAddr 69 (Go.Operand.tmp 6) 1, type := 0, pos := "l06_passing.go:174", after := #[], guard := none }) (v := ?_) rfl (by kernel_rfl) (by kernel_rfl) (by kernel_rfl) (fun _ _ _ h => h) (Or.inl ⟨by rfl, ?_⟩) (by assumption) ?_
        rotate_left
        · (intro w hSw; (try dsimp only at hSw); go_simp); (try with_reducible rfl)
        try simp only [Act.put, List.setIfInBounds_toArray, List.set_cons_zero, List.set_cons_succ]
        refine wpAnyH_take (i := 3) (oi := { dst := some 20, op := Go.Op.load 3 (Go.Operand.tmp 19), type := 3, pos := "l06_passing.go:174", after := #[{ on := 2, ground := Go.Ground.data }], guard := none }) (v := ?_) rfl (by kernel_rfl) (by kernel_rfl) (by kernel_rfl) (fun _ _ _ h => h) (Or.inl ⟨by rfl, ?_⟩) (by assumption) ?_
        rotate_left
        · (intro w hSw; (try dsimp only at hSw); go_simp); (try with_reducible rfl)
        try simp only [Act.put, List.setIfInBounds_toArray, List.set_cons_zero, List.set_cons_succ]
        refine wpAnyH_take (i := 4) (oi := { dst := some 21, op := Go.Op.indexAddr 59 (Go.Operand.tmp 5) (Go.Operand.tmp 20), type := 0, pos := "l06_passing.go:174", after := #[{ on := 3, ground := Go.Ground.data }], guard := none }) (v := ?_) rfl (by kernel_rfl) (by kernel_rfl) (by kernel_rfl) (fun _ _ _ h => h) (Or.inl ⟨by rfl, ?_⟩) (by assumption) ?_
        rotate_left
        · (intro w hSw; (try dsimp only at hSw); go_simp); (try with_reducible rfl)
        try simp only [Act.put, List.setIfInBounds_toArray, List.set_cons_zero, List.set_cons_succ]
        refine wpAnyH_take (i := 6) (oi := { dst := some 23, op := Go.Op.fieldAddr 69 (Go.Operand.tmp 6) 2, type := 0, pos := "l06_passing.go:174", after := #[], guard := none }) (v := ?_) rfl (by kernel_rfl) (by kernel_rfl) (by kernel_rfl) (fun _ _ _ h => h) (Or.inl ⟨by rfl, ?_⟩) (by assumption) ?_
        rotate_left
        · (intro w hSw; (try dsimp only at hSw); go_simp); (try with_reducible rfl)
        try simp only [Act.put, List.setIfInBounds_toArray, List.set_cons_zero, List.set_cons_succ]
        refine wpAnyH_take (i := 7) (oi := { dst := some 24, op := Go.Op.load 2 (Go.Operand.tmp 23), type := 2, pos := "l06_passing.go:174", after := #[{ on := 6, ground := Go.Ground.data }], guard := none }) (v := ?_) rfl (by kernel_rfl) (by kernel_rfl) (by kernel_rfl) (fun _ _ _ h => h) (Or.inl ⟨by rfl, ?_⟩) (by assumption) ?_
        rotate_left
        · (intro w hSw; (try dsimp only at hSw); go_simp); (try with_reducible rfl)
        try simp only [Act.put, List.setIfInBounds_toArray, List.set_cons_zero, List.set_cons_succ]
        refine wpAnyH_ready (rs := [5, 8]) (by kernel_rfl) (by simp) ?_
        refine AllReadyH.cons (o := { dst := some 22, op := Go.Op.load 26 (Go.Operand.tmp 21), type := 26, pos := "l06_passing.go:174", after := #[{ on := 4, ground := Go.Ground.data }], guard := none }) rfl (fun K hK => ?_) ?_
        · go_simp
          refine hK.out _ _ ?_ (fun hHeld2 => ?_)
          · (try dsimp only); first | exact ⟨d0, d2, d3⟩ | exact ⟨HXX.out 0 _ d0, HXX.out 2 _ d2, HXX.out 3 _ d3⟩
          clear hK K hHeld
          have hHeld := hHeld2
          clear hHeld2
          try simp only [Act.put, List.setIfInBounds_toArray, List.set_cons_zero, List.set_cons_succ]
          refine wpAnyH_ready (rs := [8]) (by kernel_rfl) (by simp) ?_
          refine AllReadyH.cons (o := { dst := some 25, op := Go.Op.buildSlice 26 1 #[(0, Go.Operand.tmp 24)], type := 26, pos := "l06_passing.go:174", after := #[{ on := 7, ground := Go.Ground.data }], guard := none }) rfl (fun K hK => ?_) AllReadyH.nil
          go_simp
          refine hK.out _ _ ?_ (fun hHeld2 => ?_)
          · (try dsimp only); exact ⟨HXX.out 0 _ d0, HXX.out 2 _ d2, HXX.out 3 _ d3⟩
          clear hK K hHeld
          have hHeld := hHeld2
          clear hHeld2
          try simp only [Act.put, List.setIfInBounds_toArray, List.set_cons_zero, List.set_cons_succ]
          refine wpAnyH_ready (rs := [9]) (by kernel_rfl) (by simp) ?_
          refine AllReadyH.cons (o := { dst := some 26, op := Go.Op.call { callee := Go.Callee.builtin Go.Builtin.append, args := #[Go.Operand.tmp 22, Go.Operand.tmp 25], argTypes := #[26, 26] }, type := 26, pos := "l06_passing.go:174", after := #[{ on := 5, ground := Go.Ground.data }, { on := 8, ground := Go.Ground.data }], guard := none }) rfl (fun K hK => ?_) AllReadyH.nil
          (refine step_append_i _ (by rfl) _ _ (by rfl) (w1.heap.size + 1) u _ (by rfl) (HA.out) W.heap.size 1 xi (by rfl) HNW.out hlenX hszX ?_; intro g4 c4 l4 w4 i4 gr4 ho4)
          refine hK.out _ _ ?_ (fun hHeld2 => ?_)
          · (try dsimp only); exact ⟨HGR.out _ gr4 0 _ d0, HGR.out _ gr4 2 _ d2, HGR.out _ gr4 3 _ d3⟩
          clear hK K hHeld
          have hHeld := hHeld2
          clear hHeld2
          try simp only [Act.put, List.setIfInBounds_toArray, List.set_cons_zero, List.set_cons_succ]
          refine wpAnyH_take (i := 10) (oi := { dst := some 27, op := Go.Op.indexAddr 59 (Go.Operand.tmp 5) (Go.Operand.tmp 18), type := 0, pos := "l06_passing.go:174", after := #[{ on := 1, ground := Go.Ground.data }, { on := 0, ground := Go.Ground.phase }, { on := 1, ground := Go.Ground.phase }, { on := 2, ground := Go.Ground.phase }, { on := 3, ground := Go.Ground.phase }, { on := 4, ground := Go.Ground.phase }, { on := 5, ground := Go.Ground.phase }, { on := 6, ground := Go.Ground.phase }, { on := 7, ground := Go.Ground.phase }, { on := 8, ground := Go.Ground.phase }, { on := 9, ground := Go.Ground.phase }], guard := none }) (v := ?_) rfl (by kernel_rfl) (by kernel_rfl) (by kernel_rfl) (fun _ _ _ h => h) (Or.inl ⟨by rfl, ?_⟩) (by assumption) ?_
          rotate_left
          · (intro w hSw; (try dsimp only at hSw); go_simp); (try with_reducible rfl)
          try simp only [Act.put, List.setIfInBounds_toArray, List.set_cons_zero, List.set_cons_succ]
          refine wpAnyH_ready (rs := [11]) (by kernel_rfl) (by simp) ?_
          refine AllReadyH.cons (o := { dst := none, op := Go.Op.store 26 (Go.Operand.tmp 27) (Go.Operand.tmp 26), type := 0, pos := "l06_passing.go:174", after := #[{ on := 10, ground := Go.Ground.data }, { on := 9, ground := Go.Ground.data }, { on := 9, ground := Go.Ground.chain }, { on := 0, ground := Go.Ground.phase }, { on := 1, ground := Go.Ground.phase }, { on := 2, ground := Go.Ground.phase }, { on := 3, ground := Go.Ground.phase }, { on := 4, ground := Go.Ground.phase }, { on := 5, ground := Go.Ground.phase }, { on := 6, ground := Go.Ground.phase }, { on := 7, ground := Go.Ground.phase }, { on := 8, ground := Go.Ground.phase }, { on := 9, ground := Go.Ground.phase }], guard := none }) rfl (fun K hK => ?_) AllReadyH.nil
          have f4 : w4.frozen? ⟨w1.heap.size, 0, none⟩ = false := (HBK.out _ gr4).free 0
          have e4 := (HBK.out _ gr4).cell 0
          simp only [List.getElem?_cons_zero, List.getElem?_cons_succ] at e4
          go_simp
          refine hK.out _ _ ?_ (fun hHeld2 => ?_)
          · (try dsimp only); exact ⟨HST.out _ 0 _ _ (HGR.out _ gr4 0 _ d0), HST.out _ 2 _ _ (HGR.out _ gr4 2 _ d2), HST.out _ 3 _ _ (HGR.out _ gr4 3 _ d3)⟩
          clear hK K hHeld
          have hHeld := hHeld2
          clear hHeld2
          try simp only [Act.put, List.setIfInBounds_toArray, List.set_cons_zero, List.set_cons_succ]
          refine wpAnyH_done (by kernel_rfl) (Calm.ok ?_) _
          gi_wp2
          have hk4 : KeepsOthers W (w4.setCell ⟨w1.heap.size, 0, none⟩ (.slice (some ⟨g4, 0, none⟩) l4 c4)) := (((KeepsOthers.drew W).trans (KeepsOthers.alloc _ _)).trans (KeepsOthers.of_grownBy gr4 HA.out.row_cells)).trans (KeepsOthers.setCell _ _ _)
          have hb4 : Below w.heap.size W (w4.setCell ⟨w1.heap.size, 0, none⟩ (.slice (some ⟨g4, 0, none⟩) l4 c4)) := (((Below.drew (Below.refl _ W)).alloc (by show w.heap.size ≤ W.heap.size; have := HB1.out.size; omega) _).grown gr4 (by have := HB1.out.size; simp; omega) (by intro q hq; have := HA.out.own_ge hq; omega)).setCell (by show w.heap.size ≤ w1.heap.size; omega) _
          obtain ⟨m1, m2, m3⟩ := heads_app HA.out HO.out hap i4 gr4 ho4 ⟨w1.heap.size, 0, none⟩ rfl (.slice (some ⟨g4, 0, none⟩) l4 c4)
          have hP4 : Blk (w4.setCell ⟨w1.heap.size, 0, none⟩ (.slice (some ⟨g4, 0, none⟩) l4 c4)) w.heap.size _ _ := (Blk.block (w' := w4) (HP1.out.alloc (.cells #[.int .i64 xi] 2)) (gr4.block _ (by have := HP1.out.lt; simp; omega) (fun e => by have := HA.out.own_ge e.symm; omega))).other (by show w.heap.size ≠ w1.heap.size; omega) _
          have hU4 := (HBK.out _ gr4).set 0 (.slice (some ⟨g4, 0, none⟩) l4 c4)
          exact ⟨hk4.from _, hb4, ⟨⟨(.slice (some ⟨g4, 0, none⟩) l4 c4), v, hU4, (by rw [HSN.out 0, if_pos (by simp)]; exact m1), (by rw [HSN.out 1, if_neg (by omega), List.append_nil]; exact m2), m3⟩, hP4⟩, HB1.out.trans hb4⟩
        refine AllReadyH.cons (o := { dst := some 25, op := Go.Op.buildSlice 26 1 #[(0, Go.Operand.tmp 24)], type := 26, pos := "l06_passing.go:174", after := #[{ on := 7, ground := Go.Ground.data }], guard := none }) rfl (fun K hK => ?_) ?_
        · go_simp
          refine hK.out _ _ ?_ (fun hHeld2 => ?_)
          · (try dsimp only); exact ⟨HXX.out 0 _ d0, HXX.out 2 _ d2, HXX.out 3 _ d3⟩
          clear hK K hHeld
          have hHeld := hHeld2
          clear hHeld2
          try simp only [Act.put, List.setIfInBounds_toArray, List.set_cons_zero, List.set_cons_succ]
          refine wpAnyH_ready (rs := [5]) (by kernel_rfl) (by simp) ?_
          refine AllReadyH.cons (o := { dst := some 22, op := Go.Op.load 26 (Go.Operand.tmp 21), type := 26, pos := "l06_passing.go:174", after := #[{ on := 4, ground := Go.Ground.data }], guard := none }) rfl (fun K hK => ?_) AllReadyH.nil
          go_simp
          refine hK.out _ _ ?_ (fun hHeld2 => ?_)
          · (try dsimp only); exact ⟨HXX.out 0 _ d0, HXX.out 2 _ d2, HXX.out 3 _ d3⟩
          clear hK K hHeld
          have hHeld := hHeld2
          clear hHeld2
          try simp only [Act.put, List.setIfInBounds_toArray, List.set_cons_zero, List.set_cons_succ]
          refine wpAnyH_ready (rs := [9]) (by kernel_rfl) (by simp) ?_
          refine AllReadyH.cons (o := { dst := some 26, op := Go.Op.call { callee := Go.Callee.builtin Go.Builtin.append, args := #[Go.Operand.tmp 22, Go.Operand.tmp 25], argTypes := #[26, 26] }, type := 26, pos := "l06_passing.go:174", after := #[{ on := 5, ground := Go.Ground.data }, { on := 8, ground := Go.Ground.data }], guard := none }) rfl (fun K hK => ?_) AllReadyH.nil
          (refine step_append_i _ (by rfl) _ _ (by rfl) (w1.heap.size + 1) u _ (by rfl) (HA.out) W.heap.size 1 xi (by rfl) HNW.out hlenX hszX ?_; intro g4 c4 l4 w4 i4 gr4 ho4)
          refine hK.out _ _ ?_ (fun hHeld2 => ?_)
          · (try dsimp only); exact ⟨HGR.out _ gr4 0 _ d0, HGR.out _ gr4 2 _ d2, HGR.out _ gr4 3 _ d3⟩
          clear hK K hHeld
          have hHeld := hHeld2
          clear hHeld2
          try simp only [Act.put, List.setIfInBounds_toArray, List.set_cons_zero, List.set_cons_succ]
          refine wpAnyH_take (i := 10) (oi := { dst := some 27, op := Go.Op.indexAddr 59 (Go.Operand.tmp 5) (Go.Operand.tmp 18), type := 0, pos := "l06_passing.go:174", after := #[{ on := 1, ground := Go.Ground.data }, { on := 0, ground := Go.Ground.phase }, { on := 1, ground := Go.Ground.phase }, { on := 2, ground := Go.Ground.phase }, { on := 3, ground := Go.Ground.phase }, { on := 4, ground := Go.Ground.phase }, { on := 5, ground := Go.Ground.phase }, { on := 6, ground := Go.Ground.phase }, { on := 7, ground := Go.Ground.phase }, { on := 8, ground := Go.Ground.phase }, { on := 9, ground := Go.Ground.phase }], guard := none }) (v := ?_) rfl (by kernel_rfl) (by kernel_rfl) (by kernel_rfl) (fun _ _ _ h => h) (Or.inl ⟨by rfl, ?_⟩) (by assumption) ?_
          rotate_left
          · (intro w hSw; (try dsimp only at hSw); go_simp); (try with_reducible rfl)
          try simp only [Act.put, List.setIfInBounds_toArray, List.set_cons_zero, List.set_cons_succ]
          refine wpAnyH_ready (rs := [11]) (by kernel_rfl) (by simp) ?_
          refine AllReadyH.cons (o := { dst := none, op := Go.Op.store 26 (Go.Operand.tmp 27) (Go.Operand.tmp 26), type := 0, pos := "l06_passing.go:174", after := #[{ on := 10, ground := Go.Ground.data }, { on := 9, ground := Go.Ground.data }, { on := 9, ground := Go.Ground.chain }, { on := 0, ground := Go.Ground.phase }, { on := 1, ground := Go.Ground.phase }, { on := 2, ground := Go.Ground.phase }, { on := 3, ground := Go.Ground.phase }, { on := 4, ground := Go.Ground.phase }, { on := 5, ground := Go.Ground.phase }, { on := 6, ground := Go.Ground.phase }, { on := 7, ground := Go.Ground.phase }, { on := 8, ground := Go.Ground.phase }, { on := 9, ground := Go.Ground.phase }], guard := none }) rfl (fun K hK => ?_) AllReadyH.nil
          have f4 : w4.frozen? ⟨w1.heap.size, 0, none⟩ = false := (HBK.out _ gr4).free 0
          have e4 := (HBK.out _ gr4).cell 0
          simp only [List.getElem?_cons_zero, List.getElem?_cons_succ] at e4
          go_simp
          refine hK.out _ _ ?_ (fun hHeld2 => ?_)
          · (try dsimp only); exact ⟨HST.out _ 0 _ _ (HGR.out _ gr4 0 _ d0), HST.out _ 2 _ _ (HGR.out _ gr4 2 _ d2), HST.out _ 3 _ _ (HGR.out _ gr4 3 _ d3)⟩
          clear hK K hHeld
          have hHeld := hHeld2
          clear hHeld2
          try simp only [Act.put, List.setIfInBounds_toArray, List.set_cons_zero, List.set_cons_succ]
          refine wpAnyH_done (by kernel_rfl) (Calm.ok ?_) _
          gi_wp2
          have hk4 : KeepsOthers W (w4.setCell ⟨w1.heap.size, 0, none⟩ (.slice (some ⟨g4, 0, none⟩) l4 c4)) := (((KeepsOthers.drew W).trans (KeepsOthers.alloc _ _)).trans (KeepsOthers.of_grownBy gr4 HA.out.row_cells)).trans (KeepsOthers.setCell _ _ _)
          have hb4 : Below w.heap.size W (w4.setCell ⟨w1.heap.size, 0, none⟩ (.slice (some ⟨g4, 0, none⟩) l4 c4)) := (((Below.drew (Below.refl _ W)).alloc (by show w.heap.size ≤ W.heap.size; have := HB1.out.size; omega) _).grown gr4 (by have := HB1.out.size; simp; omega) (by intro q hq; have := HA.out.own_ge hq; omega)).setCell (by show w.heap.size ≤ w1.heap.size; omega) _
          obtain ⟨m1, m2, m3⟩ := heads_app HA.out HO.out hap i4 gr4 ho4 ⟨w1.heap.size, 0, none⟩ rfl (.slice (some ⟨g4, 0, none⟩) l4 c4)
          have hP4 : Blk (w4.setCell ⟨w1.heap.size, 0, none⟩ (.slice (some ⟨g4, 0, none⟩) l4 c4)) w.heap.size _ _ := (Blk.block (w' := w4) (HP1.out.alloc (.cells #[.int .i64 xi] 2)) (gr4.block _ (by have := HP1.out.lt; simp; omega) (fun e => by have := HA.out.own_ge e.symm; omega))).other (by show w.heap.size ≠ w1.heap.size; omega) _
          have hU4 := (HBK.out _ gr4).set 0 (.slice (some ⟨g4, 0, none⟩) l4 c4)
          exact ⟨hk4.from _, hb4, ⟨⟨(.slice (some ⟨g4, 0, none⟩) l4 c4), v, hU4, (by rw [HSN.out 0, if_pos (by simp)]; exact m1), (by rw [HSN.out 1, if_neg (by omega), List.append_nil]; exact m2), m3⟩, hP4⟩, HB1.out.trans hb4⟩
        exact AllReadyH.nil
      · have HXX := Lib.hid (fun (i : Nat) (y : Value) (h : W.cell? ⟨Bx, i, none⟩ = some y) => show (W.drew.alloc (.cells #[.int .i64 xi] 2)).cell? ⟨Bx, i, none⟩ = some y from (((Below.refl W.heap.size W).alloc (Nat.le_refl _) (.cells #[.int .i64 xi] 2)).cell (p := ⟨Bx, i, none⟩) HX.out.lt).trans h)
        have HA := Lib.hid (show Ints (W.drew.alloc (.cells #[.int .i64 xi] 2)) (w1.heap.size + 1) v (passM 1 (pre.map Subtype.val)) from HIV.out.alloc _)
        have HO := Lib.hid (show Ints (W.drew.alloc (.cells #[.int .i64 xi] 2)) (w1.heap.size + 1) u (passM 0 (pre.map Subtype.val)) from HIU.out.alloc _)
        have HNW := Lib.hid (show (W.drew.alloc (.cells #[.int .i64 xi] 2)).cell? ⟨W.heap.size, 0, none⟩ = some (.int .i64 xi) from (Blk.made W #[.int .i64 xi] 2).cell 0)
        have hlenX : (passM 1 (pre.map Subtype.val)).length ≤ 1000000 := by omega
        have hszX : w1.heap.size + 1 ≤ (W.drew.alloc (.cells #[.int .i64 xi] 2)).heap.size := by have := HU.out.lt; simp; omega
        have HBX := Lib.hid (show Blk (W.drew.alloc (.cells #[.int .i64 xi] 2)) w1.heap.size [u, v] 59 from HU.out.alloc _)
        have HBK := Lib.hid (fun w4 (gr : (W.drew.alloc (.cells #[.int .i64 xi] 2)).grownBy w4 v.ownBlock) => heads_blk1 HBX.out HA.out gr)
        have e0A := (HU.out.alloc (.cells #[.int .i64 xi] 2)).cell 1
        simp only [List.getElem?_cons_zero, List.getElem?_cons_succ] at e0A
        have HNB := Lib.hid (HX.out.ne_blk HU.out (by decide))
        have HGR := Lib.hid (fun w4 (gr : (W.drew.alloc (.cells #[.int .i64 xi] 2)).grownBy w4 v.ownBlock) (i : Nat) (y : Value) (h : W.cell? ⟨Bx, i, none⟩ = some y) => show w4.cell? ⟨Bx, i, none⟩ = some y from by
          rw [← HXX.out i y h]
          simp only [World.cell?, gr.block Bx (by have := HX.out.lt; simp; omega) (fun e => HA.out.ne_blk (HX.out.alloc (.cells #[.int .i64 xi] 2)) (by decide) e.symm)])
        have HST := Lib.hid (fun (W' : World) (i : Nat) (y z : Value) (h : W'.cell? ⟨Bx, i, none⟩ = some y) => show (W'.setCell ⟨w1.heap.size, 1, none⟩ z).cell? ⟨Bx, i, none⟩ = some y from (World.cell?_setCell_far W' ⟨w1.heap.size, 1, none⟩ ⟨Bx, i, none⟩ z (fun e => HNB.out e.symm)).trans h)
        gi_wp2
        refine wpIn_region_heldR (S := (fun W' => W'.cell? ⟨Bx, 0, none⟩ = some (.int .i64 xv) ∧ W'.cell? ⟨Bx, 2, none⟩ = some (.int .i64 1) ∧ W'.cell? ⟨Bx, 3, none⟩ = some (.int .i64 xi))) (by kernel_rfl) (by kernel_rfl) ?_ (fun hHeld => ?_)
        · (try dsimp only); exact ⟨d0, d2, d3⟩
        refine wpAnyH_take (i := 0) (oi := { dst := some 17, op := Go.Op.fieldAddr 69 (Go.Operand.tmp 6) 1, type := 0, pos := "l06_passing.go:174", after := #[], guard := none }) (v := ?_) rfl (by kernel_rfl) (by kernel_rfl) (by kernel_rfl) (fun _ _ _ h => h) (Or.inl ⟨by rfl, ?_⟩) (by assumption) ?_
        rotate_left
        · (intro w hSw; (try dsimp only at hSw); go_simp); (try with_reducible rfl)
        try simp only [Act.put, List.setIfInBounds_toArray, List.set_cons_zero, List.set_cons_succ]
        refine wpAnyH_take (i := 1) (oi := { dst := some 18, op := Go.Op.load 3 (Go.Operand.tmp 17), type := 3, pos := "l06_passing.go:174", after := #[{ on := 0, ground := Go.Ground.data }], guard := none }) (v := ?_) rfl (by kernel_rfl) (by kernel_rfl) (by kernel_rfl) (fun _ _ _ h => h) (Or.inl ⟨by rfl, ?_⟩) (by assumption) ?_
        rotate_left
        · (intro w hSw; (try dsimp only at hSw); go_simp); (try with_reducible rfl)
        try simp only [Act.put, List.setIfInBounds_toArray, List.set_cons_zero, List.set_cons_succ]
        refine wpAnyH_take (i := 2) (oi := { dst := some 19, op := Go.Op.fieldAddr 69 (Go.Operand.tmp 6) 1, type := 0, pos := "l06_passing.go:174", after := #[], guard := none }) (v := ?_) rfl (by kernel_rfl) (by kernel_rfl) (by kernel_rfl) (fun _ _ _ h => h) (Or.inl ⟨by rfl, ?_⟩) (by assumption) ?_
        rotate_left
        · (intro w hSw; (try dsimp only at hSw); go_simp); (try with_reducible rfl)
        try simp only [Act.put, List.setIfInBounds_toArray, List.set_cons_zero, List.set_cons_succ]
        refine wpAnyH_take (i := 3) (oi := { dst := some 20, op := Go.Op.load 3 (Go.Operand.tmp 19), type := 3, pos := "l06_passing.go:174", after := #[{ on := 2, ground := Go.Ground.data }], guard := none }) (v := ?_) rfl (by kernel_rfl) (by kernel_rfl) (by kernel_rfl) (fun _ _ _ h => h) (Or.inl ⟨by rfl, ?_⟩) (by assumption) ?_
        rotate_left
        · (intro w hSw; (try dsimp only at hSw); go_simp); (try with_reducible rfl)
        try simp only [Act.put, List.setIfInBounds_toArray, List.set_cons_zero, List.set_cons_succ]
        refine wpAnyH_take (i := 4) (oi := { dst := some 21, op := Go.Op.indexAddr 59 (Go.Operand.tmp 5) (Go.Operand.tmp 20), type := 0, pos := "l06_passing.go:174", after := #[{ on := 3, ground := Go.Ground.data }], guard := none }) (v := ?_) rfl (by kernel_rfl) (by kernel_rfl) (by kernel_rfl) (fun _ _ _ h => h) (Or.inl ⟨by rfl, ?_⟩) (by assumption) ?_
        rotate_left
        · (intro w hSw; (try dsimp only at hSw); go_simp); (try with_reducible rfl)
        try simp only [Act.put, List.setIfInBounds_toArray, List.set_cons_zero, List.set_cons_succ]
        refine wpAnyH_take (i := 6) (oi := { dst := some 23, op := Go.Op.fieldAddr 69 (Go.Operand.tmp 6) 2, type := 0, pos := "l06_passing.go:174", after := #[], guard := none }) (v := ?_) rfl (by kernel_rfl) (by kernel_rfl) (by kernel_rfl) (fun _ _ _ h => h) (Or.inl ⟨by rfl, ?_⟩) (by assumption) ?_
        rotate_left
        · (intro w hSw; (try dsimp only at hSw); go_simp); (try with_reducible rfl)
        try simp only [Act.put, List.setIfInBounds_toArray, List.set_cons_zero, List.set_cons_succ]
        refine wpAnyH_take (i := 7) (oi := { dst := some 24, op := Go.Op.load 2 (Go.Operand.tmp 23), type := 2, pos := "l06_passing.go:174", after := #[{ on := 6, ground := Go.Ground.data }], guard := none }) (v := ?_) rfl (by kernel_rfl) (by kernel_rfl) (by kernel_rfl) (fun _ _ _ h => h) (Or.inl ⟨by rfl, ?_⟩) (by assumption) ?_
        rotate_left
        · (intro w hSw; (try dsimp only at hSw); go_simp); (try with_reducible rfl)
        try simp only [Act.put, List.setIfInBounds_toArray, List.set_cons_zero, List.set_cons_succ]
        refine wpAnyH_ready (rs := [5, 8]) (by kernel_rfl) (by simp) ?_
        refine AllReadyH.cons (o := { dst := some 22, op := Go.Op.load 26 (Go.Operand.tmp 21), type := 26, pos := "l06_passing.go:174", after := #[{ on := 4, ground := Go.Ground.data }], guard := none }) rfl (fun K hK => ?_) ?_
        · go_simp
          refine hK.out _ _ ?_ (fun hHeld2 => ?_)
          · (try dsimp only); first | exact ⟨d0, d2, d3⟩ | exact ⟨HXX.out 0 _ d0, HXX.out 2 _ d2, HXX.out 3 _ d3⟩
          clear hK K hHeld
          have hHeld := hHeld2
          clear hHeld2
          try simp only [Act.put, List.setIfInBounds_toArray, List.set_cons_zero, List.set_cons_succ]
          refine wpAnyH_ready (rs := [8]) (by kernel_rfl) (by simp) ?_
          refine AllReadyH.cons (o := { dst := some 25, op := Go.Op.buildSlice 26 1 #[(0, Go.Operand.tmp 24)], type := 26, pos := "l06_passing.go:174", after := #[{ on := 7, ground := Go.Ground.data }], guard := none }) rfl (fun K hK => ?_) AllReadyH.nil
          go_simp
          refine hK.out _ _ ?_ (fun hHeld2 => ?_)
          · (try dsimp only); exact ⟨HXX.out 0 _ d0, HXX.out 2 _ d2, HXX.out 3 _ d3⟩
          clear hK K hHeld
          have hHeld := hHeld2
          clear hHeld2
          try simp only [Act.put, List.setIfInBounds_toArray, List.set_cons_zero, List.set_cons_succ]
          refine wpAnyH_ready (rs := [9]) (by kernel_rfl) (by simp) ?_
          refine AllReadyH.cons (o := { dst := some 26, op := Go.Op.call { callee := Go.Callee.builtin Go.Builtin.append, args := #[Go.Operand.tmp 22, Go.Operand.tmp 25], argTypes := #[26, 26] }, type := 26, pos := "l06_passing.go:174", after := #[{ on := 5, ground := Go.Ground.data }, { on := 8, ground := Go.Ground.data }], guard := none }) rfl (fun K hK => ?_) AllReadyH.nil
          (refine step_append_i _ (by rfl) _ _ (by rfl) (w1.heap.size + 1) v _ (by rfl) (HA.out) W.heap.size 1 xi (by rfl) HNW.out hlenX hszX ?_; intro g4 c4 l4 w4 i4 gr4 ho4)
          refine hK.out _ _ ?_ (fun hHeld2 => ?_)
          · (try dsimp only); exact ⟨HGR.out _ gr4 0 _ d0, HGR.out _ gr4 2 _ d2, HGR.out _ gr4 3 _ d3⟩
          clear hK K hHeld
          have hHeld := hHeld2
          clear hHeld2
          try simp only [Act.put, List.setIfInBounds_toArray, List.set_cons_zero, List.set_cons_succ]
          refine wpAnyH_take (i := 10) (oi := { dst := some 27, op := Go.Op.indexAddr 59 (Go.Operand.tmp 5) (Go.Operand.tmp 18), type := 0, pos := "l06_passing.go:174", after := #[{ on := 1, ground := Go.Ground.data }, { on := 0, ground := Go.Ground.phase }, { on := 1, ground := Go.Ground.phase }, { on := 2, ground := Go.Ground.phase }, { on := 3, ground := Go.Ground.phase }, { on := 4, ground := Go.Ground.phase }, { on := 5, ground := Go.Ground.phase }, { on := 6, ground := Go.Ground.phase }, { on := 7, ground := Go.Ground.phase }, { on := 8, ground := Go.Ground.phase }, { on := 9, ground := Go.Ground.phase }], guard := none }) (v := ?_) rfl (by kernel_rfl) (by kernel_rfl) (by kernel_rfl) (fun _ _ _ h => h) (Or.inl ⟨by rfl, ?_⟩) (by assumption) ?_
          rotate_left
          · (intro w hSw; (try dsimp only at hSw); go_simp); (try with_reducible rfl)
          try simp only [Act.put, List.setIfInBounds_toArray, List.set_cons_zero, List.set_cons_succ]
          refine wpAnyH_ready (rs := [11]) (by kernel_rfl) (by simp) ?_
          refine AllReadyH.cons (o := { dst := none, op := Go.Op.store 26 (Go.Operand.tmp 27) (Go.Operand.tmp 26), type := 0, pos := "l06_passing.go:174", after := #[{ on := 10, ground := Go.Ground.data }, { on := 9, ground := Go.Ground.data }, { on := 9, ground := Go.Ground.chain }, { on := 0, ground := Go.Ground.phase }, { on := 1, ground := Go.Ground.phase }, { on := 2, ground := Go.Ground.phase }, { on := 3, ground := Go.Ground.phase }, { on := 4, ground := Go.Ground.phase }, { on := 5, ground := Go.Ground.phase }, { on := 6, ground := Go.Ground.phase }, { on := 7, ground := Go.Ground.phase }, { on := 8, ground := Go.Ground.phase }, { on := 9, ground := Go.Ground.phase }], guard := none }) rfl (fun K hK => ?_) AllReadyH.nil
          have f4 : w4.frozen? ⟨w1.heap.size, 1, none⟩ = false := (HBK.out _ gr4).free 1
          have e4 := (HBK.out _ gr4).cell 1
          simp only [List.getElem?_cons_zero, List.getElem?_cons_succ] at e4
          go_simp
          refine hK.out _ _ ?_ (fun hHeld2 => ?_)
          · (try dsimp only); exact ⟨HST.out _ 0 _ _ (HGR.out _ gr4 0 _ d0), HST.out _ 2 _ _ (HGR.out _ gr4 2 _ d2), HST.out _ 3 _ _ (HGR.out _ gr4 3 _ d3)⟩
          clear hK K hHeld
          have hHeld := hHeld2
          clear hHeld2
          try simp only [Act.put, List.setIfInBounds_toArray, List.set_cons_zero, List.set_cons_succ]
          refine wpAnyH_done (by kernel_rfl) (Calm.ok ?_) _
          gi_wp2
          have hk4 : KeepsOthers W (w4.setCell ⟨w1.heap.size, 1, none⟩ (.slice (some ⟨g4, 0, none⟩) l4 c4)) := (((KeepsOthers.drew W).trans (KeepsOthers.alloc _ _)).trans (KeepsOthers.of_grownBy gr4 HA.out.row_cells)).trans (KeepsOthers.setCell _ _ _)
          have hb4 : Below w.heap.size W (w4.setCell ⟨w1.heap.size, 1, none⟩ (.slice (some ⟨g4, 0, none⟩) l4 c4)) := (((Below.drew (Below.refl _ W)).alloc (by show w.heap.size ≤ W.heap.size; have := HB1.out.size; omega) _).grown gr4 (by have := HB1.out.size; simp; omega) (by intro q hq; have := HA.out.own_ge hq; omega)).setCell (by show w.heap.size ≤ w1.heap.size; omega) _
          obtain ⟨m1, m2, m3⟩ := heads_app HA.out HO.out hap.symm i4 gr4 ho4 ⟨w1.heap.size, 1, none⟩ rfl (.slice (some ⟨g4, 0, none⟩) l4 c4)
          have hP4 : Blk (w4.setCell ⟨w1.heap.size, 1, none⟩ (.slice (some ⟨g4, 0, none⟩) l4 c4)) w.heap.size _ _ := (Blk.block (w' := w4) (HP1.out.alloc (.cells #[.int .i64 xi] 2)) (gr4.block _ (by have := HP1.out.lt; simp; omega) (fun e => by have := HA.out.own_ge e.symm; omega))).other (by show w.heap.size ≠ w1.heap.size; omega) _
          have hU4 := (HBK.out _ gr4).set 1 (.slice (some ⟨g4, 0, none⟩) l4 c4)
          exact ⟨hk4.from _, hb4, ⟨⟨u, (.slice (some ⟨g4, 0, none⟩) l4 c4), hU4, (by rw [HSN.out 0, if_neg (by omega), List.append_nil]; exact m2), (by rw [HSN.out 1, if_pos (by simp)]; exact m1), m3.symm⟩, hP4⟩, HB1.out.trans hb4⟩
        refine AllReadyH.cons (o := { dst := some 25, op := Go.Op.buildSlice 26 1 #[(0, Go.Operand.tmp 24)], type := 26, pos := "l06_passing.go:174", after := #[{ on := 7, ground := Go.Ground.data }], guard := none }) rfl (fun K hK => ?_) ?_
        · go_simp
          refine hK.out _ _ ?_ (fun hHeld2 => ?_)
          · (try dsimp only); exact ⟨HXX.out 0 _ d0, HXX.out 2 _ d2, HXX.out 3 _ d3⟩
          clear hK K hHeld
          have hHeld := hHeld2
          clear hHeld2
          try simp only [Act.put, List.setIfInBounds_toArray, List.set_cons_zero, List.set_cons_succ]
          refine wpAnyH_ready (rs := [5]) (by kernel_rfl) (by simp) ?_
          refine AllReadyH.cons (o := { dst := some 22, op := Go.Op.load 26 (Go.Operand.tmp 21), type := 26, pos := "l06_passing.go:174", after := #[{ on := 4, ground := Go.Ground.data }], guard := none }) rfl (fun K hK => ?_) AllReadyH.nil
          go_simp
          refine hK.out _ _ ?_ (fun hHeld2 => ?_)
          · (try dsimp only); exact ⟨HXX.out 0 _ d0, HXX.out 2 _ d2, HXX.out 3 _ d3⟩
          clear hK K hHeld
          have hHeld := hHeld2
          clear hHeld2
          try simp only [Act.put, List.setIfInBounds_toArray, List.set_cons_zero, List.set_cons_succ]
          refine wpAnyH_ready (rs := [9]) (by kernel_rfl) (by simp) ?_
          refine AllReadyH.cons (o := { dst := some 26, op := Go.Op.call { callee := Go.Callee.builtin Go.Builtin.append, args := #[Go.Operand.tmp 22, Go.Operand.tmp 25], argTypes := #[26, 26] }, type := 26, pos := "l06_passing.go:174", after := #[{ on := 5, ground := Go.Ground.data }, { on := 8, ground := Go.Ground.data }], guard := none }) rfl (fun K hK => ?_) AllReadyH.nil
          (refine step_append_i _ (by rfl) _ _ (by rfl) (w1.heap.size + 1) v _ (by rfl) (HA.out) W.heap.size 1 xi (by rfl) HNW.out hlenX hszX ?_; intro g4 c4 l4 w4 i4 gr4 ho4)
          refine hK.out _ _ ?_ (fun hHeld2 => ?_)
          · (try dsimp only); exact ⟨HGR.out _ gr4 0 _ d0, HGR.out _ gr4 2 _ d2, HGR.out _ gr4 3 _ d3⟩
          clear hK K hHeld
          have hHeld := hHeld2
          clear hHeld2
          try simp only [Act.put, List.setIfInBounds_toArray, List.set_cons_zero, List.set_cons_succ]
          refine wpAnyH_take (i := 10) (oi := { dst := some 27, op := Go.Op.indexAddr 59 (Go.Operand.tmp 5) (Go.Operand.tmp 18), type := 0, pos := "l06_passing.go:174", after := #[{ on := 1, ground := Go.Ground.data }, { on := 0, ground := Go.Ground.phase }, { on := 1, ground := Go.Ground.phase }, { on := 2, ground := Go.Ground.phase }, { on := 3, ground := Go.Ground.phase }, { on := 4, ground := Go.Ground.phase }, { on := 5, ground := Go.Ground.phase }, { on := 6, ground := Go.Ground.phase }, { on := 7, ground := Go.Ground.phase }, { on := 8, ground := Go.Ground.phase }, { on := 9, ground := Go.Ground.phase }], guard := none }) (v := ?_) rfl (by kernel_rfl) (by kernel_rfl) (by kernel_rfl) (fun _ _ _ h => h) (Or.inl ⟨by rfl, ?_⟩) (by assumption) ?_
          rotate_left
          · (intro w hSw; (try dsimp only at hSw); go_simp); (try with_reducible rfl)
          try simp only [Act.put, List.setIfInBounds_toArray, List.set_cons_zero, List.set_cons_succ]
          refine wpAnyH_ready (rs := [11]) (by kernel_rfl) (by simp) ?_
          refine AllReadyH.cons (o := { dst := none, op := Go.Op.store 26 (Go.Operand.tmp 27) (Go.Operand.tmp 26), type := 0, pos := "l06_passing.go:174", after := #[{ on := 10, ground := Go.Ground.data }, { on := 9, ground := Go.Ground.data }, { on := 9, ground := Go.Ground.chain }, { on := 0, ground := Go.Ground.phase }, { on := 1, ground := Go.Ground.phase }, { on := 2, ground := Go.Ground.phase }, { on := 3, ground := Go.Ground.phase }, { on := 4, ground := Go.Ground.phase }, { on := 5, ground := Go.Ground.phase }, { on := 6, ground := Go.Ground.phase }, { on := 7, ground := Go.Ground.phase }, { on := 8, ground := Go.Ground.phase }, { on := 9, ground := Go.Ground.phase }], guard := none }) rfl (fun K hK => ?_) AllReadyH.nil
          have f4 : w4.frozen? ⟨w1.heap.size, 1, none⟩ = false := (HBK.out _ gr4).free 1
          have e4 := (HBK.out _ gr4).cell 1
          simp only [List.getElem?_cons_zero, List.getElem?_cons_succ] at e4
          go_simp
          refine hK.out _ _ ?_ (fun hHeld2 => ?_)
          · (try dsimp only); exact ⟨HST.out _ 0 _ _ (HGR.out _ gr4 0 _ d0), HST.out _ 2 _ _ (HGR.out _ gr4 2 _ d2), HST.out _ 3 _ _ (HGR.out _ gr4 3 _ d3)⟩
          clear hK K hHeld
          have hHeld := hHeld2
          clear hHeld2
          try simp only [Act.put, List.setIfInBounds_toArray, List.set_cons_zero, List.set_cons_succ]
          refine wpAnyH_done (by kernel_rfl) (Calm.ok ?_) _
          gi_wp2
          have hk4 : KeepsOthers W (w4.setCell ⟨w1.heap.size, 1, none⟩ (.slice (some ⟨g4, 0, none⟩) l4 c4)) := (((KeepsOthers.drew W).trans (KeepsOthers.alloc _ _)).trans (KeepsOthers.of_grownBy gr4 HA.out.row_cells)).trans (KeepsOthers.setCell _ _ _)
          have hb4 : Below w.heap.size W (w4.setCell ⟨w1.heap.size, 1, none⟩ (.slice (some ⟨g4, 0, none⟩) l4 c4)) := (((Below.drew (Below.refl _ W)).alloc (by show w.heap.size ≤ W.heap.size; have := HB1.out.size; omega) _).grown gr4 (by have := HB1.out.size; simp; omega) (by intro q hq; have := HA.out.own_ge hq; omega)).setCell (by show w.heap.size ≤ w1.heap.size; omega) _
          obtain ⟨m1, m2, m3⟩ := heads_app HA.out HO.out hap.symm i4 gr4 ho4 ⟨w1.heap.size, 1, none⟩ rfl (.slice (some ⟨g4, 0, none⟩) l4 c4)
          have hP4 : Blk (w4.setCell ⟨w1.heap.size, 1, none⟩ (.slice (some ⟨g4, 0, none⟩) l4 c4)) w.heap.size _ _ := (Blk.block (w' := w4) (HP1.out.alloc (.cells #[.int .i64 xi] 2)) (gr4.block _ (by have := HP1.out.lt; simp; omega) (fun e => by have := HA.out.own_ge e.symm; omega))).other (by show w.heap.size ≠ w1.heap.size; omega) _
          have hU4 := (HBK.out _ gr4).set 1 (.slice (some ⟨g4, 0, none⟩) l4 c4)
          exact ⟨hk4.from _, hb4, ⟨⟨u, (.slice (some ⟨g4, 0, none⟩) l4 c4), hU4, (by rw [HSN.out 0, if_neg (by omega), List.append_nil]; exact m2), (by rw [HSN.out 1, if_pos (by simp)]; exact m1), m3.symm⟩, hP4⟩, HB1.out.trans hb4⟩
        exact AllReadyH.nil
  case done =>
    rintro D zs W hD hzs ⟨⟨hH, bP1⟩, hB1⟩ hK
    rw [hzs, (passM_all len a b).1, (passM_all len a b).2] at hH
    obtain ⟨u, v, hU, iu, iv, hap⟩ := hH
    have c0 := hU.cell 0
    have c1 := hU.cell 1
    simp only [List.getElem?_cons_zero, List.getElem?_cons_succ] at c0 c1
    clear bS bP bJ hra hrb hok hV b1 b2 hB0
    gi_wp2
    gi_region
    all_goals gi_wp2
    all_goals refine ⟨by simp, .inl ⟨_, _, rfl, run_takeDeferred (w := W.drew) hK, ?_⟩⟩
    all_goals
      have hne : ∀ (x : Value) (B : Nat) (xs : List Int), Ints W B x xs → ∀ g, x.ownBlock = some g → g ≠ D := fun x B xs hx g hg e => by
        subst e
        exact absurd (hx.row_cells _ _ hg hK) (by decide)
      have hIu : Ints (W.drew.putObj D (.deferred none)) w.heap.size u (passL a len) := (iu.block (w' := W.drew.putObj D (.deferred none)) fun g hg hlt => (grownBy_putObj' W.drew D (.deferred none)).block g hlt fun e => by cases e; exact hne _ _ _ iu _ hg rfl).mono (by omega)
      have hIv : Ints (W.drew.putObj D (.deferred none)) w.heap.size v (passL b len) := (iv.block (w' := W.drew.putObj D (.deferred none)) fun g hg hlt => (grownBy_putObj' W.drew D (.deferred none)).block g hlt fun e => by cases e; exact hne _ _ _ iv _ hg rfl).mono (by omega)
      exact ⟨.tuple #[u, v, .int .i64 0], by simp [results, Try.results14, go_sem], u, v, rfl, hIu, hIv, hap, hB1.trans ((Below.drew (Below.refl _ W)).trans (belowK_b (w := w) (Nat.le_refl _) W.drew D _ _ (by omega) hK rfl rfl))⟩
  case stop =>
    rintro D c pre W _ _ h _
    exact h.elim
end Go.Proofs.Ytjhhldfhfebboaa
