/- StateVisits, the program's. No conditions. -/
import Derived.Test.YtgdoadcpjgbioaaPrC
import Derived.Test.YtgdoadcpjgbioaaPrM
import Derived.Deep.RegionHeld3
namespace Go.Proofs.Ytgdoadcpjgbioaa
open Go.RowKit
open Go.Maps (Keyed)
set_option linter.unusedSimpArgs false
set_option linter.unusedVariables false

set_option maxRecDepth 100000 in
theorem stateLaw : WideMaps.KeyLaw Try.prog 60 := deep_law_laid Try.stateLaid (m := 2) (by omega) stateRow (by kernel_rfl) stateWide
/-- the map of counts behind the first j states -/
def VisMap (D : DS) (h : Int) (f : Nat → Int) (j : Nat) : Prop :=
  Maps.IsMap D ∧ ∀ x : Int, 0 ≤ x → x ≤ 2000 → D.atKey (slit h x) (.lit (.int .i64 0)) = .lit (.int .i64 ((cntV f x j : Nat) : Int))
theorem VisMap.zero (h : Int) (f : Nat → Int) : VisMap (.map []) h f 0 := ⟨Maps.isMap_empty, fun x _ _ => by rfl⟩
set_option maxRecDepth 100000 in
theorem VisMap.add {D : DS} {h : Int} {f : Nat → Int} {j : Nat} {x : Int} (hD : VisMap D h f j) (h0 : 0 ≤ h) (h1 : h ≤ 2000) (hx : f j = x) (x0 : 0 ≤ x) (x1 : x ≤ 2000) : VisMap (D.put (slit h x) (.lit (.int .i64 ((cntV f x j : Nat) + 1 : Int)))) h f (j + 1) := by
  have kj : WideAt.IsKeyLit (slit h x) := stateKeyed.key (v := keyS h x) (slit_key h0 h1 x0 x1)
  refine ⟨hD.1.put _ _, fun y y0 y1 => ?_⟩
  by_cases e : y = x
  · subst e
    rw [Maps.atKey_put_same hD.1 kj, cntV_hit hx]
    rfl
  · have hne : slit h y ≠ slit h x := fun e2 => e (slit_inj h0 h1 y0 y1 h0 h1 x0 x1 e2).2
    rw [Maps.atKey_put_other hne, cntV_miss (by rw [hx]; exact fun q => e q.symm)]
    exact hD.2 y y0 y1
theorem cellsW {w w' : World} {r : Option Nat} {b : Nat} {x y : Value} (hg : w.grownBy w' r) (hne : some b ≠ r) (c0 : w.cell? ⟨b, 0, none⟩ = some x) (c1 : w.cell? ⟨b, 1, none⟩ = some y) : w'.cell? ⟨b, 0, none⟩ = some x ∧ w'.cell? ⟨b, 1, none⟩ = some y := by
  have hb := cell_block c0
  have := hg.block b hb hne
  constructor
  · rw [← c0]; unfold World.cell?; simp [this]
  · rw [← c1]; unfold World.cell?; simp [this]

set_option maxRecDepth 10000 in
set_option maxHeartbeats 4000000 in
theorem stateVisits_core (xa : Option Addr) (xc n : Nat) (h : Nat) (f : Nat → Int) (w : World) (hn2 : n ≤ 12) (hh : h ≤ 10) (hf : ∀ i, 0 ≤ f i ∧ f i ≤ 2000)
    (HSt : Calls Try.prog 49 #[.slice xa n xc] w fun e w' => ∃ g cap, e = .returned (.tuple #[.slice (some ⟨g, 0, none⟩) n cap, .int .i64 0]) ∧ Below w.heap.size w w' ∧ g < w'.heap.size ∧ ∀ W, Below w'.heap.size w' W → ∀ i, i < n → W.cell? ⟨g, i * 2, none⟩ = some (.int .i64 h) ∧ W.cell? ⟨g, i * 2 + 1, none⟩ = some (.int .i64 (f i))) :
    Calls Try.prog 31 #[.slice xa n xc] w fun e w' => ∃ u, e = .returned (.tuple #[u, .int .i64 0]) ∧ Ints w' w.heap.size u (visL f n n) ∧ Below w.heap.size w w' := by
  obtain ⟨i0, hi, hz0, hz1, hz2⟩ := info_parts Try.info64
  have hmm := @run_makeMap Try.prog
  have HF := Lib.hid hf
  have HLen := Lib.hid (visL_len f n n)
  have HAT := Lib.hid (fun k hk => visL_at f n k hk)
  clear hf
  go_enter Try.func31, Try.ntmps31
  go_wp2_with fail
  refine HSt.mono ?_
  rintro e w1 ⟨g, cap, rfl, b1, hg, hc⟩
  clear HSt
  have HC := Lib.hid hc
  clear hc
  have own0 : (w1.alloc (.map #[] 0)).ownsMap Try.prog 60 (plainElem Try.prog 2) w1.heap.size 0 (.map [] : DS) := World.ownsMap_made _ _ _ _
  have b0 : Below w1.heap.size w1 (w1.alloc (.map #[] 0)) := (Below.refl _ w1).alloc (Nat.le_refl _) _
  obtain ⟨mb, hmb⟩ : ∃ mb, mb = w1.heap.size := ⟨_, rfl⟩
  rw [← hmb] at own0
  have HMB := Lib.hid hmb
  go_wp2
  rw [← hmb]
  clear hmb
  go_loopw [23] (fun c wr => ∃ (k : Nat) (D : DS), k ≤ n ∧ c = .int .i64 k ∧ wr.ownsMap Try.prog 60 (plainElem Try.prog 2) mb k D ∧ VisMap D h f k ∧ Below w1.heap.size w1 wr) (fun c _ => n - (intOf c).toNat)
  case atStart => exact ⟨0, _, by omega, rfl, own0, VisMap.zero _ _, b0⟩
  case round =>
    clear own0 b0
    obtain ⟨k, D, hk, rfl, hown, hD, hb⟩ := hrel
    by_cases hlt : k < n
    · obtain ⟨c0, c1⟩ := HC.out wr hb k hlt
      obtain ⟨f0, f1⟩ := HF.out k
      obtain ⟨x, hx⟩ : ∃ x, f k = x := ⟨_, rfl⟩
      rw [hx] at c1 f0 f1
      have hkey : keyOf Try.prog 60 (.agg #[.int .i64 h, .int .i64 x]) = some (slit h x) := slit_key (by omega) (by omega) (by omega) (by omega)
      have hne : wr.heap.size ≠ mb := by have := hown.lt; omega
      have hne2 : g ≠ wr.heap.size := by have := hb.size; omega
      go_wp2
      obtain ⟨vb, hvb⟩ : ∃ vb, vb = wr.heap.size := ⟨_, rfl⟩
      obtain ⟨W0, hW0⟩ : ∃ W0, wr.alloc (.cells #[.int .i64 h, .int .i64 x] 60) = W0 := ⟨_, rfl⟩
      have hB1 : Below w1.heap.size w1 W0 := by rw [← hW0]; exact hb.alloc hb.size _
      have hown1 : W0.drew.ownsMap Try.prog 60 (plainElem Try.prog 2) mb k D := by
        rw [← hW0]; exact ownsIdx_below hown (((Below.refl _ wr).alloc (Nat.le_refl _) _).drew)
      have hP : Blk W0 vb [.int .i64 h, .int .i64 x] 60 := by rw [← hW0, hvb]; exact Blk.made wr _ _
      have d0 : W0.drew.cell? ⟨vb, 0, none⟩ = some (.int .i64 h) := hP.cell 0
      have d1 : W0.drew.cell? ⟨vb, 1, none⟩ = some (.int .i64 x) := hP.cell 1
      rw [hW0, ← hvb]
      rw [← hvb] at hne hne2
      clear hvb hW0 hP c0 c1
      obtain ⟨c, hLk, hat, _⟩ := hown1.lookup_int stateKeyed Try.underlying58 Try.underlying2 (zero64 _) hkey
      have hcv : c = ((cntV f x k : Nat) : Int) := by
        have := hat.symm.trans (hD.2 x f0 f1)
        simpa using this
      have hcl := cntV_le f x k
      have HVM := Lib.hid (hD.add (h := (h : Int)) (by omega) (by omega) hx f0 f1)
      rw [← hcv] at HVM
      have hc0 : 0 ≤ c := by omega
      have hc1 : c ≤ 12 := by omega
      obtain ⟨v0, st, W1, hE, g1, hL1, hS⟩ := entry_count stateLaw Try.underlying58 Try.underlying2 (fun _ => zero64 _) hown1 (by unfold maxLen; omega) hkey hLk
      obtain ⟨W2, hR, ho2, g2⟩ := hS (c + 1) (WalkArith.wf_i64 (by omega))
      have e1 := cellsW g1 (by simpa using hne) d0 d1
      have e2 := cellsW g2 (by simpa using hne) d0 d1
      have hB2 : Below w1.heap.size w1 W2 := (Below.drew hB1).grown g2 (Below.drew hB1).size (fun j hj => by cases hj; rw [HMB.out]; exact Nat.le_refl _)
      have HO2 := Lib.hid ho2
      have HB2 := Lib.hid hB2
      simp only [goInt] at hE hR
      have hwr : IntKind.i64.wrap (c + 1) = c + 1 := IntWalk.i64_in _ (by omega)
      clear hown hown1 hD hb hB1 hcv hS g1 g2 hat hx ho2 hB2 hcl
      refine wp_region_held_drew (S := (fun W' => W'.cell? ⟨vb, 0, none⟩ = some (.int .i64 h) ∧ W'.cell? ⟨vb, 1, none⟩ = some (.int .i64 x))) (by kernel_rfl) ?_ (fun hHeld => ?_)
      · (try dsimp only); exact ⟨d0, d1⟩
      refine wpAnyH_take (i := 0) (oi := { dst := some 27, op := Go.Op.move (Go.Operand.tmp 6), type := 58, pos := "l11_primes.go:192", after := #[], guard := none }) (v := ?_) rfl (by kernel_rfl) (by kernel_rfl) (by kernel_rfl) (fun _ _ _ h => h) (Or.inl ⟨by rfl, ?_⟩) (by assumption) ?_
      rotate_left
      · (intro w hSw; (try dsimp only at hSw); go_simp); (try with_reducible rfl)
      try simp only [Act.put, List.setIfInBounds_toArray, List.set_cons_zero, List.set_cons_succ]
      refine wpAnyH_take (i := 1) (oi := { dst := some 28, op := Go.Op.load 60 (Go.Operand.tmp 8), type := 60, pos := "l11_primes.go:192", after := #[], guard := none }) (v := ?_) rfl (by kernel_rfl) (by kernel_rfl) (by kernel_rfl) (fun _ _ _ h => h) (Or.inl ⟨by rfl, ?_⟩) (by assumption) ?_
      rotate_left
      · (intro w hSw; (try dsimp only at hSw); go_simp); (try with_reducible rfl)
      try simp only [Act.put, List.setIfInBounds_toArray, List.set_cons_zero, List.set_cons_succ]
      refine wpAnyH_ready (rs := [2, 4]) (by kernel_rfl) (by simp) ?_
      refine AllReadyH.cons (o := { dst := some 29, op := Go.Op.lookup 58 (Go.Operand.tmp 27) (Go.Operand.tmp 28) false, type := 2, pos := "l11_primes.go:192", after := #[{ on := 0, ground := Go.Ground.data }, { on := 1, ground := Go.Ground.data }], guard := none }) rfl (fun K hK => ?_) ?_
      · go_simp
        refine hK.out _ _ ?_ (fun hHeld2 => ?_)
        · (try dsimp only); exact ⟨d0, d1⟩
        clear hK K hHeld
        have hHeld := hHeld2
        clear hHeld2
        try simp only [Act.put, List.setIfInBounds_toArray, List.set_cons_zero, List.set_cons_succ]
        refine wpAnyH_take (i := 3) (oi := { dst := some 30, op := Go.Op.binOp Go.BinOp.add 2 (Go.Operand.tmp 29) (Go.Operand.const (Go.Value.int Go.IntKind.i64 1)) 2, type := 2, pos := "l11_primes.go:192", after := #[{ on := 2, ground := Go.Ground.data }], guard := none }) (v := ?_) rfl (by kernel_rfl) (by kernel_rfl) (by kernel_rfl) (fun _ _ _ h => h) (Or.inl ⟨by rfl, ?_⟩) (by assumption) ?_
        rotate_left
        · (intro w hSw; (try dsimp only at hSw); go_simp); (try with_reducible rfl)
        try simp only [Act.put, List.setIfInBounds_toArray, List.set_cons_zero, List.set_cons_succ]
        refine wpAnyH_ready (rs := [4]) (by kernel_rfl) (by simp) ?_
        refine AllReadyH.cons (o := { dst := some 31, op := Go.Op.mapEntry 58 (Go.Operand.tmp 27) (Go.Operand.tmp 28), type := 0, pos := "l11_primes.go:192", after := #[{ on := 0, ground := Go.Ground.data }, { on := 1, ground := Go.Ground.data }, { on := 0, ground := Go.Ground.phase }, { on := 1, ground := Go.Ground.phase }, { on := 2, ground := Go.Ground.textOnly Go.Departure.mapOpAssignEntry }, { on := 3, ground := Go.Ground.textOnly Go.Departure.mapOpAssignEntry }], guard := none }) rfl (fun K hK => ?_) AllReadyH.nil
        go_simp
        refine hK.out _ _ ?_ (fun hHeld2 => ?_)
        · (try dsimp only); exact e1
        clear hK K hHeld
        have hHeld := hHeld2
        clear hHeld2
        try simp only [Act.put, List.setIfInBounds_toArray, List.set_cons_zero, List.set_cons_succ]
        refine wpAnyH_take (i := 5) (oi := { dst := some 32, op := Go.Op.extract (Go.Operand.tmp 31) 1, type := 3, pos := "l11_primes.go:192", after := #[{ on := 4, ground := Go.Ground.data }], guard := none }) (v := ?_) rfl (by kernel_rfl) (by kernel_rfl) (by kernel_rfl) (fun _ _ _ h => h) (Or.inl ⟨by rfl, ?_⟩) (by assumption) ?_
        rotate_left
        · (intro w hSw; (try dsimp only at hSw); go_simp); (try with_reducible rfl)
        try simp only [Act.put, List.setIfInBounds_toArray, List.set_cons_zero, List.set_cons_succ]
        refine wpAnyH_ready (rs := [6]) (by kernel_rfl) (by simp) ?_
        refine AllReadyH.cons (o := { dst := none, op := Go.Op.entryStore 58 (Go.Operand.tmp 27) (Go.Operand.tmp 32) (Go.Operand.tmp 30), type := 0, pos := "l11_primes.go:192", after := #[{ on := 0, ground := Go.Ground.data }, { on := 5, ground := Go.Ground.data }, { on := 3, ground := Go.Ground.data }, { on := 4, ground := Go.Ground.chain }, { on := 0, ground := Go.Ground.phase }, { on := 1, ground := Go.Ground.phase }, { on := 2, ground := Go.Ground.phase }, { on := 3, ground := Go.Ground.phase }, { on := 4, ground := Go.Ground.phase }, { on := 5, ground := Go.Ground.phase }], guard := none }) rfl (fun K hK => ?_) AllReadyH.nil
        go_simp
        refine hK.out _ _ ?_ (fun hHeld2 => ?_)
        · (try dsimp only); exact e2
        clear hK K hHeld
        have hHeld := hHeld2
        clear hHeld2
        try simp only [Act.put, List.setIfInBounds_toArray, List.set_cons_zero, List.set_cons_succ]
        refine wpAnyH_done (by kernel_rfl) ?_ _
        go_wp2
        go_roundw
        case rel => exact ⟨k + 1, _, by omega, by go_num, HO2.out, HVM.out, HB2.out⟩
        case measure => simp [intOf]; omega
      refine AllReadyH.cons (o := { dst := some 31, op := Go.Op.mapEntry 58 (Go.Operand.tmp 27) (Go.Operand.tmp 28), type := 0, pos := "l11_primes.go:192", after := #[{ on := 0, ground := Go.Ground.data }, { on := 1, ground := Go.Ground.data }, { on := 0, ground := Go.Ground.phase }, { on := 1, ground := Go.Ground.phase }, { on := 2, ground := Go.Ground.textOnly Go.Departure.mapOpAssignEntry }, { on := 3, ground := Go.Ground.textOnly Go.Departure.mapOpAssignEntry }], guard := none }) rfl (fun K hK => ?_) ?_
      · go_simp
        refine hK.out _ _ ?_ (fun hHeld2 => ?_)
        · (try dsimp only); exact e1
        clear hK K hHeld
        have hHeld := hHeld2
        clear hHeld2
        try simp only [Act.put, List.setIfInBounds_toArray, List.set_cons_zero, List.set_cons_succ]
        refine wpAnyH_take (i := 5) (oi := { dst := some 32, op := Go.Op.extract (Go.Operand.tmp 31) 1, type := 3, pos := "l11_primes.go:192", after := #[{ on := 4, ground := Go.Ground.data }], guard := none }) (v := ?_) rfl (by kernel_rfl) (by kernel_rfl) (by kernel_rfl) (fun _ _ _ h => h) (Or.inl ⟨by rfl, ?_⟩) (by assumption) ?_
        rotate_left
        · (intro w hSw; (try dsimp only at hSw); go_simp); (try with_reducible rfl)
        try simp only [Act.put, List.setIfInBounds_toArray, List.set_cons_zero, List.set_cons_succ]
        refine wpAnyH_ready (rs := [2]) (by kernel_rfl) (by simp) ?_
        refine AllReadyH.cons (o := { dst := some 29, op := Go.Op.lookup 58 (Go.Operand.tmp 27) (Go.Operand.tmp 28) false, type := 2, pos := "l11_primes.go:192", after := #[{ on := 0, ground := Go.Ground.data }, { on := 1, ground := Go.Ground.data }], guard := none }) rfl (fun K hK => ?_) AllReadyH.nil
        go_simp
        refine hK.out _ _ ?_ (fun hHeld2 => ?_)
        · (try dsimp only); exact e1
        clear hK K hHeld
        have hHeld := hHeld2
        clear hHeld2
        try simp only [Act.put, List.setIfInBounds_toArray, List.set_cons_zero, List.set_cons_succ]
        refine wpAnyH_take (i := 3) (oi := { dst := some 30, op := Go.Op.binOp Go.BinOp.add 2 (Go.Operand.tmp 29) (Go.Operand.const (Go.Value.int Go.IntKind.i64 1)) 2, type := 2, pos := "l11_primes.go:192", after := #[{ on := 2, ground := Go.Ground.data }], guard := none }) (v := ?_) rfl (by kernel_rfl) (by kernel_rfl) (by kernel_rfl) (fun _ _ _ h => h) (Or.inl ⟨by rfl, ?_⟩) (by assumption) ?_
        rotate_left
        · (intro w hSw; (try dsimp only at hSw); go_simp); (try with_reducible rfl)
        try simp only [Act.put, List.setIfInBounds_toArray, List.set_cons_zero, List.set_cons_succ]
        refine wpAnyH_ready (rs := [6]) (by kernel_rfl) (by simp) ?_
        refine AllReadyH.cons (o := { dst := none, op := Go.Op.entryStore 58 (Go.Operand.tmp 27) (Go.Operand.tmp 32) (Go.Operand.tmp 30), type := 0, pos := "l11_primes.go:192", after := #[{ on := 0, ground := Go.Ground.data }, { on := 5, ground := Go.Ground.data }, { on := 3, ground := Go.Ground.data }, { on := 4, ground := Go.Ground.chain }, { on := 0, ground := Go.Ground.phase }, { on := 1, ground := Go.Ground.phase }, { on := 2, ground := Go.Ground.phase }, { on := 3, ground := Go.Ground.phase }, { on := 4, ground := Go.Ground.phase }, { on := 5, ground := Go.Ground.phase }], guard := none }) rfl (fun K hK => ?_) AllReadyH.nil
        go_simp
        refine hK.out _ _ ?_ (fun hHeld2 => ?_)
        · (try dsimp only); exact e2
        clear hK K hHeld
        have hHeld := hHeld2
        clear hHeld2
        try simp only [Act.put, List.setIfInBounds_toArray, List.set_cons_zero, List.set_cons_succ]
        refine wpAnyH_done (by kernel_rfl) ?_ _
        go_wp2
        go_roundw
        case rel => exact ⟨k + 1, _, by omega, by go_num, HO2.out, HVM.out, HB2.out⟩
        case measure => simp [intOf]; omega
      exact AllReadyH.nil
    · obtain rfl : k = n := by omega
      clear hmm
      obtain ⟨wo, rfl⟩ : ∃ W, W = wr := ⟨_, rfl⟩
      go_wp2_with (at_make; refine wpList_make_full _ rfl _ _ 25 rfl wo.heap.size 2 i0 (.int .i64 0) 1 Try.underlying25 hi hz0 hz1 _ _ _ _ k rfl rfl rfl rfl (by rw [hz2]; omega) (by unfold maxLen; omega) (Nat.le_refl _) ?_; intro w2 hown2 hgr; refine Hid.out ?_)
      have hI : Ints w2 wo.heap.size (.slice (some ⟨wo.heap.size, 0, none⟩) k k) ((visL f k k).take 0 ++ List.replicate (k - 0) 0) := by
        unfold Ints
        have e9 : (madeCells (Value.int .i64 0).cells (k * 1)).toList = List.replicate k (Value.int .i64 0) := by rw [Nat.mul_one]; exact toList_madeCells_one _ _
        rw [e9] at hown2
        simpa using hown2
      have b2 : Below wo.heap.size wo w2 := (Below.refl _ _).grown hgr (Nat.le_refl _) (by simp)
      have hsw : w1.heap.size ≤ wo.heap.size := hb.size
      have hmbl := hown.lt
      clear hown2 hgr hi hz0 hz1 hz2
      obtain ⟨vr, hvr⟩ : ∃ vr, vr = wo.heap.size := ⟨_, rfl⟩
      rw [← hvr] at hI
      have HVR := Lib.hid hvr
      rw [← hvr]
      clear hvr
      refine Lib.hid ?_
      go_wp2
      go_loopw [39] (fun i wr => ∃ j : Nat, j ≤ k ∧ i = .int .i64 j ∧ Ints wr vr (.slice (some ⟨vr, 0, none⟩) k k) ((visL f k k).take j ++ List.replicate (k - j) 0) ∧ Below wo.heap.size wo wr) (fun i _ => k - (intOf i).toNat)
      case atStart => exact ⟨0, Nat.zero_le _, rfl, hI, b2⟩
      case round =>
        clear hI b2
        obtain ⟨j, hj, rfl, hr, hbr⟩ := hrel
        by_cases hlj : j < k
        · have hbw := hb.trans (hbr.mono hb.size)
          obtain ⟨c0, c1⟩ := HC.out wr hbw j hlj
          obtain ⟨f0, f1⟩ := HF.out j
          have hatj := HAT.out j hlj
          obtain ⟨x, hx⟩ : ∃ x, f j = x := ⟨_, rfl⟩
          rw [hx] at c1 f0 f1 hatj
          have hkey : keyOf Try.prog 60 (.agg #[.int .i64 h, .int .i64 x]) = some (slit h x) := slit_key (by omega) (by omega) (by omega) (by omega)
          have hcell := hD.2 x f0 f1
          have hcl := cntV_le f x k
          have hownj := ownsIdx_below (ownsIdx_below hown hbr) ((Below.refl wr.heap.size wr).alloc (Nat.le_refl _) (.cells #[.int .i64 h, .int .i64 x] 60))
          have hzz : (zeroValue 2).run Try.prog (wr.alloc (.cells #[.int .i64 h, .int .i64 x] 60)) = .ok (.int .i64 0) (wr.alloc (.cells #[.int .i64 h, .int .i64 x] 60)) := zero64 _
          have hr1 := hr.alloc (.cells #[.int .i64 h, .int .i64 x] 60)
          have hll : j < ((visL f k k).take j ++ List.replicate (k - j) 0).length := by have := HLen.out; simp; omega
          have hold := hr1.cell j hll
          have hfree := hr1.free j
          have hb2 : Below wo.heap.size wo (wr.alloc (.cells #[.int .i64 h, .int .i64 x] 60)) := hbr.alloc hbr.size _
          have hset := take_set_next (visL f k k) k j hlj (by rw [HLen.out]; exact Nat.le_refl _)
          rw [hatj] at hset
          have hvw : wo.heap.size ≤ vr := by have := HVR.out; omega
          have hNN := Lib.hid (fun (c : Int) (hc : c = ((cntV f x k : Nat) : Int)) => show Ints ((wr.alloc (.cells #[.int .i64 h, .int .i64 x] 60)).setCell ⟨vr, j, none⟩ (.int .i64 c)) vr (.slice (some ⟨vr, 0, none⟩) k k) ((visL f k k).take (j + 1) ++ List.replicate (k - (j + 1)) 0) from by
            have := hr1.set j c
            rw [hc, hset] at this
            rw [hc]; exact this)
          have HBB := Lib.hid (fun c : Int => hb2.setCell (p := ⟨vr, j, none⟩) hvw (.int .i64 c))
          have HCV := Lib.hid hcell
          clear hr hr1 hbr hset hatj hx hcell hll hown hb hbw hD
          go_wp2_with (at_lookup; refine wpList_lookup_own_int _ rfl _ _ 58 rfl 60 2 .i64 stateKeyed Try.underlying58 Try.underlying2 hzz mb k D rfl hownj _ _ rfl hkey ?_; intro c hat hwc; refine Hid.out ?_)
          have hcv : c = ((cntV f x k : Nat) : Int) := by
            have := hat.symm.trans HCV.out
            simpa using this
          have HN := Lib.hid (hNN.out c hcv)
          have hc0 : 0 ≤ c := by omega
          have hc1 : c ≤ 12 := by omega
          clear hat hcv hNN hownj
          refine Lib.hid ?_
          go_wp2
          go_roundw
          case rel => exact ⟨j + 1, by omega, by go_num, HN.out, HBB.out c⟩
          case measure => simp [intOf]; omega
        · obtain rfl : j = k := by omega
          clear HC HF
          go_wp2
          go_ret2
          exact ⟨_, rfl, by have := HLen.out; simpa [List.take_of_length_le (Nat.le_of_eq this)] using (hr.mono (by have := HVR.out; have := b1.size; omega)), b1.trans ((hb.trans (hbr.mono hb.size)).mono b1.size)⟩

theorem stateVisits_impl (v : Value) (B : Nat) (p : List Int) (w : World) (hI : Ints w B v p) :
    Calls Try.prog 31 #[v] w fun e w' => ∃ u, e = .returned (.tuple #[u, .int .i64 (prC p)]) ∧ Ints w' w.heap.size u (vsA p) ∧ Below w.heap.size w w' := by
  have HO := ownStates_any v B p w hI
  obtain ⟨xa, xc, rfl⟩ := ints_slO hI
  by_cases hz : prC p = 0
  · obtain ⟨hok, h1, h2⟩ := prC_zero hz
    obtain ⟨a, b, c⟩ := prH_num hz
    obtain ⟨l1, l2⟩ := okPat_len hok
    rw [vsA_yes hz, hz]
    rw [hz, prL_yes hz] at HO
    refine stateVisits_core xa xc p.length (prH p) (prF p) w l2 b (prF_small p hz) (HO.mono ?_)
    rintro e w1 ⟨u, rfl, hs, hb⟩
    have hl := ofL_len p (prH p)
    rcases hs.shape with ⟨rfl, h0⟩ | ⟨g, cap, rfl, hg, hg2, _⟩
    · rw [h0] at hl; simp at hl; omega
    · rw [hl] at hs ⊢
      exact ⟨g, cap, rfl, hb, hg2, sts_cells rfl hs hg2⟩
  · rw [vsA_no hz]
    rw [prL_no hz] at HO
    have hne : (prC p != 0) = true := by simpa using hz
    clear hI
    generalize prC p = c at *
    generalize p.length = n at *
    go_enter Try.func31, Try.ntmps31
    go_wp2_with fail
    refine HO.mono ?_
    rintro e w1 ⟨u, rfl, hs, b1⟩
    go_wp2
    go_ret2
    exact ⟨_, rfl, Ints.nil _ _, b1⟩
end Go.Proofs.Ytgdoadcpjgbioaa
