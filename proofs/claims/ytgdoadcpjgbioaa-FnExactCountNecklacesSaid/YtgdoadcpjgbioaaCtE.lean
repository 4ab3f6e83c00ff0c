/- CountNecklaces, the model's and the program's. No conditions. -/
import Derived.Test.YtgdoadcpjgbioaaCtB
import Derived.Test.YtgdoadcpjgbioaaCtC
import Derived.Test.YtgdoadcpjgbioaaHeldIn
namespace Go.Proofs.Ytgdoadcpjgbioaa
open Go.RowKit Go.Shelf
set_option linter.unusedSimpArgs false
set_option linter.unusedVariables false
attribute [local go_sem] Oper.semAt_some

theorem blkC_own {β : Type} (b : Nat) (cs : β → List Value) (T : TypeId) : Go.Own (fun (s : β) W => Blk W b (cs s) T) := fun s W W' row hs hg hr =>
  (hg.block b hs.lt fun e => by
    obtain ⟨o, ho, hc⟩ := hr _ e.symm
    have := hs
    unfold Blk at this
    rw [this] at ho
    cases ho
    simp [Obj.isCells] at hc).trans hs

theorem neckA_no {b n : Int} (h : cntC b n ≠ 0) : neckA b n = 0 := by simp [neckA, h]
theorem neckA_yes {b n : Nat} (h : cntC b n = 0) : neckA (b : Int) (n : Int) = Int.tdiv (neckN b n) (n : Int) := by simp [neckA, h]
theorem rotS_nil (b n : Nat) : rotS b n [] = 0 := rfl
theorem div_dv {N d : Nat} (h1 : 1 ≤ d) (h2 : d ≤ N) : 1 ≤ N / d ∧ N / d ≤ N := ⟨Nat.div_pos h2 h1, Nat.div_le_self _ _⟩
/-- what is said of a sum over divisors up to k -/
theorem rot_bound {b N k : Nat} (h : (b + 1) ^ N ≤ 1000000000000) (hN : N ≤ 12) (hk : k ≤ N) : -12000000000000 ≤ rotS b N (divT N k) ∧ rotS b N (divT N k) ≤ 12000000000000 := by
  have h1 := rotS_bound h (divT N k) (fun d hd => by have := divT_mem hd; omega)
  have h2 := divT_len N k
  omega

set_option maxRecDepth 10000 in
set_option maxHeartbeats 2000000 in
theorem countNecklaces_spec (b n : Int) (w : World) :
    Calls Try.prog 37 #[.int .i64 b, .int .i64 n] w fun e w' => e = .returned (.tuple #[.int .i64 (neckA b n), .int .i64 (cntC b n)]) ∧ Below w.heap.size w w' := by
  have HC := fun W => l12Code_any b n W
  by_cases hz : cntC b n = 0
  · obtain ⟨⟨b0, b1⟩, ⟨n0, n1⟩, hp⟩ := cntC_zero hz
    obtain ⟨p, rfl⟩ : ∃ k : Nat, b = k := ⟨b.toNat, by omega⟩
    obtain ⟨N, rfl⟩ : ∃ k : Nat, n = k := ⟨n.toNat, by omega⟩
    rw [neckA_yes hz]
    rw [hz] at HC ⊢
    simp only [Int.toNat_natCast] at hp
    have HE := Lib.hid (fun (d : Nat) W (hd : d ≤ N) => l12Exact_any p d W (by omega) (by omega) (pow_mid hp hd))
    have HM := Lib.hid (fun (m : Nat) W (h1 : 1 ≤ m) (h2 : m ≤ N) => l12Mobius_any m W h1 (by omega))
    have HB := Lib.hid (fun k (hk : k ≤ N) => rot_bound hp (by omega) hk)
    have HX := Lib.hid (fun d (hd : d ≤ N) => exN_bound (pow_mid hp hd))
    have H1 := Lib.hid (fun k (h : N % (k + 1) = 0) => show rotS p N (divT N (k + 1)) = rotS p N (divT N k) + muN (N / (k + 1)) * exN p (k + 1) by rw [divT_yes h, rotS_snoc])
    have H2 := Lib.hid (fun k (h : N % (k + 1) ≠ 0) => show rotS p N (divT N (k + 1)) = rotS p N (divT N k) by rw [divT_no h])
    clear hp hz
    go_enter Try.func37, Try.ntmps37
    go_wp2_with fail
    refine (HC _).mono ?_
    rintro e w1 ⟨rfl, rfl⟩
    clear HC
    go_wp2
    go_loop [7, 8] (fun s i => ∃ k : Nat, k ≤ N ∧ i = .int .i64 ((k + 1 : Nat) : Int) ∧ s = .int .i64 (rotS p N (divT N k))) (fun _ i => N + 1 - (intOf i).toNat)
    case atStart => exact ⟨0, Nat.zero_le _, rfl, rfl⟩
    case round =>
      obtain ⟨k, hk, rfl, rfl⟩ := hrel
      have hb := HB.out k hk
      by_cases hlt : k < N
      · have hlt' : k + 1 ≤ N := hlt
        have em : (N : Int) % ((k + 1 : Nat) : Int) = ((N % (k + 1) : Nat) : Int) := (Int.natCast_emod N (k + 1)).symm
        have ed : (N : Int) / ((k + 1 : Nat) : Int) = ((N / (k + 1) : Nat) : Int) := (Int.natCast_ediv N (k + 1)).symm
        obtain ⟨d1, d2⟩ := div_dv (N := N) (d := k + 1) (by omega) hlt'
        have hmu := muF_bound (N / (k + 1)) 2 (N / (k + 1))
        have hex := HX.out (k + 1) hlt'
        have hmt := mu_times hmu hex
        have hm0 := HM.out (N / (k + 1)) w d1 d2
        have he0 := HE.out (k + 1) w hlt'
        have h1 := H1.out k
        have h2 := H2.out k
        clear HE HM HB HX H1 H2
        rw [← ed] at hm0
        have hq0 : 0 ≤ (N : Int) / ((k + 1 : Nat) : Int) := by rw [ed]; omega
        have hq1 : (N : Int) / ((k + 1 : Nat) : Int) ≤ 12 := by rw [ed]; omega
        by_cases h0 : N % (k + 1) = 0
        · have HR := Lib.hid (h1 h0)
          rw [h0] at em
          change -(1000000000000 : Int) ≤ muN (N / (k + 1)) * exN p (k + 1) ∧ muN (N / (k + 1)) * exN p (k + 1) ≤ 1000000000000 at hmt
          clear h1 h2 h0 hmu ed d1 d2
          generalize muN (N / (k + 1)) = mu at *
          generalize exN p (k + 1) = ex at *
          obtain ⟨q, hq⟩ : ∃ q : Int, ((k + 1 : Nat) : Int) = q := ⟨_, rfl⟩
          have hqq1 : 1 ≤ q := by omega
          have hqq2 : q ≤ (N : Int) := by omega
          rw [hq] at em hm0 he0 hq0 hq1 ⊢
          have HQ := Lib.hid hq
          obtain ⟨P, hP⟩ : ∃ P, mu * ex = P := ⟨_, rfl⟩
          have hwr : IntKind.i64.wrap (mu * ex) = P := by rw [hP] at hmt ⊢; exact IntWalk.i64_in _ (by omega)
          rw [hP] at hmt HR
          generalize rotS p N (divT N k) = s at *
          clear hq
          go_wp2_with fail
          refine hm0.mono ?_
          rintro e w1 ⟨rfl, rfl⟩
          go_wp2_with fail
          refine he0.mono ?_
          rintro e w1 ⟨rfl, rfl⟩
          go_wp2
          go_round
          case rel => exact ⟨k + 1, by omega, by have := HQ.out; subst this; go_num, by rw [HR.out]⟩
          case measure => simp [intOf]; omega
        · have HR := Lib.hid (h2 h0)
          obtain ⟨q, hq⟩ : ∃ q : Int, ((k + 1 : Nat) : Int) = q := ⟨_, rfl⟩
          have hqq1 : 1 ≤ q := by omega
          have hqq2 : q ≤ (N : Int) := by omega
          rw [hq] at em ⊢
          have ez : ¬ (N : Int) % q = 0 := by rw [em]; omega
          have ez' : ((N : Int) % q == 0) = false := beq_eq_false_iff_ne.2 ez
          have HQ := Lib.hid hq
          clear hq h1 h2 em h0 ed d1 d2 hq0 hq1 hm0 he0 hmu hex hmt
          generalize rotS p N (divT N k) = s at *
          go_wp2
          go_round
          case rel => exact ⟨k + 1, by omega, by have := HQ.out; subst this; go_num, by rw [HR.out]⟩
          case measure => simp [intOf]; omega
      · obtain rfl : k = N := by omega
        have HN := Lib.hid (show neckN p k = rotS p k (divT k k) from rfl)
        clear HE HM HB HX H1 H2
        generalize rotS p k (divT k k) = s at *
        go_wp2
        go_ret2
        exact ⟨by rw [HN.out]; rfl, Below.refl _ _⟩
  · rw [neckA_no hz]
    have hne : (cntC b n != 0) = true := by simpa using hz
    generalize cntC b n = c at *
    go_enter Try.func37, Try.ntmps37
    go_wp2_with fail
    refine (HC _).mono ?_
    rintro e w1 ⟨rfl, rfl⟩
    go_wp2
    go_ret2
    exact ⟨rfl, Below.refl _ _⟩

set_option maxRecDepth 100000 in
set_option maxHeartbeats 4000000 in
theorem countNecklaces_row (p N : Nat) (w : World) (hz : cntC (p : Int) (N : Int) = 0) (hp100 : p ≤ 100) (h1 : 1 ≤ N) (h12 : N ≤ 12) (hp : (p + 1) ^ N ≤ 1000000000000) :
    CallsIn Fence.wide 6 Try.prog 38 #[.int .i64 p, .int .i64 N] w fun e w' => e = .returned (.tuple #[.int .i64 (neckA p N), .int .i64 0]) ∧ Below w.heap.size w w' := by
  have HC := fun W => countingError_any (p : Int) (N : Int) W
  rw [hz] at HC
  refine callsIn_of_wp_marks Try.func38 rfl trivial ?_ rfl
  simp only [Try.ntmps38, List.size_toArray, List.length_cons, List.length_nil, Nat.reduceAdd, Nat.reduceSub, Array.replicate_succ, Array.replicate_zero, List.push_toArray, List.append_toArray, List.nil_append, List.cons_append]
  gi_wp2_with (first
    | (refine ⟨trivial, ?_⟩; gi_at_call 56; refine (callsIn_wide.2 (HC _)).mono ?_; rintro e w1 ⟨rfl, rfl⟩)
    | (refine ⟨trivial, ?_⟩; gi_at_call 44; refine (callsIn_wide.2 (divisors_any _ _)).mono ?_; rintro e w3 ⟨rfl, rfl⟩))
  obtain ⟨W0, hW0⟩ : ∃ W0, ((((w.alloc (.cells #[.int .i64 p] 2)).alloc (.cells #[.int .i64 N] 2)).alloc (.cells #[.int .i64 0] 2)).alloc (.cells #[.int .i64 N] 2)) = W0 := ⟨_, rfl⟩
  have hB0 : Below w.heap.size w W0 := by rw [← hW0]; exact ((((Below.refl _ w).alloc (Nat.le_refl _) _).alloc (by simp) _).alloc (by simp; omega) _).alloc (by simp; omega) _
  have hsz : W0.heap.size = w.heap.size + 4 := by rw [← hW0]; simp
  have bP : Blk W0 w.heap.size [.int .i64 p] 2 := by rw [← hW0]; exact (((Blk.made w #[.int .i64 p] 2).alloc _).alloc _).alloc _
  have bN : Blk W0 (w.heap.size + 1) [.int .i64 N] 2 := by
    rw [← hW0]
    have := Blk.made (w.alloc (.cells #[.int .i64 p] 2)) #[.int .i64 N] 2
    simp only [World.size_alloc] at this
    exact (this.alloc _).alloc _
  have bS : Blk W0 (w.heap.size + 1 + 1) [.int .i64 0] 2 := by
    rw [← hW0]
    have := Blk.made ((w.alloc (.cells #[.int .i64 p] 2)).alloc (.cells #[.int .i64 N] 2)) #[.int .i64 0] 2
    simp only [World.size_alloc] at this
    exact this.alloc _
  have bD : Blk W0 (w.heap.size + 1 + 1 + 1) [.int .i64 N] 2 := by
    rw [← hW0]
    have := Blk.made (((w.alloc (.cells #[.int .i64 p] 2)).alloc (.cells #[.int .i64 N] 2)).alloc (.cells #[.int .i64 0] 2)) #[.int .i64 N] 2
    simp only [World.size_alloc] at this
    exact this
  rw [hW0]
  obtain ⟨gp, hgp⟩ : ∃ g, g = w.heap.size := ⟨_, rfl⟩
  obtain ⟨gn, hgn⟩ : ∃ g, g = w.heap.size + 1 := ⟨_, rfl⟩
  obtain ⟨gs, hgs⟩ : ∃ g, g = w.heap.size + 1 + 1 := ⟨_, rfl⟩
  obtain ⟨gd, hgd⟩ : ∃ g, g = w.heap.size + 1 + 1 + 1 := ⟨_, rfl⟩
  rw [← hgd, ← hgs, ← hgn, ← hgp]
  rw [← hgp] at bP
  rw [← hgn] at bN
  rw [← hgs] at bS
  rw [← hgd] at bD
  have hle1 : w.heap.size ≤ gs := by omega
  have hle2 : w.heap.size ≤ W0.heap.size := by omega
  have hne1 : gp ≠ gs := by omega
  have hne2 : gn ≠ gs := by omega
  have hne3 : gd ≠ gs := by omega
  clear hgp hgn hgs hgd hsz
  have HPT := Lib.hid (fun (d : Nat) W (hd : d ≤ N) => same_flip (patternsWith_any p d W hp100 (by omega) (pow_mid hp hd)))
  have HMU := Lib.hid (fun (m : Nat) W (a1 : 1 ≤ m) (a2 : m ≤ N) => same_flip (mobius_any m W a1 (by omega)))
  have HBD := Lib.hid (fun (ds : List Nat) (hd : ∀ d ∈ ds, d ≤ N) => rotS_bound hp ds hd)
  have HX := Lib.hid (fun d (hd : d ≤ N) => exN_bound (pow_mid hp hd))
  have HNK := Lib.hid (neckA_yes hz)
  clear hW0 HC hz hp
  refine range_bnd (F := Fence.wide) rfl (by omega) (gf := 67) (bs := #[]) (lb := #[.pointer (some ⟨gd, 0, none⟩)]) rfl trivial (enters_of Try.func67 (by kernel_rfl) rfl) (divs_bndS 5 (by omega) gd N (by omega) W0) (fun _ => rfl)
    (fun pre W => ((Blk W gs [.int .i64 (rotS p N (pre.map Subtype.val))] 2 ∧ Blk W gp [.int .i64 p] 2) ∧ (Blk W gn [.int .i64 N] 2 ∧ Blk W gd [.int .i64 N] 2)) ∧ Below w.heap.size w W)
    (OwnFrom.and (OwnFrom.and (OwnFrom.and (Own.from (blkC_own gs (fun pre : List (Dv N) => [.int .i64 (rotS p N (pre.map Subtype.val))]) _) _) (Own.from (blkC_own gp (fun _ => _) _) _)) (OwnFrom.and (Own.from (blkC_own gn (fun _ => _) _) _) (Own.from (blkC_own gd (fun _ => _) _) _))) (ownFrom_below (Nat.le_refl _) hle2))
    (fun pre W h => h.1.2.2.cell 0)
    ⟨⟨⟨bS, bP⟩, bN, bD⟩, hB0⟩
    (fun x => { tmps := #[.int .i64 p, .int .i64 N, .pointer (some ⟨gp, 0, none⟩), .pointer (some ⟨gn, 0, none⟩), .int .i64 0, .int .i64 0, .int .i64 0, .pointer (some ⟨gs, 0, none⟩), .int .i64 x.1, .int .i64 p, .int .i64 N, .int .i64 0, .int .i64 0, .bool false, undef, .int .i64 N, .func (.func 67) #[] #[.pointer (some ⟨gd, 0, none⟩)], .int .i64 x.1, undef, undef, undef, undef, undef, undef, undef, undef, undef, undef, undef, undef, undef], defers := [] }) ?assign ?body ?done
  case assign =>
    intro l x W K hK
    unfold encT
    gi_wp2
    exact hK
  case body =>
    rintro l pre ⟨x, x1, x2, x3⟩ W ⟨⟨⟨bS1, bP1⟩, bN1, bD1⟩, hB1⟩ hlt
    have cs := bS1.cell 0
    have cp := bP1.cell 0
    have cn := bN1.cell 0
    have fs := bS1.free 0
    simp only [List.getElem?_cons_zero] at cs cp cn
    obtain ⟨d1, d2⟩ := div_dv x1 x2
    have ed : (N : Int) / (x : Int) = ((N / x : Nat) : Int) := (Int.natCast_ediv N x).symm
    have hq0 : 0 ≤ (N : Int) / (x : Int) := by rw [ed]; omega
    have hq1 : (N : Int) / (x : Int) ≤ 12 := by rw [ed]; omega
    have hm0 := fun W => HMU.out (N / x) W d1 d2
    have he0 := fun W => HPT.out x W x2
    have hmu := muF_bound (N / x) 2 (N / x)
    have hmt := mu_times hmu (HX.out x x2)
    change -(1000000000000 : Int) ≤ muN (N / x) * exN p x ∧ muN (N / x) * exN p x ≤ 1000000000000 at hmt
    have hbd := HBD.out (pre.map Subtype.val) (fun d hd => by
      obtain ⟨y, _, rfl⟩ := List.mem_map.1 hd
      exact y.2.2.1)
    rw [List.length_map] at hbd
    have HSN := Lib.hid (show rotS p N ((pre ++ [(⟨x, x1, x2, x3⟩ : Dv N)]).map Subtype.val) = rotS p N (pre.map Subtype.val) + muN (N / x) * exN p x by rw [List.map_append, List.map_singleton, rotS_snoc])
    rw [← ed] at hm0
    have HS1 := Lib.hid bS1
    have HP1 := Lib.hid bP1
    have HN1 := Lib.hid bN1
    have HD1 := Lib.hid bD1
    have HB1 := Lib.hid hB1
    clear bS1 bP1 bN1 bD1 hB1 HPT HMU HBD HX HNK bS bP bN bD hB0 hmu ed d1 d2
    generalize muN (N / x) = mu at *
    generalize exN p x = ex at *
    obtain ⟨P, hP⟩ : ∃ P, mu * ex = P := ⟨_, rfl⟩
    have hwr : IntKind.i64.wrap (mu * ex) = P := by rw [hP] at hmt ⊢; exact IntWalk.i64_in _ (by omega)
    rw [hP] at hmt HSN
    generalize rotS p N (pre.map Subtype.val) = sv at *
    have hx1 : (1 : Int) ≤ (x : Int) := by omega
    have hx0 : ¬ x = 0 := by omega
    have hwP : IntKind.i64.wrap P = P := IntWalk.i64_in _ (by omega)
    have hwS : IntKind.i64.wrap (sv + P) = sv + P := IntWalk.i64_in _ (by omega)
    have hwq : IntKind.i64.wrap ((N : Int) / (x : Int)) = (N : Int) / (x : Int) := IntWalk.i64_in _ (by omega)
    simp only
    gi_wp2
    refine wpIn_region_heldR (S := (fun W' => W'.cell? ⟨gn, 0, none⟩ = some (.int .i64 N) ∧ W'.cell? ⟨gp, 0, none⟩ = some (.int .i64 p))) (by kernel_rfl) (by kernel_rfl) ?_ (fun hHeld => ?_)
    · (try dsimp only); exact ⟨cn, cp⟩
    refine wpAnyH_take (i := 1) (oi := { dst := some 19, op := Go.Op.load 2 (Go.Operand.tmp 3), type := 2, pos := "l12_counting.go:161", after := #[], guard := none }) (v := ?_) rfl (by kernel_rfl) (by kernel_rfl) (by kernel_rfl) (fun _ _ _ h => h) (Or.inl ⟨by rfl, ?_⟩) (by assumption) ?_
    rotate_left
    · (intro w hSw; (try dsimp only at hSw); go_simp); (try with_reducible rfl)
    try simp only [Act.put, List.setIfInBounds_toArray, List.set_cons_zero, List.set_cons_succ]
    refine wpAnyH_take (i := 2) (oi := { dst := some 20, op := Go.Op.move (Go.Operand.tmp 8), type := 2, pos := "l12_counting.go:161", after := #[], guard := none }) (v := ?_) rfl (by kernel_rfl) (by kernel_rfl) (by kernel_rfl) (fun _ _ _ h => h) (Or.inl ⟨by rfl, ?_⟩) (by assumption) ?_
    rotate_left
    · (intro w hSw; (try dsimp only at hSw); go_simp); (try with_reducible rfl)
    try simp only [Act.put, List.setIfInBounds_toArray, List.set_cons_zero, List.set_cons_succ]
    refine wpAnyH_take (i := 3) (oi := { dst := some 21, op := Go.Op.binOp Go.BinOp.quo 2 (Go.Operand.tmp 19) (Go.Operand.tmp 20) 2, type := 2, pos := "l12_counting.go:161", after := #[{ on := 1, ground := Go.Ground.data }, { on := 2, ground := Go.Ground.data }], guard := none }) (v := ?_) rfl (by kernel_rfl) (by kernel_rfl) (by kernel_rfl) (fun _ _ _ h => h) (Or.inl ⟨by rfl, ?_⟩) (by assumption) ?_
    rotate_left
    · (intro w hSw; (try dsimp only at hSw); go_simp); (try with_reducible rfl)
    try simp only [Act.put, List.setIfInBounds_toArray, List.set_cons_zero, List.set_cons_succ]
    refine wpAnyH_take (i := 5) (oi := { dst := some 23, op := Go.Op.load 2 (Go.Operand.tmp 2), type := 2, pos := "l12_counting.go:161", after := #[], guard := none }) (v := ?_) rfl (by kernel_rfl) (by kernel_rfl) (by kernel_rfl) (fun _ _ _ h => h) (Or.inl ⟨by rfl, ?_⟩) (by assumption) ?_
    rotate_left
    · (intro w hSw; (try dsimp only at hSw); go_simp); (try with_reducible rfl)
    try simp only [Act.put, List.setIfInBounds_toArray, List.set_cons_zero, List.set_cons_succ]
    refine wpAnyH_take (i := 6) (oi := { dst := some 24, op := Go.Op.move (Go.Operand.tmp 8), type := 2, pos := "l12_counting.go:161", after := #[], guard := none }) (v := ?_) rfl (by kernel_rfl) (by kernel_rfl) (by kernel_rfl) (fun _ _ _ h => h) (Or.inl ⟨by rfl, ?_⟩) (by assumption) ?_
    rotate_left
    · (intro w hSw; (try dsimp only at hSw); go_simp); (try with_reducible rfl)
    try simp only [Act.put, List.setIfInBounds_toArray, List.set_cons_zero, List.set_cons_succ]
    refine wpAnyH_ready (rs := [0, 4]) (by kernel_rfl) (by simp) ?_
    refine AllReadyH.cons (o := { dst := some 18, op := Go.Op.load 2 (Go.Operand.tmp 7), type := 2, pos := "l12_counting.go:161", after := #[], guard := none }) rfl (fun K hK => ?_) ?_
    · go_simp
      refine hK.out _ _ ?_ (fun hHeld2 => ?_)
      · (try dsimp only); exact ⟨cn, cp⟩
      clear hK K hHeld
      have hHeld := hHeld2
      clear hHeld2
      try simp only [Act.put, List.setIfInBounds_toArray, List.set_cons_zero, List.set_cons_succ]
      refine wpAnyH_ready (rs := [4]) (by kernel_rfl) (by simp) ?_
      refine AllReadyH.cons (o := { dst := some 22, op := Go.Op.call { callee := Go.Callee.value (Go.Operand.func 45), args := #[Go.Operand.tmp 21], argTypes := #[2] }, type := 2, pos := "l12_counting.go:161", after := #[{ on := 3, ground := Go.Ground.data }], guard := none }) rfl (fun K hK => ?_) AllReadyH.nil
      go_simp
      (go_at_call 45; (with_reducible refine (hm0 _).mono ?_); rintro e w5 ⟨rfl, rfl⟩)
      refine hK.out _ _ ?_ (fun hHeld2 => ?_)
      · (try dsimp only); exact ⟨cn, cp⟩
      clear hK K hHeld
      have hHeld := hHeld2
      clear hHeld2
      try simp only [Act.put, List.setIfInBounds_toArray, List.set_cons_zero, List.set_cons_succ]
      refine wpAnyH_ready (rs := [7]) (by kernel_rfl) (by simp) ?_
      refine AllReadyH.cons (o := { dst := some 25, op := Go.Op.call { callee := Go.Callee.value (Go.Operand.func 59), args := #[Go.Operand.tmp 23, Go.Operand.tmp 24], argTypes := #[2, 2] }, type := 2, pos := "l12_counting.go:161", after := #[{ on := 5, ground := Go.Ground.data }, { on := 6, ground := Go.Ground.data }, { on := 4, ground := Go.Ground.chain }], guard := none }) rfl (fun K hK => ?_) AllReadyH.nil
      go_simp
      (go_at_call 59; (with_reducible refine (he0 _).mono ?_); rintro e w5 ⟨rfl, rfl⟩)
      refine hK.out _ _ ?_ (fun hHeld2 => ?_)
      · (try dsimp only); exact ⟨cn, cp⟩
      clear hK K hHeld
      have hHeld := hHeld2
      clear hHeld2
      try simp only [Act.put, List.setIfInBounds_toArray, List.set_cons_zero, List.set_cons_succ]
      refine wpAnyH_take (i := 8) (oi := { dst := some 26, op := Go.Op.binOp Go.BinOp.mul 2 (Go.Operand.tmp 22) (Go.Operand.tmp 25) 2, type := 2, pos := "l12_counting.go:161", after := #[{ on := 4, ground := Go.Ground.data }, { on := 7, ground := Go.Ground.data }], guard := none }) (v := ?_) rfl (by kernel_rfl) (by kernel_rfl) (by kernel_rfl) (fun _ _ _ h => h) (Or.inl ⟨by rfl, ?_⟩) (by assumption) ?_
      rotate_left
      · (intro w hSw; (try dsimp only at hSw); go_simp); (try with_reducible rfl)
      try simp only [Act.put, List.setIfInBounds_toArray, List.set_cons_zero, List.set_cons_succ]
      refine wpAnyH_take (i := 9) (oi := { dst := some 27, op := Go.Op.binOp Go.BinOp.add 2 (Go.Operand.tmp 18) (Go.Operand.tmp 26) 2, type := 2, pos := "l12_counting.go:161", after := #[{ on := 0, ground := Go.Ground.data }, { on := 8, ground := Go.Ground.data }], guard := none }) (v := ?_) rfl (by kernel_rfl) (by kernel_rfl) (by kernel_rfl) (fun _ _ _ h => h) (Or.inl ⟨by rfl, ?_⟩) (by assumption) ?_
      rotate_left
      · (intro w hSw; (try dsimp only at hSw); go_simp); (try with_reducible rfl)
      try simp only [Act.put, List.setIfInBounds_toArray, List.set_cons_zero, List.set_cons_succ]
      refine wpAnyH_ready (rs := [10]) (by kernel_rfl) (by simp) ?_
      refine AllReadyH.cons (o := { dst := none, op := Go.Op.store 2 (Go.Operand.tmp 7) (Go.Operand.tmp 27), type := 0, pos := "l12_counting.go:161", after := #[{ on := 9, ground := Go.Ground.data }, { on := 7, ground := Go.Ground.chain }, { on := 0, ground := Go.Ground.phase }, { on := 1, ground := Go.Ground.phase }, { on := 2, ground := Go.Ground.phase }, { on := 3, ground := Go.Ground.phase }, { on := 4, ground := Go.Ground.phase }, { on := 5, ground := Go.Ground.phase }, { on := 6, ground := Go.Ground.phase }, { on := 7, ground := Go.Ground.phase }, { on := 8, ground := Go.Ground.phase }, { on := 9, ground := Go.Ground.phase }], guard := none }) rfl (fun K hK => ?_) AllReadyH.nil
      go_simp
      refine hK.out _ _ ?_ (fun hHeld2 => ?_)
      · (try dsimp only); exact ⟨(World.cell?_setCell_other _ ⟨_, _, _⟩ ⟨_, _, _⟩ _ (by first | (simp; done) | (simp; omega))).trans cn, (World.cell?_setCell_other _ ⟨_, _, _⟩ ⟨_, _, _⟩ _ (by first | (simp; done) | (simp; omega))).trans cp⟩
      clear hK K hHeld
      have hHeld := hHeld2
      clear hHeld2
      try simp only [Act.put, List.setIfInBounds_toArray, List.set_cons_zero, List.set_cons_succ]
      refine wpAnyH_done (by kernel_rfl) (Calm.ok ?_) _
      gi_wp2
      try rw [hwP]
      try rw [hwS]
      have Q1 := HS1.out.set 0 (.int .i64 (sv + P))
      have Q2 := HP1.out.other (p := ⟨gs, 0, none⟩) hne1 (.int .i64 (sv + P))
      have Q3 := HN1.out.other (p := ⟨gs, 0, none⟩) hne2 (.int .i64 (sv + P))
      have Q4 := HD1.out.other (p := ⟨gs, 0, none⟩) hne3 (.int .i64 (sv + P))
      have Q5 := (HB1.out.setCell (p := ⟨gs, 0, none⟩) hle1 (.int .i64 (sv + P))).drew
      exact ⟨((KeepsOthers.setCell W ⟨gs, 0, none⟩ (.int .i64 (sv + P))).trans (KeepsOthers.drew _)).from _, ⟨⟨by rw [HSN.out]; exact Q1, Q2⟩, Q3, Q4⟩, Q5⟩
    refine AllReadyH.cons (o := { dst := some 22, op := Go.Op.call { callee := Go.Callee.value (Go.Operand.func 45), args := #[Go.Operand.tmp 21], argTypes := #[2] }, type := 2, pos := "l12_counting.go:161", after := #[{ on := 3, ground := Go.Ground.data }], guard := none }) rfl (fun K hK => ?_) ?_
    · go_simp
      (go_at_call 45; (with_reducible refine (hm0 _).mono ?_); rintro e w5 ⟨rfl, rfl⟩)
      refine hK.out _ _ ?_ (fun hHeld2 => ?_)
      · (try dsimp only); exact ⟨cn, cp⟩
      clear hK K hHeld
      have hHeld := hHeld2
      clear hHeld2
      try simp only [Act.put, List.setIfInBounds_toArray, List.set_cons_zero, List.set_cons_succ]
      refine wpAnyH_ready (rs := [0, 7]) (by kernel_rfl) (by simp) ?_
      refine AllReadyH.cons (o := { dst := some 18, op := Go.Op.load 2 (Go.Operand.tmp 7), type := 2, pos := "l12_counting.go:161", after := #[], guard := none }) rfl (fun K hK => ?_) ?_
      · go_simp
        refine hK.out _ _ ?_ (fun hHeld2 => ?_)
        · (try dsimp only); exact ⟨cn, cp⟩
        clear hK K hHeld
        have hHeld := hHeld2
        clear hHeld2
        try simp only [Act.put, List.setIfInBounds_toArray, List.set_cons_zero, List.set_cons_succ]
        refine wpAnyH_ready (rs := [7]) (by kernel_rfl) (by simp) ?_
        refine AllReadyH.cons (o := { dst := some 25, op := Go.Op.call { callee := Go.Callee.value (Go.Operand.func 59), args := #[Go.Operand.tmp 23, Go.Operand.tmp 24], argTypes := #[2, 2] }, type := 2, pos := "l12_counting.go:161", after := #[{ on := 5, ground := Go.Ground.data }, { on := 6, ground := Go.Ground.data }, { on := 4, ground := Go.Ground.chain }], guard := none }) rfl (fun K hK => ?_) AllReadyH.nil
        go_simp
        (go_at_call 59; (with_reducible refine (he0 _).mono ?_); rintro e w5 ⟨rfl, rfl⟩)
        refine hK.out _ _ ?_ (fun hHeld2 => ?_)
        · (try dsimp only); exact ⟨cn, cp⟩
        clear hK K hHeld
        have hHeld := hHeld2
        clear hHeld2
        try simp only [Act.put, List.setIfInBounds_toArray, List.set_cons_zero, List.set_cons_succ]
        refine wpAnyH_take (i := 8) (oi := { dst := some 26, op := Go.Op.binOp Go.BinOp.mul 2 (Go.Operand.tmp 22) (Go.Operand.tmp 25) 2, type := 2, pos := "l12_counting.go:161", after := #[{ on := 4, ground := Go.Ground.data }, { on := 7, ground := Go.Ground.data }], guard := none }) (v := ?_) rfl (by kernel_rfl) (by kernel_rfl) (by kernel_rfl) (fun _ _ _ h => h) (Or.inl ⟨by rfl, ?_⟩) (by assumption) ?_
        rotate_left
        · (intro w hSw; (try dsimp only at hSw); go_simp); (try with_reducible rfl)
        try simp only [Act.put, List.setIfInBounds_toArray, List.set_cons_zero, List.set_cons_succ]
        refine wpAnyH_take (i := 9) (oi := { dst := some 27, op := Go.Op.binOp Go.BinOp.add 2 (Go.Operand.tmp 18) (Go.Operand.tmp 26) 2, type := 2, pos := "l12_counting.go:161", after := #[{ on := 0, ground := Go.Ground.data }, { on := 8, ground := Go.Ground.data }], guard := none }) (v := ?_) rfl (by kernel_rfl) (by kernel_rfl) (by kernel_rfl) (fun _ _ _ h => h) (Or.inl ⟨by rfl, ?_⟩) (by assumption) ?_
        rotate_left
        · (intro w hSw; (try dsimp only at hSw); go_simp); (try with_reducible rfl)
        try simp only [Act.put, List.setIfInBounds_toArray, List.set_cons_zero, List.set_cons_succ]
        refine wpAnyH_ready (rs := [10]) (by kernel_rfl) (by simp) ?_
        refine AllReadyH.cons (o := { dst := none, op := Go.Op.store 2 (Go.Operand.tmp 7) (Go.Operand.tmp 27), type := 0, pos := "l12_counting.go:161", after := #[{ on := 9, ground := Go.Ground.data }, { on := 7, ground := Go.Ground.chain }, { on := 0, ground := Go.Ground.phase }, { on := 1, ground := Go.Ground.phase }, { on := 2, ground := Go.Ground.phase }, { on := 3, ground := Go.Ground.phase }, { on := 4, ground := Go.Ground.phase }, { on := 5, ground := Go.Ground.phase }, { on := 6, ground := Go.Ground.phase }, { on := 7, ground := Go.Ground.phase }, { on := 8, ground := Go.Ground.phase }, { on := 9, ground := Go.Ground.phase }], guard := none }) rfl (fun K hK => ?_) AllReadyH.nil
        go_simp
        refine hK.out _ _ ?_ (fun hHeld2 => ?_)
        · (try dsimp only); exact ⟨(World.cell?_setCell_other _ ⟨_, _, _⟩ ⟨_, _, _⟩ _ (by first | (simp; done) | (simp; omega))).trans cn, (World.cell?_setCell_other _ ⟨_, _, _⟩ ⟨_, _, _⟩ _ (by first | (simp; done) | (simp; omega))).trans cp⟩
        clear hK K hHeld
        have hHeld := hHeld2
        clear hHeld2
        try simp only [Act.put, List.setIfInBounds_toArray, List.set_cons_zero, List.set_cons_succ]
        refine wpAnyH_done (by kernel_rfl) (Calm.ok ?_) _
        gi_wp2
        try rw [hwP]
        try rw [hwS]
        have Q1 := HS1.out.set 0 (.int .i64 (sv + P))
        have Q2 := HP1.out.other (p := ⟨gs, 0, none⟩) hne1 (.int .i64 (sv + P))
        have Q3 := HN1.out.other (p := ⟨gs, 0, none⟩) hne2 (.int .i64 (sv + P))
        have Q4 := HD1.out.other (p := ⟨gs, 0, none⟩) hne3 (.int .i64 (sv + P))
        have Q5 := (HB1.out.setCell (p := ⟨gs, 0, none⟩) hle1 (.int .i64 (sv + P))).drew
        exact ⟨((KeepsOthers.setCell W ⟨gs, 0, none⟩ (.int .i64 (sv + P))).trans (KeepsOthers.drew _)).from _, ⟨⟨by rw [HSN.out]; exact Q1, Q2⟩, Q3, Q4⟩, Q5⟩
      refine AllReadyH.cons (o := { dst := some 25, op := Go.Op.call { callee := Go.Callee.value (Go.Operand.func 59), args := #[Go.Operand.tmp 23, Go.Operand.tmp 24], argTypes := #[2, 2] }, type := 2, pos := "l12_counting.go:161", after := #[{ on := 5, ground := Go.Ground.data }, { on := 6, ground := Go.Ground.data }, { on := 4, ground := Go.Ground.chain }], guard := none }) rfl (fun K hK => ?_) ?_
      · go_simp
        (go_at_call 59; (with_reducible refine (he0 _).mono ?_); rintro e w5 ⟨rfl, rfl⟩)
        refine hK.out _ _ ?_ (fun hHeld2 => ?_)
        · (try dsimp only); exact ⟨cn, cp⟩
        clear hK K hHeld
        have hHeld := hHeld2
        clear hHeld2
        try simp only [Act.put, List.setIfInBounds_toArray, List.set_cons_zero, List.set_cons_succ]
        refine wpAnyH_take (i := 8) (oi := { dst := some 26, op := Go.Op.binOp Go.BinOp.mul 2 (Go.Operand.tmp 22) (Go.Operand.tmp 25) 2, type := 2, pos := "l12_counting.go:161", after := #[{ on := 4, ground := Go.Ground.data }, { on := 7, ground := Go.Ground.data }], guard := none }) (v := ?_) rfl (by kernel_rfl) (by kernel_rfl) (by kernel_rfl) (fun _ _ _ h => h) (Or.inl ⟨by rfl, ?_⟩) (by assumption) ?_
        rotate_left
        · (intro w hSw; (try dsimp only at hSw); go_simp); (try with_reducible rfl)
        try simp only [Act.put, List.setIfInBounds_toArray, List.set_cons_zero, List.set_cons_succ]
        refine wpAnyH_ready (rs := [0]) (by kernel_rfl) (by simp) ?_
        refine AllReadyH.cons (o := { dst := some 18, op := Go.Op.load 2 (Go.Operand.tmp 7), type := 2, pos := "l12_counting.go:161", after := #[], guard := none }) rfl (fun K hK => ?_) AllReadyH.nil
        go_simp
        refine hK.out _ _ ?_ (fun hHeld2 => ?_)
        · (try dsimp only); exact ⟨cn, cp⟩
        clear hK K hHeld
        have hHeld := hHeld2
        clear hHeld2
        try simp only [Act.put, List.setIfInBounds_toArray, List.set_cons_zero, List.set_cons_succ]
        refine wpAnyH_take (i := 9) (oi := { dst := some 27, op := Go.Op.binOp Go.BinOp.add 2 (Go.Operand.tmp 18) (Go.Operand.tmp 26) 2, type := 2, pos := "l12_counting.go:161", after := #[{ on := 0, ground := Go.Ground.data }, { on := 8, ground := Go.Ground.data }], guard := none }) (v := ?_) rfl (by kernel_rfl) (by kernel_rfl) (by kernel_rfl) (fun _ _ _ h => h) (Or.inl ⟨by rfl, ?_⟩) (by assumption) ?_
        rotate_left
        · (intro w hSw; (try dsimp only at hSw); go_simp); (try with_reducible rfl)
        try simp only [Act.put, List.setIfInBounds_toArray, List.set_cons_zero, List.set_cons_succ]
        refine wpAnyH_ready (rs := [10]) (by kernel_rfl) (by simp) ?_
        refine AllReadyH.cons (o := { dst := none, op := Go.Op.store 2 (Go.Operand.tmp 7) (Go.Operand.tmp 27), type := 0, pos := "l12_counting.go:161", after := #[{ on := 9, ground := Go.Ground.data }, { on := 7, ground := Go.Ground.chain }, { on := 0, ground := Go.Ground.phase }, { on := 1, ground := Go.Ground.phase }, { on := 2, ground := Go.Ground.phase }, { on := 3, ground := Go.Ground.phase }, { on := 4, ground := Go.Ground.phase }, { on := 5, ground := Go.Ground.phase }, { on := 6, ground := Go.Ground.phase }, { on := 7, ground := Go.Ground.phase }, { on := 8, ground := Go.Ground.phase }, { on := 9, ground := Go.Ground.phase }], guard := none }) rfl (fun K hK => ?_) AllReadyH.nil
        go_simp
        refine hK.out _ _ ?_ (fun hHeld2 => ?_)
        · (try dsimp only); exact ⟨(World.cell?_setCell_other _ ⟨_, _, _⟩ ⟨_, _, _⟩ _ (by first | (simp; done) | (simp; omega))).trans cn, (World.cell?_setCell_other _ ⟨_, _, _⟩ ⟨_, _, _⟩ _ (by first | (simp; done) | (simp; omega))).trans cp⟩
        clear hK K hHeld
        have hHeld := hHeld2
        clear hHeld2
        try simp only [Act.put, List.setIfInBounds_toArray, List.set_cons_zero, List.set_cons_succ]
        refine wpAnyH_done (by kernel_rfl) (Calm.ok ?_) _
        gi_wp2
        try rw [hwP]
        try rw [hwS]
        have Q1 := HS1.out.set 0 (.int .i64 (sv + P))
        have Q2 := HP1.out.other (p := ⟨gs, 0, none⟩) hne1 (.int .i64 (sv + P))
        have Q3 := HN1.out.other (p := ⟨gs, 0, none⟩) hne2 (.int .i64 (sv + P))
        have Q4 := HD1.out.other (p := ⟨gs, 0, none⟩) hne3 (.int .i64 (sv + P))
        have Q5 := (HB1.out.setCell (p := ⟨gs, 0, none⟩) hle1 (.int .i64 (sv + P))).drew
        exact ⟨((KeepsOthers.setCell W ⟨gs, 0, none⟩ (.int .i64 (sv + P))).trans (KeepsOthers.drew _)).from _, ⟨⟨by rw [HSN.out]; exact Q1, Q2⟩, Q3, Q4⟩, Q5⟩
      exact AllReadyH.nil
    exact AllReadyH.nil
  case done =>
    rintro D zs W hD hzs ⟨⟨⟨bS1, bP1⟩, bN1, bD1⟩, hB1⟩ hK
    rw [hzs] at bS1
    have c0 := bS1.cell 0
    have e0 := bN1.cell 0
    simp only [List.getElem?_cons_zero] at c0 e0
    have HNN := Lib.hid (show neckN p N = rotS p N (divL N) from rfl)
    have hbd := HBD.out (divL N) (fun d hd => (divT_mem hd).2.1)
    have hll := divT_len N N
    change (divL N).length ≤ N at hll
    clear bS bP bN bD hB0 HPT HMU HBD HX
    generalize rotS p N (divL N) = s at *
    gi_wp2
    refine ⟨by simp, .inl ⟨_, _, rfl, run_takeDeferred hK, ?_⟩⟩
    refine ⟨.tuple #[.int .i64 (Int.tdiv s (N : Int)), .int .i64 0], by simp [results, Try.results38, go_sem], ?_, hB1.trans (belowK_b (w := w) (Nat.le_refl _) _ D _ _ (by omega) hK rfl rfl)⟩
    rw [HNK.out, HNN.out]

theorem countNecklaces_impl (b n : Int) (w : World) :
    Calls Try.prog 38 #[.int .i64 b, .int .i64 n] w fun e w' => e = .returned (.tuple #[.int .i64 (neckA b n), .int .i64 (cntC b n)]) ∧ Below w.heap.size w w' := by
  by_cases hz : cntC b n = 0
  · obtain ⟨⟨b0, b1⟩, ⟨n0, n1⟩, hp⟩ := cntC_zero hz
    obtain ⟨p, rfl⟩ : ∃ k : Nat, b = k := ⟨b.toNat, by omega⟩
    obtain ⟨N, rfl⟩ : ∃ k : Nat, n = k := ⟨n.toNat, by omega⟩
    rw [hz]
    exact callsIn_wide.1 (countNecklaces_row p N w hz (by omega) (by omega) (by omega) hp)
  · have HC := fun W => countingError_any b n W
    rw [neckA_no hz]
    have hne : (cntC b n != 0) = true := by simpa using hz
    generalize cntC b n = c at *
    have BB := ((Below.refl _ w).alloc (Nat.le_refl _) (.cells #[.int .i64 b] 2)).alloc (by simp) (.cells #[.int .i64 n] 2)
    go_enter Try.func38, Try.ntmps38
    go_wp2_with fail
    refine (HC _).mono ?_
    rintro e w1 ⟨rfl, rfl⟩
    go_wp2
    go_ret2
    exact ⟨rfl, BB⟩
end Go.Proofs.Ytgdoadcpjgbioaa
