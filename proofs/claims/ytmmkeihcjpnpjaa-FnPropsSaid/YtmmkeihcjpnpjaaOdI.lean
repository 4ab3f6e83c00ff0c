/- PropAt, PropsInOrder, ThrowsOfProp, the model's and the program's. No conditions. -/
import Derived.Test.YtmmkeihcjpnpjaaOdS
import Derived.Deep.AppendLies
import Derived.Maps.AppendAt
namespace Go.Proofs.Ytmmkeihcjpnpjaa
open Go.RowKit
set_option linter.unusedSimpArgs false
set_option linter.unusedVariables false

theorem orC_zero {p : List Int} {n hi : Int} (h : orC p n hi = 0) : okPat p = true ∧ 0 ≤ n ∧ n ≤ hi := by
  unfold orC at h
  by_cases h1 : okPat p = true
  · by_cases h2 : inB n 0 hi = true
    · exact ⟨h1, inB_iff.1 h2⟩
    · simp [h1, h2] at h
  · simp [h1] at h

theorem propAt_spec (v : Value) (B : Nat) (p : List Int) (beat : Int) (w : World) (h : Ints w B v p) :
    Calls Try.prog 40 #[v, .int .i64 beat] w fun e w' => e = .returned (.tuple #[.int .i64 (paA p beat), .int .i64 (orC p beat 199)]) ∧ Below w.heap.size w w' := by
  unfold paA
  cases hok : okPat p with
  | false =>
    rw [orC_bad _ _ hok, if_neg (by decide)]
    go_enter Try.func40, Try.ntmps40
    go_wp2_with fail
    refine (l02Ok_any v B p _ h).mono ?_
    rintro e w' ⟨rfl, hb⟩
    rw [hok]
    go_wp2
    go_ret2
    exact ⟨rfl, hb⟩
  | true =>
    cases hin : inB beat 0 199 with
    | false =>
      rw [orC_far hok hin, if_neg (by decide)]
      go_enter Try.func40, Try.ntmps40
      go_wp2_with fail
      refine (l02Ok_any v B p _ h).mono ?_
      rintro e w' ⟨rfl, hb⟩
      rw [hok]
      go_wp2_with fail
      refine (l00In_any _ _ _ _).mono ?_
      rintro e w'' ⟨rfl, rfl⟩
      rw [hin]
      go_wp2
      go_ret2
      exact ⟨rfl, hb⟩
    | true =>
      rw [orC_ok hok hin, if_pos rfl]
      obtain ⟨hb1, hb2⟩ := inB_iff.1 hin
      obtain ⟨k, rfl⟩ : ∃ k : Nat, beat = k := ⟨beat.toNat, by omega⟩
      rw [Int.toNat_natCast]
      have HO := Lib.hid (fun W (hW : Below w.heap.size w W) => l13Order_any v B p (k + 1) W (h.below hW) hok (by omega))
      have HL := Lib.hid (ordA_len p (k + 1))
      obtain ⟨y, hy⟩ : ∃ y, (ordA p (k + 1)).getD k 0 = y := ⟨_, rfl⟩
      rw [hy]
      have HY := Lib.hid hy
      clear hy
      go_enter Try.func40, Try.ntmps40
      go_wp2_with fail
      refine (l02Ok_any v B p _ h).mono ?_
      rintro e w1 ⟨rfl, b1⟩
      rw [hok]
      go_wp2_with fail
      refine (l00In_any _ _ _ _).mono ?_
      rintro e w'' ⟨rfl, rfl⟩
      rw [hin]
      clear h hok hin
      go_wp2_with fail
      refine (HO.out _ b1).mono ?_
      rintro e w2 ⟨u, rfl, i2, b2⟩
      have hl := HL.out
      obtain ⟨g, cap, rfl, _, hg, hcap, _⟩ := i2.shape2 (by omega)
      have c1 := i2.cell k (by omega)
      rw [HY.out] at c1
      rw [hl]
      clear i2 hcap
      go_wp2
      go_ret2
      exact ⟨rfl, b1.trans (b2.mono b1.size)⟩

theorem propAt_impl (v : Value) (B : Nat) (p : List Int) (beat : Int) (w : World) (h : Ints w B v p) :
    Calls Try.prog 26 #[v, .int .i64 beat] w fun e w' => e = .returned (.tuple #[.int .i64 (paA p beat), .int .i64 (orC p beat 199)]) ∧ Below w.heap.size w w' := by
  unfold paA
  cases hok : okPat p with
  | false =>
    rw [orC_bad _ _ hok, if_neg (by decide)]
    go_enter Try.func26, Try.ntmps26
    go_wp2_with fail
    refine (validPattern_impl v B p _ h).mono ?_
    rintro e w' ⟨rfl, hb⟩
    rw [hok]
    go_wp2
    go_ret2
    exact ⟨rfl, hb⟩
  | true =>
    cases hin : inB beat 0 199 with
    | false =>
      rw [orC_far hok hin, if_neg (by decide)]
      have hout : beat < 0 ∨ 199 < beat := by
        refine Classical.byContradiction fun hn => ?_
        rw [inB_true (by omega)] at hin
        cases hin
      go_enter Try.func26, Try.ntmps26
      go_wp2_with fail
      refine (validPattern_impl v B p _ h).mono ?_
      rintro e w' ⟨rfl, hb⟩
      rw [hok]
      rcases hout with h0 | h0
      · go_wp2
        go_ret2
        exact ⟨rfl, hb⟩
      · go_wp2
        go_ret2
        exact ⟨rfl, hb⟩
    | true =>
      rw [orC_ok hok hin, if_pos rfl]
      obtain ⟨hb1, hb2⟩ := inB_iff.1 hin
      obtain ⟨k, rfl⟩ : ∃ k : Nat, beat = k := ⟨beat.toNat, by omega⟩
      rw [Int.toNat_natCast]
      have HO := Lib.hid (fun W (hW : Below w.heap.size w W) => propsInOrderM_any v B p (k + 1) W (h.below hW) hok (by omega))
      have HL := Lib.hid (ordA_len p (k + 1))
      obtain ⟨y, hy⟩ : ∃ y, (ordA p (k + 1)).getD k 0 = y := ⟨_, rfl⟩
      rw [hy]
      have HY := Lib.hid hy
      clear hy
      go_enter Try.func26, Try.ntmps26
      go_wp2_with fail
      refine (validPattern_impl v B p _ h).mono ?_
      rintro e w1 ⟨rfl, b1⟩
      rw [hok]
      clear h hok hin
      go_wp2_with fail
      refine (HO.out _ b1).mono ?_
      rintro e w2 ⟨u, rfl, i2, b2⟩
      have hl := HL.out
      obtain ⟨g, cap, rfl, _, hg, hcap, _⟩ := i2.shape2 (by omega)
      have c1 := i2.cell k (by omega)
      rw [HY.out] at c1
      rw [hl]
      clear i2 hcap
      go_wp2
      go_ret2
      exact ⟨rfl, b1.trans (b2.mono b1.size)⟩

theorem propsInOrder_spec (v : Value) (B : Nat) (p : List Int) (n : Int) (w : World) (h : Ints w B v p) :
    Calls Try.prog 42 #[v, .int .i64 n] w fun e w' => ∃ u, e = .returned (.tuple #[u, .int .i64 (orC p n 200)]) ∧ Ints w' w.heap.size u (orA p n) ∧ Below w.heap.size w w' := by
  unfold orA
  cases hok : okPat p with
  | false =>
    rw [orC_bad _ _ hok, if_neg (by decide)]
    go_enter Try.func42, Try.ntmps42
    go_wp2_with fail
    refine (l02Ok_any v B p _ h).mono ?_
    rintro e w' ⟨rfl, hb⟩
    rw [hok]
    go_wp2
    go_ret2
    exact ⟨_, rfl, Ints.nil _ _, hb⟩
  | true =>
    cases hin : inB n 0 200 with
    | false =>
      rw [orC_far hok hin, if_neg (by decide)]
      go_enter Try.func42, Try.ntmps42
      go_wp2_with fail
      refine (l02Ok_any v B p _ h).mono ?_
      rintro e w' ⟨rfl, hb⟩
      rw [hok]
      go_wp2_with fail
      refine (l00In_any _ _ _ _).mono ?_
      rintro e w'' ⟨rfl, rfl⟩
      rw [hin]
      go_wp2
      go_ret2
      exact ⟨_, rfl, Ints.nil _ _, hb⟩
    | true =>
      rw [orC_ok hok hin, if_pos rfl]
      obtain ⟨hb1, hb2⟩ := inB_iff.1 hin
      obtain ⟨k, rfl⟩ : ∃ k : Nat, n = k := ⟨n.toNat, by omega⟩
      rw [Int.toNat_natCast]
      have HO := Lib.hid (fun W (hW : Below w.heap.size w W) => l13Order_any v B p k W (h.below hW) hok (by omega))
      go_enter Try.func42, Try.ntmps42
      go_wp2_with fail
      refine (l02Ok_any v B p _ h).mono ?_
      rintro e w1 ⟨rfl, b1⟩
      rw [hok]
      go_wp2_with fail
      refine (l00In_any _ _ _ _).mono ?_
      rintro e w'' ⟨rfl, rfl⟩
      rw [hin]
      clear h hok hin
      go_wp2_with fail
      refine (HO.out _ b1).mono ?_
      rintro e w2 ⟨u, rfl, i2, b2⟩
      go_wp2
      go_ret2
      exact ⟨_, rfl, i2.mono b1.size, b1.trans (b2.mono b1.size)⟩

theorem propsInOrder_impl (v : Value) (B : Nat) (p : List Int) (n : Int) (w : World) (h : Ints w B v p) :
    Calls Try.prog 24 #[v, .int .i64 n] w fun e w' => ∃ u, e = .returned (.tuple #[u, .int .i64 (orC p n 200)]) ∧ Ints w' w.heap.size u (orA p n) ∧ Below w.heap.size w w' := by
  unfold orA
  cases hok : okPat p with
  | false =>
    rw [orC_bad _ _ hok, if_neg (by decide)]
    go_enter Try.func24, Try.ntmps24
    go_wp2_with fail
    refine (validPattern_impl v B p _ h).mono ?_
    rintro e w' ⟨rfl, hb⟩
    rw [hok]
    go_wp2
    go_ret2
    exact ⟨_, rfl, Ints.nil _ _, hb⟩
  | true =>
    cases hin : inB n 0 200 with
    | false =>
      rw [orC_far hok hin, if_neg (by decide)]
      have hout : n < 0 ∨ 200 < n := by
        refine Classical.byContradiction fun hn => ?_
        rw [inB_true (by omega)] at hin
        cases hin
      go_enter Try.func24, Try.ntmps24
      go_wp2_with fail
      refine (validPattern_impl v B p _ h).mono ?_
      rintro e w' ⟨rfl, hb⟩
      rw [hok]
      rcases hout with h0 | h0
      · go_wp2
        go_ret2
        exact ⟨_, rfl, Ints.nil _ _, hb⟩
      · go_wp2
        go_ret2
        exact ⟨_, rfl, Ints.nil _ _, hb⟩
    | true =>
      rw [orC_ok hok hin, if_pos rfl]
      obtain ⟨hb1, hb2⟩ := inB_iff.1 hin
      obtain ⟨k, rfl⟩ : ∃ k : Nat, n = k := ⟨n.toNat, by omega⟩
      rw [Int.toNat_natCast]
      have HO := Lib.hid (fun W (hW : Below w.heap.size w W) => propsInOrderM_any v B p k W (h.below hW) hok (by omega))
      go_enter Try.func24, Try.ntmps24
      go_wp2_with fail
      refine (validPattern_impl v B p _ h).mono ?_
      rintro e w1 ⟨rfl, b1⟩
      rw [hok]
      clear h hok hin
      go_wp2_with fail
      refine (HO.out _ b1).mono ?_
      rintro e w2 ⟨u, rfl, i2, b2⟩
      go_wp2
      go_ret2
      exact ⟨_, rfl, i2.mono b1.size, b1.trans (b2.mono b1.size)⟩

/-- 'append(out, y)', and where the new row lies -/
theorem append_int2 (w0 : World) {ops : Array Oper} {rest : List Oper} {o : Oper} {a : Act} {Q : Exit → Act → World → Prop} (hgd : o.guard = none) (s x : Operand)
    (ho : o.op = .call { callee := .builtin .append, args := #[s, x], argTypes := #[24, 24] }) (B : Nat) (v : Value) (xs : List Int) (hs : a.eval s = v) (h : Ints w0 B v xs) (y : Int)
    (hx : a.eval x = .slice (some ⟨w0.heap.size, 0, none⟩) 1 1) (hlen : xs.length ≤ 1000000000) (hB : B ≤ w0.heap.size)
    (hK : ∀ v' w', Ints w' B v' (xs ++ [y]) → w0.grownBy w' v.ownBlock → (v'.ownBlock = v.ownBlock ∨ v'.ownBlock = some (w0.heap.size + 1)) → wpList Try.prog ops Q rest (a.put o.dst v') w') :
    wpList Try.prog ops Q (o :: rest) a (w0.alloc (.cells #[.int .i64 y] 2)) := by
  obtain ⟨i0, hi, hz0, hz1, hz2⟩ := info_parts Try.info64
  refine wpList_append_own_at (w0.alloc (.cells #[.int .i64 y] 2)) hgd s x 24 ho B 2 i0 (.int .i64 0) 1 8 Try.underlying24 hi hz0 hz1 hz2 rfl (by decide) v xs.length _ hs (World.ownsRow.alloc h _)
    ⟨w0.heap.size, 0, none⟩ 1 1 [.int .i64 y] hx rfl ?_ ?_ (by unfold maxLen; omega) (by omega) (by simp; omega) ?_
  · intro j u hj
    match j, hj with
    | 0, hj => simp at hj; subst hj; simp [Addr.add]
  · intro u hu; simp at hu; subst hu; rfl
  · intro v' w' h1 h2 _ h3
    refine hK v' w' ?_ ⟨h2.os, h2.tape, h2.output, by have := h2.size; simp at this; omega, fun k hk hne => ?_⟩ (by simpa using h3)
    · unfold Ints
      simpa using h1
    · rw [h2.block k (by simp; omega) hne]
      exact Below.heap_alloc _ _ _ hk

set_option maxHeartbeats 1000000 in
theorem throwsOfProp_spec (v : Value) (B : Nat) (p : List Int) (x n : Int) (w : World) (h : Ints w B v p) :
    Calls Try.prog 41 #[v, .int .i64 x, .int .i64 n] w fun e w' => ∃ u, e = .returned (.tuple #[u, .int .i64 (thC p x n)]) ∧ Ints w' w.heap.size u (thA p x n) ∧ Below w.heap.size w w' := by
  unfold thA
  cases hok : okPat p with
  | false =>
    rw [thC_bad _ _ hok, if_neg (by decide)]
    go_enter Try.func41, Try.ntmps41
    go_wp2_with fail
    refine (l02Ok_any v B p _ h).mono ?_
    rintro e w' ⟨rfl, hb⟩
    rw [hok]
    go_wp2
    go_ret2
    exact ⟨_, rfl, Ints.nil _ _, hb⟩
  | true =>
    cases hin : inB n 0 200 with
    | false =>
      rw [show thC p x n = 2 by simp [thC, hok, hin], if_neg (by decide)]
      go_enter Try.func41, Try.ntmps41
      go_wp2_with fail
      refine (l02Ok_any v B p _ h).mono ?_
      rintro e w' ⟨rfl, hb⟩
      rw [hok]
      go_wp2_with fail
      refine (l00In_any _ _ _ _).mono ?_
      rintro e w'' ⟨rfl, rfl⟩
      rw [hin]
      go_wp2
      go_ret2
      exact ⟨_, rfl, Ints.nil _ _, hb⟩
    | true =>
      have hsum := sum_bound (fun i hi => okPat_at hok i hi) p.length (Nat.le_refl _)
      rw [List.take_length] at hsum
      obtain ⟨l1, l2⟩ := okPat_len hok
      have hpr : propsA p = p.sum / (p.length : Int) := propsA_true hok
      have hq1 : 0 ≤ propsA p := by rw [hpr]; exact Int.ediv_nonneg hsum.1 (by omega)
      have hq2 : propsA p ≤ 1000 := by rw [hpr]; exact Int.le_trans (Int.ediv_le_self _ hsum.1) (by omega)
      have HP := Lib.hid (fun W (hW : Below w.heap.size w W) => l02Props_any v B p W (h.below hW) (okPat_list hok))
      rw [← hpr] at HP
      cases hi2 : inB x 0 (propsA p - 1) with
      | false =>
        rw [show thC p x n = 2 by simp [thC, hok, hin, hi2], if_neg (by decide)]
        generalize propsA p = q at *
        go_enter Try.func41, Try.ntmps41
        go_wp2_with fail
        refine (l02Ok_any v B p _ h).mono ?_
        rintro e w' ⟨rfl, hb⟩
        rw [hok]
        clear hsum hpr
        go_wp2_with fail
        refine (l00In_any _ _ _ _).mono ?_
        rintro e w'' ⟨rfl, rfl⟩
        rw [hin]
        go_wp2_with fail
        refine (HP.out _ hb).mono ?_
        rintro e w'' ⟨rfl, rfl⟩
        go_wp2_with fail
        refine (l00In_any _ _ _ _).mono ?_
        rintro e w'' ⟨rfl, rfl⟩
        rw [hi2]
        go_wp2
        go_ret2
        exact ⟨_, rfl, Ints.nil _ _, hb⟩
      | true =>
        rw [show thC p x n = 0 by simp [thC, hok, hin, hi2], if_pos rfl]
        obtain ⟨hb1, hb2⟩ := inB_iff.1 hin
        obtain ⟨k, rfl⟩ : ∃ k : Nat, n = k := ⟨n.toNat, by omega⟩
        rw [Int.toNat_natCast]
        have HO := Lib.hid (fun W (hW : Below w.heap.size w W) => l13Order_any v B p k W (h.below hW) hok (by omega))
        have HL := Lib.hid (ordA_len p k)
        generalize propsA p = q at *
        generalize ordA p k = L at *
        go_enter Try.func41, Try.ntmps41
        go_wp2_with fail
        refine (l02Ok_any v B p _ h).mono ?_
        rintro e w1 ⟨rfl, b1⟩
        rw [hok]
        clear hsum hpr
        go_wp2_with fail
        refine (l00In_any _ _ _ _).mono ?_
        rintro e w'' ⟨rfl, rfl⟩
        rw [hin]
        go_wp2_with fail
        refine (HP.out _ b1).mono ?_
        rintro e w'' ⟨rfl, rfl⟩
        go_wp2_with fail
        refine (l00In_any _ _ _ _).mono ?_
        rintro e w'' ⟨rfl, rfl⟩
        rw [hi2]
        clear h hok hin hi2 HP
        go_wp2_with fail
        have hE : Ints (w1.alloc (.cells #[] 2)) w1.heap.size (.slice (some ⟨w1.heap.size, 0, none⟩) 0 0) [] := World.ownsRow_lit w1 #[] 0 (Nat.le_refl _) (by simp [maxLen]) rfl
        have b1' := b1.alloc b1.size (.cells #[] 2)
        refine (HO.out _ b1').mono ?_
        rintro e w2 ⟨u, rfl, i2, b2⟩
        have hE := (hE.below b2).mono b1.size
        have B2 := b1'.trans (b2.mono b1'.size)
        have hS2 := B2.size
        have hu := b2.size
        simp only [World.size_alloc] at hu
        have hN1 := b1.size
        rw [World.size_alloc] at i2
        generalize w1.heap.size = N1 at *
        obtain ⟨ga, cap, rfl⟩ := ints_slOd i2
        have hl := HL.out
        rw [hl]
        rw [hl] at i2
        have HC := Lib.hid i2
        have HU := Lib.hid i2.under
        clear b1 b1' b2 HO i2 hl
        have hA0 : Hid (∀ g, (Value.slice ga k cap).ownBlock = some g → (Value.slice (some ⟨N1, 0, none⟩) 0 0).ownBlock ≠ some g) := Lib.hid fun g hg e => by
          have h1 := HC.out.own_ge hg
          simp [Value.ownBlock] at e h1
          omega
        go_wp2
        go_loopw [8, 10] (fun v i wr => ∃ m : Nat, m ≤ k ∧ i = .int .i64 m ∧ Ints wr w.heap.size v (thF x L m) ∧ Ints wr w.heap.size (.slice ga k cap) L ∧ Hid (∀ g, (Value.slice ga k cap).ownBlock = some g → v.ownBlock ≠ some g) ∧ Below w.heap.size w wr ∧ w2.heap.size ≤ wr.heap.size) (fun _ i _ => k - (intOf i).toNat)
        case atStart => exact ⟨0, Nat.zero_le _, rfl, hE, HC.out.mono (by omega), hA0, B2, Nat.le_refl _⟩
        case round =>
          obtain ⟨m, hm, rfl, hi, hC, hA, hb, hs⟩ := hrel
          have hBs := hb.size
          by_cases hlt : m < k
          · have hl := HL.out
            obtain ⟨g, cp, e, _, hg, _, _⟩ := hC.shape2 (by omega)
            rw [hl] at e
            cases e
            have c1 := hC.cell m (by omega)
            have hln := thF_len x L m
            by_cases hy : L.getD m 0 = x
            · have HE := Lib.hid (thF_yes hy)
              rw [hy] at c1
              have HU' := Lib.hid hC.under
              clear HC HU hy hl hA0 hE
              go_wp2_with (at_builtin; refine append_int2 _ rfl _ _ rfl _ _ _ rfl hi (m : Int) rfl (by omega) hBs ?_; intro v' w3 hi3 hg3 hw3; refine Hid.out ?_)
              have hb3 := hi.below_grown hb hBs hg3
              have hC3 : Ints w3 w.heap.size (.slice (some ⟨g, 0, none⟩) k cap) L := hC.block fun q hq hlt => hg3.block q hlt fun e => hA.out q hq e.symm
              have hs3 : w2.heap.size ≤ w3.heap.size := Nat.le_trans hs hg3.size
              have hA3 : Hid (∀ q, (Value.slice (some ⟨g, 0, none⟩) k cap).ownBlock = some q → v'.ownBlock ≠ some q) := Lib.hid fun q hq e => by
                rcases hw3 with e2 | e2
                · exact hA.out q hq (e2.symm.trans e)
                · have h1 := HU'.out q hq
                  rw [e2] at e
                  simp at e
                  omega
              rw [← HE.out] at hi3
              clear hg3 hw3 hi hb hC hA hs HU'
              refine Lib.hid ?_
              go_wp2
              go_roundw
              case rel => exact ⟨m + 1, by omega, by go_num, hi3, hC3, hA3, hb3, hs3⟩
              case measure => simp [intOf]; omega
            · have HE := Lib.hid (thF_no hy)
              have hy' : (L.getD m 0 == x) = false := by simpa using hy
              have HCC := Lib.hid hC
              generalize L.getD m 0 = y at *
              clear HC HU hC hl hA0 hE
              go_wp2
              go_roundw
              case rel => exact ⟨m + 1, by omega, by go_num, by rw [HE.out]; exact hi, HCC.out, hA, hb, hs⟩
              case measure => simp [intOf]; omega
          · obtain rfl : m = k := by omega
            clear HC HU hA0 hE
            go_wp2
            go_ret2
            exact ⟨_, rfl, hi, hb⟩

theorem throwsOfProp_impl (v : Value) (B : Nat) (p : List Int) (x n : Int) (w : World) (h : Ints w B v p) :
    Calls Try.prog 27 #[v, .int .i64 x, .int .i64 n] w fun e w' => ∃ u, e = .returned (.tuple #[u, .int .i64 (thC p x n)]) ∧ Ints w' w.heap.size u (thA p x n) ∧ Below w.heap.size w w' := by
  have HO := propsInOrder_impl v B p n w h
  unfold thA
  by_cases hz : orC p n 200 = 0
  · obtain ⟨hok, hb1, hb2⟩ := orC_zero hz
    have hin : inB n 0 200 = true := inB_true ⟨hb1, hb2⟩
    have HP := Lib.hid (fun W (hW : Below w.heap.size w W) => propsOf_impl v B p W (h.below hW))
    rw [okC_true hok] at HP
    rw [show orA p n = ordA p n.toNat from if_pos hz, hz] at HO
    obtain ⟨k, rfl⟩ : ∃ k : Nat, n = k := ⟨n.toNat, by omega⟩
    rw [Int.toNat_natCast] at *
    have HL := Lib.hid (ordA_len p k)
    generalize ordA p k = L at *
    cases hi2 : inB x 0 (propsA p - 1) with
    | false =>
      rw [show thC p x k = 2 by simp [thC, hok, hin, hi2], if_neg (by decide)]
      have hout : x < 0 ∨ ¬ x < 0 ∧ propsA p ≤ x := by
        refine Classical.byContradiction fun hn => ?_
        rw [inB_true (by omega)] at hi2
        cases hi2
      generalize propsA p = q at *
      clear hz hi2
      go_enter Try.func27, Try.ntmps27
      go_wp2_with fail
      refine HO.mono ?_
      rintro e w1 ⟨u, rfl, i1, b1⟩
      clear hok hin h
      go_wp2_with fail
      refine (HP.out _ b1).mono ?_
      rintro e w2 ⟨rfl, b2⟩
      rcases hout with h0 | h0
      · go_wp2
        go_ret2
        exact ⟨_, rfl, Ints.nil _ _, b1.trans (b2.mono b1.size)⟩
      · obtain ⟨h0, h00⟩ := h0
        go_wp2
        go_ret2
        exact ⟨_, rfl, Ints.nil _ _, b1.trans (b2.mono b1.size)⟩
    | true =>
      rw [show thC p x k = 0 by simp [thC, hok, hin, hi2], if_pos rfl]
      have hx := inB_iff.1 hi2
      obtain ⟨hx1, hx2⟩ := hx
      generalize propsA p = q at *
      clear hz hi2
      go_enter Try.func27, Try.ntmps27
      go_wp2_with fail
      refine HO.mono ?_
      rintro e w1 ⟨u, rfl, i1, b1⟩
      clear hok hin h
      go_wp2_with fail
      refine (HP.out _ b1).mono ?_
      rintro e w2 ⟨rfl, b2⟩
      have i2 := i1.below b2
      have B2 := b1.trans (b2.mono b1.size)
      have hS2 := B2.size
      obtain ⟨ga, cap, rfl⟩ := ints_slOd i2
      have hl := HL.out
      rw [hl]
      rw [hl] at i2
      have HC := Lib.hid i2
      have HU := Lib.hid i2.under
      clear b1 b2 HO i1 i2 HP
      go_wp2
      go_loopw [12, 38] (fun v i wr => ∃ m : Nat, m ≤ k ∧ i = .int .i64 m ∧ Ints wr w2.heap.size v (thF x L m) ∧ Below w2.heap.size w2 wr) (fun _ i _ => k - (intOf i).toNat)
      case atStart => exact ⟨0, Nat.zero_le _, rfl, Ints.nil _ _, Below.refl _ _⟩
      case round =>
        obtain ⟨m, hm, rfl, hi, hb⟩ := hrel
        by_cases hlt : m < k
        · have hC := HC.out.below hb
          obtain ⟨g, cp, e, _, hg, _, _⟩ := hC.shape2 (by omega)
          cases e
          have c1 := hC.cell m (by omega)
          have hln := thF_len x L m
          have hBs := hb.size
          by_cases hy : L.getD m 0 = x
          · have HE := Lib.hid (thF_yes hy)
            rw [hy] at c1
            clear HC HU hC hy hl
            go_wp2_with (at_builtin; refine append_int _ rfl _ _ rfl _ _ _ rfl hi (m : Int) rfl (by omega) hBs ?_; intro v' w3 hi3 hg3; refine Hid.out ?_)
            have hb3 := hi.below_grown hb hBs hg3
            rw [← HE.out] at hi3
            clear hg3 hi hb
            refine Lib.hid ?_
            go_wp2
            go_roundw
            case rel => exact ⟨m + 1, by omega, by go_num, hi3, hb3⟩
            case measure => simp [intOf]; omega
          · have HE := Lib.hid (thF_no hy)
            have hy' : (L.getD m 0 == x) = false := by simpa using hy
            generalize L.getD m 0 = y at *
            clear HC HU hC hl
            go_wp2
            go_roundw
            case rel => exact ⟨m + 1, by omega, by go_num, by rw [HE.out]; exact hi, hb⟩
            case measure => simp [intOf]; omega
        · obtain rfl : m = k := by omega
          clear HC HU
          go_wp2
          go_ret2
          exact ⟨_, rfl, hi.mono hS2, B2.trans (hb.mono hS2)⟩
  · have hz' : (orC p n 200 != 0) = true := by simpa using hz
    have ht : thC p x n = orC p n 200 := by
      unfold thC orC at *
      by_cases h1 : okPat p = true
      · by_cases h2 : inB n 0 200 = true
        · simp [h1, h2] at hz
        · simp [h1, h2]
      · simp [h1]
    rw [ht, if_neg hz]
    generalize orC p n 200 = c at *
    clear hz h
    go_enter Try.func27, Try.ntmps27
    go_wp2_with fail
    refine HO.mono ?_
    rintro e w1 ⟨u, rfl, i1, b1⟩
    go_wp2
    go_ret2
    exact ⟨_, rfl, Ints.nil _ _, b1⟩
end Go.Proofs.Ytmmkeihcjpnpjaa
