/- RenameHands, the model's and the program's. No conditions. -/
import Derived.Test.YtlpeigeadjojnaaHdC
namespace Go.Proofs.Ytlpeigeadjojnaa
open Go.RowKit
set_option linter.unusedSimpArgs false
set_option linter.unusedVariables false

theorem renL_take_all (o names : List Int) : (renL o names).take o.length = renL o names := by rw [List.take_of_length_le (by rw [renL_len]; exact Nat.le_refl _)]
theorem made_ints {w w' : World} {n : Nat} (h : w'.ownsRow w.heap.size 2 1 (.slice (some ⟨w.heap.size, 0, none⟩) n n) n (madeCells (Value.int IntKind.i64 0).cells (n * 1)).toList) :
    Ints w' w.heap.size (.slice (some ⟨w.heap.size, 0, none⟩) n n) (List.replicate n 0) := by
  unfold Ints
  rw [List.length_replicate, List.map_replicate]
  have e9 := h
  rw [Nat.mul_one] at e9
  have e8 : (madeCells (Value.int IntKind.i64 0).cells n).toList = List.replicate n (Value.int IntKind.i64 0) := toList_madeCells_one _ _
  rw [e8] at e9
  exact e9
/-- the first k are there, the others 0 -/
def fillK (L : List Int) (k : Nat) : List Int := L.take k ++ List.replicate (L.length - k) 0
theorem fillK_zero (L : List Int) : fillK L 0 = List.replicate L.length 0 := by simp [fillK]
theorem fillK_all (L : List Int) : fillK L L.length = L := by simp [fillK]
theorem fillK_len (L : List Int) {k : Nat} (h : k ≤ L.length) : (fillK L k).length = L.length := by simp [fillK]; omega
theorem fillK_set (L : List Int) {k : Nat} (h : k < L.length) : (fillK L k).set k (L.getD k 0) = fillK L (k + 1) := by
  obtain ⟨m, hm⟩ : ∃ m, L.length - k = m + 1 := ⟨L.length - k - 1, by omega⟩
  have e : L.length - (k + 1) = m := by omega
  unfold fillK
  rw [hm, e, List.set_append_right _ _ (by simp; omega), show k - (L.take k).length = 0 by simp; omega, List.replicate_succ, List.set_cons_zero, List.take_succ_eq_append_getElem h, List.append_assoc]
  simp [h]

set_option maxRecDepth 10000 in
set_option maxHeartbeats 2000000 in
theorem renameHands_spec (v u : Value) (B C : Nat) (o names : List Int) (w : World) (h : Ints w B v o) (k : Ints w C u names) :
    Calls Try.prog 25 #[v, u] w fun e w' => ∃ x, e = .returned (.tuple #[x, .int .i64 (renC o names)]) ∧ Ints w' w.heap.size x (renA o names) ∧ Below w.heap.size w w' := by
  have HO := l14Ok_any v B o w h
  cases hok : okH o with
  | false =>
    have hc := renC_bad names hok
    rw [renA_no (by rw [hc]; decide), hc]
    rw [hok] at HO
    clear h k
    go_enter Try.func25, Try.ntmps25
    go_wp2_with fail
    refine HO.mono ?_
    rintro e w1 ⟨rfl, rfl⟩
    go_wp2
    go_ret2
    exact ⟨_, rfl, Ints.nil _ _, Below.refl _ _⟩
  | true =>
    rw [hok] at HO
    obtain ⟨ol1, ol2⟩ := okH_len hok
    obtain ⟨c1, c4⟩ := okH_cnt hok
    obtain ⟨g, cap, rfl, _, hg, _, _⟩ := h.shape2 ol1
    have HN := l14Count_row g o.length cap B o w h rfl (by omega) (fun k hk => by have := okH_at hok k hk; omega)
    obtain ⟨c, hc⟩ : ∃ c : Nat, cntH o = c := ⟨(cntH o).toNat, by omega⟩
    rw [hc] at HN
    by_cases hl : (names.length : Int) = cntH o
    · have hnl : names.length = c := by omega
      have hnm : nmH o names = hasK names c := by rw [nmH, decide_eq_true hl, Bool.true_and, hc, Int.toNat_natCast]
      obtain ⟨gn, capn, rfl, _, hgn, _, _⟩ := k.shape2 (by omega)
      have HHS := Lib.hid (fun (x : Int) => l00Has_hd gn names.length capn C x names w k rfl (by omega))
      have HST := Lib.hid (fun k => hasK_step names k)
      have HC1 := Lib.hid (fun W (hW : Below w.heap.size w W) j (hj : j < o.length) => (h.below hW).cell j hj)
      have HC2 := Lib.hid (fun W (hW : Below w.heap.size w W) j (hj : j < names.length) => (k.below hW).cell j hj)
      have HAT := Lib.hid (fun j (hj : j < o.length) => show ∃ i : Nat, o.getD j 0 = i ∧ i < names.length from ⟨(o.getD j 0).toNat, by have := okH_at hok j hj; omega, by have := okH_at hok j hj; omega⟩)
      have HTK := Lib.hid (fun j (hj : j < o.length) => (renL_take o names j hj))
      have HTA := Lib.hid (renL_take_all o names)
      have HTL := Lib.hid (fun j => show ((renL o names).take j).length ≤ 1000 by simp [renL_len]; omega)
      have HY : Hid (hasK names c = true → renC o names = 0 ∧ renA o names = renL o names) := Lib.hid fun q => ⟨renC_ok hok (by rw [hnm]; exact q), renA_ok hok (by rw [hnm]; exact q)⟩
      have HNO : Hid (hasK names c = false → renC o names = 2 ∧ renA o names = []) := Lib.hid fun q => by
        have := renC_far (names := names) hok (by rw [hnm]; exact q)
        exact ⟨this, renA_no (by rw [this]; decide)⟩
      generalize renC o names = rc at *
      generalize renA o names = ra at *
      clear h k hok hc hl hnm c1
      rw [hnl] at HHS HC2 HAT ⊢
      go_enter Try.func25, Try.ntmps25
      go_wp2_with fail
      refine HO.mono ?_
      rintro e w1 ⟨rfl, rfl⟩
      go_wp2_with fail
      refine HN.mono ?_
      rintro e w1 ⟨rfl, rfl⟩
      go_wp2
      go_loop [7, 8] (fun gd i => ∃ j : Nat, j ≤ c ∧ i = .int .i64 j ∧ gd = .bool (hasK names j)) (fun _ i => c - (intOf i).toNat)
      case atStart => exact ⟨0, Nat.zero_le _, rfl, by simp [hasK]⟩
      case round =>
        obtain ⟨j, hj, rfl, rfl⟩ := hrel
        clear HO HN
        by_cases hlt : j < c
        · have HH := HHS.out (j : Int)
          have hst := HST.out j
          cases hb : hasK names j with
          | true =>
            rw [hb, Bool.true_and] at hst
            generalize names.contains (j : Int) = cb at hst HH
            have H2 := Lib.hid hst
            clear HHS HST HC1 HC2 HAT HTK HTA HTL HY HNO hst hb
            go_wp2_with fail
            refine HH.mono ?_
            rintro e w1 ⟨rfl, rfl⟩
            go_wp2
            go_round
            case rel => exact ⟨j + 1, by omega, by go_num, by rw [H2.out]; first | done | (cases cb <;> rfl)⟩
            case measure => simp [intOf]; omega
          | false =>
            rw [hb, Bool.false_and] at hst
            have H2 := Lib.hid hst
            clear HHS HST HC1 HC2 HAT HTK HTA HTL HY HNO hst hb HH
            go_wp2
            go_round
            case rel => exact ⟨j + 1, by omega, by go_num, by rw [H2.out]; first | done | rfl⟩
            case measure => simp [intOf]; omega
        · obtain rfl : j = c := by omega
          clear HHS HST
          cases hb : hasK names j with
          | false =>
            obtain ⟨e1, e2⟩ := HNO.out hb
            have E1 := Lib.hid e1
            have E2 := Lib.hid e2
            clear HC1 HC2 HAT HTK HTA HTL HY HNO hb e1 e2
            go_wp2
            go_ret2
            refine ⟨_, by rw [E1.out]; first | done | rfl, ?_, Below.refl _ _⟩
            rw [E2.out]
            exact Ints.nil _ _
          | true =>
            obtain ⟨e1, e2⟩ := HY.out hb
            have E1 := Lib.hid e1
            have E2 := Lib.hid e2
            clear HY HNO hb e1 e2
            have hE : Ints (w.alloc (.cells #[] 2)) w.heap.size (.slice (some ⟨w.heap.size, 0, none⟩) 0 0) ((renL o names).take 0) := World.ownsRow_lit w #[] 0 (Nat.le_refl _) (by simp [maxLen]) rfl
            have BE : Below w.heap.size w (w.alloc (.cells #[] 2)) := (Below.refl _ _).alloc (Nat.le_refl _) _
            generalize hn : o.length = n at *
            have HNN := Lib.hid hn
            clear hn
            go_wp2
            go_loopw [9, 10] (fun x i wr => ∃ q : Nat, q ≤ n ∧ i = .int .i64 q ∧ Ints wr w.heap.size x ((renL o names).take q) ∧ Below w.heap.size w wr) (fun _ i _ => n - (intOf i).toNat)
            case atStart => exact ⟨0, Nat.zero_le _, rfl, hE, BE⟩
            case round =>
              obtain ⟨q, hq, rfl, hi, hb⟩ := hrel
              clear hE BE
              by_cases hlt2 : q < n
              · have cc := HC1.out wr hb q hlt2
                obtain ⟨i, hi1, hi2⟩ := HAT.out q hlt2
                have c2 := HC2.out wr hb i hi2
                have HT := HTK.out q hlt2
                rw [hi1, Int.toNat_natCast] at HT
                rw [hi1] at cc
                have HTT := Lib.hid HT
                have htl := HTL.out q
                have hbs := hb.size
                clear HC1 HC2 HAT HTK HTA HTL HT hi1
                generalize names.getD i 0 = z at *
                go_wp2_with (at_builtin; refine append_int _ rfl _ _ rfl _ _ _ rfl hi z rfl (by omega) hbs ?_; intro v' w3 hi3 hg3; refine Hid.out ?_)
                have hb3 := hi.below_grown hb hbs hg3
                rw [← HTT.out] at hi3
                clear hg3 hi hb
                refine Lib.hid ?_
                go_wp2
                go_roundw
                case rel => exact ⟨q + 1, by omega, by go_num, hi3, hb3⟩
                case measure => simp [intOf]; omega
              · obtain rfl : q = n := by omega
                rw [HTA.out] at hi
                clear HC1 HC2 HAT HTK HTA HTL
                go_wp2
                go_ret2
                refine ⟨_, by rw [E1.out]; first | done | rfl, ?_, hb⟩
                rw [E2.out]
                exact hi
    · have hnm := nmH_len hl
      have hcc := renC_far hok hnm
      rw [renA_no (by rw [hcc]; decide), hcc]
      obtain ⟨ua, uc, rfl⟩ := ints_slH k
      have hne : ((names.length : Int) == (c : Int)) = false := by rw [hc] at hl; simpa using hl
      clear h k hl hnm hcc
      generalize names.length = m at *
      go_enter Try.func25, Try.ntmps25
      go_wp2_with fail
      refine HO.mono ?_
      rintro e w1 ⟨rfl, rfl⟩
      go_wp2_with fail
      refine HN.mono ?_
      rintro e w1 ⟨rfl, rfl⟩
      go_wp2
      go_loop [7, 8] (fun gd i => ∃ j : Nat, j ≤ c ∧ i = .int .i64 j ∧ gd = .bool false) (fun _ i => c - (intOf i).toNat)
      case atStart => exact ⟨0, Nat.zero_le _, rfl, by first | rfl | (rw [hne])⟩
      case round =>
        obtain ⟨j, hj, rfl, rfl⟩ := hrel
        clear HO HN
        by_cases hlt : j < c
        · go_wp2
          go_round
          case rel => exact ⟨j + 1, by omega, by go_num, rfl⟩
          case measure => simp [intOf]; omega
        · obtain rfl : j = c := by omega
          go_wp2
          go_ret2
          exact ⟨_, rfl, Ints.nil _ _, Below.refl _ _⟩

/-! ### the program's -/
theorem areNames_any (v u : Value) (B C : Nat) (o names : List Int) (w : World) (h : Ints w B v o) (k : Ints w C u names) (hok : okH o = true) :
    Calls Try.prog 57 #[v, u] w fun e w' => e = .returned (.bool (nmH o names)) ∧ Below w.heap.size w w' := by
  obtain ⟨ol1, ol2⟩ := okH_len hok
  have HH := fun W (hW : Below w.heap.size w W) => hands_any v B o W (h.below hW) (okH_parts hok).2.1 ol1 ol2
  obtain ⟨va, vc, rfl⟩ := ints_slH h
  by_cases hl : (names.length : Int) = cntH o
  · rw [nmH_eq hok hl]
    obtain ⟨c1, c4⟩ := okH_cnt hok
    have HI := isOrder_any u C names w k
    have HH2 := fun W (hW : Below w.heap.size w W) (hn : okH names = true) => hands_any u C names W (k.below hW) (okH_parts hn).2.1 (okH_len hn).1 (okH_len hn).2
    obtain ⟨ua, uc, rfl⟩ := ints_slH k
    clear h k
    cases hn : okH names with
    | false =>
      rw [hn] at HI
      have HF := HH _ (Below.refl _ _)
      rw [← hl] at HF
      clear HH HH2 hl c1 c4
      go_enter Try.func57, Try.ntmps57
      go_wp2_with fail
      refine HF.mono ?_
      rintro e w1 ⟨rfl, rfl⟩
      go_wp2_with fail
      refine HI.mono ?_
      rintro e w1 ⟨rfl, b1⟩
      go_wp2
      go_ret
      exact ⟨rfl, b1⟩
    | true =>
      rw [hn] at HI
      have HF := HH _ (Below.refl _ _)
      have HF2 := fun W hW => HH2 W hW hn
      have hlen := names.length
      generalize cntH names = cn at *
      generalize hco : cntH o = co at *
      subst hl
      clear HH2 c1 c4 hco hn
      go_enter Try.func57, Try.ntmps57
      go_wp2_with fail
      refine HF.mono ?_
      rintro e w1 ⟨rfl, rfl⟩
      go_wp2_with fail
      refine HI.mono ?_
      rintro e w1 ⟨rfl, b1⟩
      go_wp2_with fail
      refine (HF2 _ b1).mono ?_
      rintro e w1 ⟨rfl, rfl⟩
      go_wp2_with fail
      refine (HH _ b1).mono ?_
      rintro e w1 ⟨rfl, rfl⟩
      go_wp2
      go_ret
      exact ⟨by rw [Bool.true_and]; first | done | rfl | (congr 2), b1⟩
  · rw [nmH_len hl]
    have HF := HH _ (Below.refl _ _)
    obtain ⟨ua, uc, rfl⟩ := ints_slH k
    have hne : ((names.length : Int) == cntH o) = false := by simpa using hl
    clear h k HH hl
    generalize cntH o = co at *
    generalize names.length = m at *
    go_enter Try.func57, Try.ntmps57
    go_wp2_with fail
    refine HF.mono ?_
    rintro e w1 ⟨rfl, rfl⟩
    go_wp2
    go_ret
    exact ⟨by first | rfl | (rw [hne]), Below.refl _ _⟩

set_option maxRecDepth 10000 in
set_option maxHeartbeats 2000000 in
theorem renameHands_impl (v u : Value) (B C : Nat) (o names : List Int) (w : World) (h : Ints w B v o) (k : Ints w C u names) :
    Calls Try.prog 24 #[v, u] w fun e w' => ∃ x, e = .returned (.tuple #[x, .int .i64 (renC o names)]) ∧ Ints w' w.heap.size x (renA o names) ∧ Below w.heap.size w w' := by
  have HO := validHands_impl v B o w h
  cases hok : okH o with
  | false =>
    have hc := renC_bad names hok
    rw [renA_no (by rw [hc]; decide), hc]
    rw [hok] at HO
    clear h k
    go_enter Try.func24, Try.ntmps24
    go_wp2_with fail
    refine HO.mono ?_
    rintro e w1 ⟨rfl, b1⟩
    go_wp2
    go_ret2
    exact ⟨_, rfl, Ints.nil _ _, b1⟩
  | true =>
    rw [hok] at HO
    have HA := fun W (hW : Below w.heap.size w W) => areNames_any v u B C o names W (h.below hW) (k.below hW) hok
    cases hnm : nmH o names with
    | false =>
      have hc := renC_far hok hnm
      rw [renA_no (by rw [hc]; decide), hc]
      rw [hnm] at HA
      clear h k
      go_enter Try.func24, Try.ntmps24
      go_wp2_with fail
      refine HO.mono ?_
      rintro e w1 ⟨rfl, b1⟩
      go_wp2_with fail
      refine (HA _ b1).mono ?_
      rintro e w2 ⟨rfl, b2⟩
      have B2 := b1.trans (b2.mono b1.size)
      go_wp2
      go_ret2
      exact ⟨_, rfl, Ints.nil _ _, B2⟩
    | true =>
      rw [renC_ok hok hnm, renA_ok hok hnm]
      rw [hnm] at HA
      obtain ⟨i0, hi0, hz0, hz1, hz2⟩ := info_parts Try.info64
      obtain ⟨ol1, ol2⟩ := okH_len hok
      obtain ⟨c1, c4⟩ := okH_cnt hok
      have hnl : (names.length : Int) = cntH o := by
        simp only [nmH, Bool.and_eq_true, decide_eq_true_eq] at hnm
        exact hnm.1
      obtain ⟨g, cap, rfl, _, hg, _, _⟩ := h.shape2 ol1
      obtain ⟨gn, capn, rfl, _, hgn, _, _⟩ := k.shape2 (by omega)
      have HC1 := Lib.hid (fun W (hW : Below w.heap.size w W) j (hj : j < o.length) => (h.below hW).cell j hj)
      have HC2 := Lib.hid (fun W (hW : Below w.heap.size w W) j (hj : j < names.length) => (k.below hW).cell j hj)
      have HAT := Lib.hid (fun j (hj : j < o.length) => show ∃ i : Nat, o.getD j 0 = i ∧ i < names.length from ⟨(o.getD j 0).toNat, by have := okH_at hok j hj; omega, by have := okH_at hok j hj; omega⟩)
      have HFS := Lib.hid (fun j (hj : j < o.length) => show (fillK (renL o names) j).set j (names.getD (o.getD j 0).toNat 0) = fillK (renL o names) (j + 1) from by
        rw [← renL_at o names j hj]
        exact fillK_set _ (by rw [renL_len]; exact hj))
      have HFL := Lib.hid (fun j (hj : j < o.length) => show j < (fillK (renL o names) j).length from by rw [fillK_len _ (by rw [renL_len]; omega), renL_len]; exact hj)
      have HF0 : Hid (fillK (renL o names) 0 = List.replicate o.length 0) := Lib.hid (by rw [fillK_zero, renL_len])
      have HFA : Hid (fillK (renL o names) o.length = renL o names) := Lib.hid (by
        have := fillK_all (renL o names)
        rwa [renL_len] at this)
      clear h k hok hnm hnl
      generalize hF : fillK (renL o names) = F at *
      generalize hn : o.length = n at *
      clear hF hn
      go_enter Try.func24, Try.ntmps24
      go_wp2_with fail
      refine HO.mono ?_
      rintro e w1 ⟨rfl, b1⟩
      go_wp2_with fail
      refine (HA _ b1).mono ?_
      rintro e w2 ⟨rfl, b2⟩
      have B2 := b1.trans (b2.mono b1.size)
      have hs2 := B2.size
      clear HO HA
      go_wp2_with (at_make; refine wpList_make_full _ rfl _ _ 24 rfl w2.heap.size 2 i0 (.int .i64 0) 1 Try.underlying24 hi0 hz0 hz1 _ _ _ _ n rfl rfl rfl rfl (by rw [hz2]; omega) (by unfold maxLen; omega) (Nat.le_refl _) ?_; intro w3 hown hgr; refine Hid.out ?_)
      have hI := made_ints hown
      rw [← HF0.out] at hI
      have b3 : Below w2.heap.size w2 w3 := (Below.refl _ _).grown hgr (Nat.le_refl _) (by simp)
      clear hown hgr hi0 hz0 hz1 hz2
      refine Lib.hid ?_
      go_wp2
      go_loopw [21] (fun x wr => ∃ q : Nat, q ≤ n ∧ x = .int .i64 q ∧ Ints wr w2.heap.size (.slice (some ⟨w2.heap.size, 0, none⟩) n n) (F q) ∧ Below w2.heap.size w2 wr) (fun x _ => n - (intOf x).toNat)
      case atStart => exact ⟨0, Nat.zero_le _, rfl, hI, b3⟩
      case round =>
        obtain ⟨q, hq, rfl, hi, hb⟩ := hrel
        clear hI b3
        by_cases hqt : q < n
        · have cc := HC1.out wr (B2.trans (hb.mono hs2)) q hqt
          obtain ⟨i, hi1, hi2⟩ := HAT.out q hqt
          have c2 := HC2.out wr (B2.trans (hb.mono hs2)) i hi2
          have hold := hi.cell q (HFL.out q hqt)
          have hfree := hi.free q
          have hset := HFS.out q hqt
          rw [hi1, Int.toNat_natCast] at hset
          have hn := hi.set q (names.getD i 0)
          rw [hset] at hn
          rw [hi1] at cc
          have hbn := hb.setCell (p := ⟨w2.heap.size, q, none⟩) (Nat.le_refl _) (.int .i64 (names.getD i 0))
          clear HC1 HC2 HAT HFS HFL HF0 HFA hi hb hset hi1
          generalize names.getD i 0 = z at *
          go_wp2
          go_roundw
          case rel => exact ⟨q + 1, by omega, by go_num, hn, hbn⟩
          case measure => simp [intOf]; omega
        · obtain rfl : q = n := by omega
          rw [HFA.out] at hi
          clear HC1 HC2 HAT HFS HFL HF0 HFA
          go_wp2
          go_ret2
          exact ⟨_, rfl, hi.mono hs2, B2.trans (hb.mono hs2)⟩
end Go.Proofs.Ytlpeigeadjojnaa
