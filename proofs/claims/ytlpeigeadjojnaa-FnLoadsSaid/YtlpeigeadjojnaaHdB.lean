/- Orders of hands: ValidHands, the model's and the program's. No conditions. -/
import Derived.Test.YtlpeigeadjojnaaHdA
import Derived.Test.YtlpeigeadjojnaaImpl02
import Derived.Test.YtlpeigeadjojnaaHigh
import Derived.Test.YtlpeigeadjojnaaSees
import Derived.Maps.OwnSet
import Derived.Maps.Views
namespace Go.Proofs.Ytlpeigeadjojnaa
open Go.RowKit
set_option linter.unusedSimpArgs false
set_option linter.unusedVariables false

set_option maxRecDepth 10000 in
theorem l00Has_hd (g n cap B : Nat) (x : Int) (L : List Int) (w : World) (h : Ints w B (.slice (some ⟨g, 0, none⟩) n cap) L) (hn : n = L.length) (hn2 : n ≤ 1000000) :
    Calls Try.prog 58 #[.slice (some ⟨g, 0, none⟩) n cap, .int .i64 x] w fun e w' => e = .returned (.bool (L.contains x)) ∧ w = w' := by
  have HC := Lib.hid (fun j (hj : j < n) => h.cell j (by omega))
  have HYES := Lib.hid (fun j (hj : j < n) (he : L.getD j 0 = x) => show L.contains x = true from by
    rw [List.contains_iff_mem, ← he, List.getD_eq_getElem?_getD, List.getElem?_eq_getElem (by omega)]
    exact List.getElem_mem _)
  have HNO := Lib.hid (fun (ha : ∀ j, j < n → L.getD j 0 ≠ x) => show L.contains x = false from by
    rw [← Bool.not_eq_true, List.contains_iff_mem]
    intro hm
    obtain ⟨j, hj, he⟩ := List.getElem_of_mem hm
    exact ha j (by omega) (by simp [hj, he]))
  obtain ⟨r, hr⟩ : ∃ r, L.contains x = r := ⟨_, rfl⟩
  rw [hr] at HYES HNO
  rw [hr]
  clear h hn hr
  go_enter Try.func58, Try.ntmps58
  go_wp2
  go_loop [5] (fun m => ∃ k : Nat, k ≤ n ∧ m = .int .i64 k ∧ Hid (∀ j, j < k → L.getD j 0 ≠ x)) (fun m => n - (intOf m).toNat)
  case atStart => exact ⟨0, Nat.zero_le _, rfl, Lib.hid fun j hj => by omega⟩
  case round =>
    obtain ⟨k, hk, rfl, hno⟩ := hrel
    by_cases hlt : k < n
    · have hc := HC.out k hlt
      by_cases he : L.getD k 0 = x
      · have hy := Lib.hid (HYES.out k hlt he)
        rw [he] at hc
        clear HC HYES HNO hno he
        go_wp2
        go_ret
        exact ⟨by rw [hy.out]; rfl, rfl⟩
      · have hne : (L.getD k 0 == x) = false := by simpa using he
        have hno2 : Hid (∀ j, j < k + 1 → L.getD j 0 ≠ x) := Lib.hid fun j hj => by
          by_cases e : j = k
          · subst e; exact he
          · exact hno.out j (by omega)
        clear HC HYES HNO hno he
        generalize L.getD k 0 = y at hc hne
        go_wp2
        go_round
        case rel => exact ⟨k + 1, by omega, by go_num, hno2⟩
        case measure => simp [intOf]; omega
    · obtain rfl : k = n := by omega
      have hy := Lib.hid (HNO.out hno.out)
      clear HC HYES HNO hno
      go_wp2
      go_ret
      exact ⟨by rw [hy.out]; rfl, rfl⟩

theorem ints_slH {w : World} {B : Nat} {v : Value} {xs : List Int} (h : Ints w B v xs) : ∃ a cap, v = .slice a xs.length cap := by
  rcases h.shape with ⟨rfl, rfl⟩ | ⟨g, cap, rfl, _⟩
  · exact ⟨_, _, rfl⟩
  · exact ⟨_, _, rfl⟩

theorem l00In_hd (n low high : Int) (w : World) :
    Calls Try.prog 44 #[.int .i64 n, .int .i64 low, .int .i64 high] w fun e w' => e = .returned (.bool (inB n low high)) ∧ w = w' := by
  by_cases h1 : low ≤ n
  · by_cases h2 : n ≤ high
    · rw [inB_true ⟨h1, h2⟩]
      go_enter Try.func44, Try.ntmps44
      go_wp2
      go_ret
      exact ⟨rfl, rfl⟩
    · rw [inB_false (by omega)]
      go_enter Try.func44, Try.ntmps44
      go_wp2
      go_ret
      exact ⟨rfl, rfl⟩
  · rw [inB_false (by omega)]
    go_enter Try.func44, Try.ntmps44
    go_wp2
    go_ret
    exact ⟨rfl, rfl⟩

set_option maxRecDepth 10000 in
theorem l14Count_row (g n cap B : Nat) (o : List Int) (w : World) (h : Ints w B (.slice (some ⟨g, 0, none⟩) n cap) o) (hn : n = o.length) (hn2 : n ≤ 1048576) (hb : ∀ k, k < n → -1000000 ≤ o.getD k 0 ∧ o.getD k 0 ≤ 1000000) :
    Calls Try.prog 52 #[.slice (some ⟨g, 0, none⟩) n cap] w fun e w' => e = .returned (.int .i64 (cntH o)) ∧ w = w' := by
  have HC := Lib.hid (fun j (hj : j < n) => h.cell j (by omega))
  have HS := Lib.hid (fun k => (cntK_step o k).symm)
  have HB := Lib.hid hb
  have H0 : Hid (cntK o 0 = 0) := Lib.hid rfl
  have HE : Hid (cntK o n = cntH o) := Lib.hid (by rw [hn]; rfl)
  clear h hn hb
  go_enter Try.func52, Try.ntmps52
  go_wp2
  go_loop [3, 4] (fun t i => ∃ k : Nat, k ≤ n ∧ i = .int .i64 k ∧ t = .int .i64 (cntK o k)) (fun _ i => n - (intOf i).toNat)
  case atStart => exact ⟨0, Nat.zero_le _, rfl, by rw [H0.out]⟩
  case round =>
    obtain ⟨k, hk, rfl, rfl⟩ := hrel
    by_cases hlt : k < n
    · have hc := HC.out k hlt
      have hs := HS.out k
      obtain ⟨b1, b2⟩ := HB.out k hlt
      generalize o.getD k 0 = y at *
      have HSS := Lib.hid hs
      clear HC HS HB hs
      go_wp2_with fail
      refine (l00Max_any _ _ _).mono ?_
      rintro e w' ⟨rfl, rfl⟩
      go_wp2
      go_round
      case rel => exact ⟨k + 1, by omega, by go_num, by rw [HSS.out]⟩
      case measure => simp [intOf]; omega
    · obtain rfl : k = n := by omega
      clear HC HS HB
      rw [HE.out]
      go_wp2
      go_ret
      exact ⟨rfl, rfl⟩

set_option maxRecDepth 10000 in
set_option maxHeartbeats 1000000 in
theorem l14Ok_row (g n cap B : Nat) (o : List Int) (w : World) (h : Ints w B (.slice (some ⟨g, 0, none⟩) n cap) o) (hn : n = o.length) (h1 : 1 ≤ n) (h2 : n ≤ 12) :
    Calls Try.prog 43 #[.slice (some ⟨g, 0, none⟩) n cap] w fun e w' => e = .returned (.bool (okH o)) ∧ w = w' := by
  have hin : inB (n : Int) 1 12 = true := inB_true (by omega)
  have HC := Lib.hid (fun j (hj : j < n) => h.cell j (by omega))
  have HCN := Lib.hid (fun (hr : rngH o = true) => l14Count_row g n cap B o w h hn (by omega) (fun k hk => by have := rngH_at hr k (by omega); omega))
  have HHS := Lib.hid (fun (x : Int) => l00Has_hd g n cap B x o w h hn (by omega))
  have HF := Lib.hid (fun k (hk : k < n) (hb : inB (o.getD k 0) 0 3 = false) => show okH o = false from okH_far (rngH_false k (by omega) hb))
  have HT := Lib.hid (fun (ha : ∀ j, j < n → inB (o.getD j 0) 0 3 = true) => show rngH o = true ∧ okH o = hasK o (cntH o).toNat ∧ 0 ≤ cntH o ∧ cntH o ≤ 4 from by
    have hr : rngH o = true := rngH_true fun k hk => by
      have := ha k (by omega)
      rw [inB, decide_eq_true_eq] at this
      exact this
    have := cntH_rng hr
    exact ⟨hr, okH_mk (by omega) (by omega) hr, this.1, this.2⟩)
  have HST := Lib.hid (fun k => hasK_step o k)
  have HFA := Lib.hid (fun (k n : Nat) (hf : hasK o k = false) (hk : k ≤ n) => hasK_false hf hk)
  clear h hn
  go_enter Try.func43, Try.ntmps43
  go_wp2_with fail
  refine (l00In_hd _ _ _ _).mono ?_
  rintro e w1 ⟨rfl, rfl⟩
  rw [hin]
  go_wp2
  go_loop [3] (fun i => ∃ k : Nat, k ≤ n ∧ i = .int .i64 k ∧ Hid (∀ j, j < k → inB (o.getD j 0) 0 3 = true)) (fun i => n - (intOf i).toNat)
  case atStart => exact ⟨0, Nat.zero_le _, rfl, Lib.hid fun j hj => by omega⟩
  case round =>
    obtain ⟨k, hk, rfl, hno⟩ := hrel
    by_cases hlt : k < n
    · have hc := HC.out k hlt
      cases hb : inB (o.getD k 0) 0 3 with
      | false =>
        have hr := Lib.hid (HF.out k hlt hb)
        have HB := Lib.hid hb
        clear HC HCN HHS HF HT HST HFA hno hb
        generalize o.getD k 0 = y at *
        go_wp2_with fail
        refine (l00In_hd _ _ _ _).mono ?_
        rintro e w1 ⟨rfl, rfl⟩
        rw [HB.out]
        go_wp2
        go_ret
        exact ⟨by rw [hr.out]; first | done | rfl, rfl⟩
      | true =>
        have hno2 : Hid (∀ j, j < k + 1 → inB (o.getD j 0) 0 3 = true) := Lib.hid fun j hj => by
          by_cases e : j = k
          · subst e; exact hb
          · exact hno.out j (by omega)
        have HB := Lib.hid hb
        clear HC HCN HHS HF HT HST HFA hno hb
        generalize hy : o.getD k 0 = y at hc HB
        have HY := Lib.hid hy
        clear hy
        go_wp2_with fail
        refine (l00In_hd _ _ _ _).mono ?_
        rintro e w1 ⟨rfl, rfl⟩
        rw [HB.out]
        go_wp2
        go_round
        case rel => exact ⟨k + 1, by omega, by go_num, hno2⟩
        case measure => simp [intOf]; omega
    · obtain rfl : k = n := by omega
      obtain ⟨hr, hok, c0, c4⟩ := HT.out hno.out
      have HN := Lib.hid (HCN.out hr)
      have HK := Lib.hid hok
      clear HC HCN HF HT hno hr hok
      generalize cntH o = c at *
      go_wp2
      go_loop [4] (fun i => ∃ k : Nat, (k : Int) ≤ c ∧ i = .int .i64 k ∧ Hid (hasK o k = true)) (fun i => (c - intOf i).toNat)
      case atStart => exact ⟨0, by omega, rfl, Lib.hid rfl⟩
      case round =>
        obtain ⟨j, hj, rfl, hh⟩ := hrel
        by_cases hlt2 : (j : Int) < c
        · have HH := HHS.out (j : Int)
          have hst := HST.out j
          rw [hh.out, Bool.true_and] at hst
          cases hb : o.contains (j : Int) with
          | true =>
            rw [hb] at hst
            have H2 := Lib.hid hst
            have HB := Lib.hid hb
            clear HHS HST HFA hst hb hh HK
            go_wp2_with fail
            refine HN.out.mono ?_
            rintro e w1 ⟨rfl, rfl⟩
            go_wp2_with fail
            refine HH.mono ?_
            rintro e w1 ⟨rfl, rfl⟩
            rw [HB.out]
            go_wp2
            go_round
            case rel => exact ⟨j + 1, by omega, by go_num, H2⟩
            case measure => simp [intOf]; omega
          | false =>
            rw [hb] at hst
            have H2 := Lib.hid (HFA.out (j + 1) c.toNat hst (by omega))
            have HB := Lib.hid hb
            clear HHS HST HFA hst hb hh
            go_wp2_with fail
            refine HN.out.mono ?_
            rintro e w1 ⟨rfl, rfl⟩
            go_wp2_with fail
            refine HH.mono ?_
            rintro e w1 ⟨rfl, rfl⟩
            rw [HB.out]
            go_wp2
            go_ret
            exact ⟨by rw [HK.out, H2.out]; first | done | rfl, rfl⟩
        · obtain rfl : (j : Int) = c := by omega
          clear HHS HST HFA
          go_wp2_with fail
          refine HN.out.mono ?_
          rintro e w1 ⟨rfl, rfl⟩
          go_wp2
          go_ret
          exact ⟨by rw [HK.out, Int.toNat_natCast, hh.out]; first | done | rfl, rfl⟩

theorem l14Ok_any (v : Value) (B : Nat) (o : List Int) (w : World) (h : Ints w B v o) :
    Calls Try.prog 43 #[v] w fun e w' => e = .returned (.bool (okH o)) ∧ w = w' := by
  have hlen := h.len
  cases hin : inB (o.length : Int) 1 12 with
  | true =>
    rw [inB, decide_eq_true_eq] at hin
    obtain ⟨g, cap, rfl, _, _, _, _⟩ := h.shape2 (by omega)
    exact l14Ok_row g _ cap B o w h rfl (by omega) (by omega)
  | false =>
    rw [okH_short hin]
    obtain ⟨va, vc, rfl⟩ := ints_slH h
    have HI := Lib.hid hin
    clear h hin
    go_enter Try.func43, Try.ntmps43
    go_wp2_with fail
    refine (l00In_hd _ _ _ _).mono ?_
    rintro e w1 ⟨rfl, rfl⟩
    rw [HI.out]
    go_wp2
    go_ret
    exact ⟨rfl, rfl⟩

/-! ### the program's -/
theorem slicesMaxH_core (g cap n : Nat) (f : Nat → Int) (s : Nat → Int) (w : World) (hn1 : 1 ≤ n) (hn2 : n ≤ 12) (hs0 : s 1 = f 0) (hs1 : ∀ i, i < n → s (i + 1) = max (s i) (f i))
    (hc : ∀ i, i < n → w.cell? ⟨g, i, none⟩ = some (.int .i64 (f i))) :
    Calls Try.prog 78 #[.slice (some ⟨g, 0, none⟩) n cap] w fun e w' => e = .returned (.int .i64 (s n)) ∧ w = w' := by
  have HS0 := Lib.hid hs0
  have HS1 := Lib.hid hs1
  clear hs0 hs1
  have c0 := hc 0 (by omega)
  go_enter Try.func78, Try.ntmps78
  go_wp2
  go_loop [3, 4] (fun t i => ∃ k : Nat, 1 ≤ k ∧ k ≤ n ∧ i = .int .i64 k ∧ t = .int .i64 (s k)) (fun _ i => n - (intOf i).toNat)
  case atStart => exact ⟨1, by omega, by omega, rfl, by rw [HS0.out]⟩
  case round =>
    obtain ⟨k, hk1, hk, rfl, rfl⟩ := hrel
    by_cases hlt : k < n
    · have c1 := hc k hlt
      have HH := Lib.hid (HS1.out k hlt)
      clear hc
      go_wp2
      go_round
      case rel => exact ⟨k + 1, by omega, by omega, by go_num, by rw [HH.out, show (if s k < f k then f k else s k) = max (s k) (f k) from by split <;> omega]⟩
      case measure => simp [intOf]; omega
    · obtain rfl : k = n := by omega
      clear hc
      go_wp2
      go_ret
      exact ⟨rfl, rfl⟩

theorem hands_any (v : Value) (B : Nat) (o : List Int) (w : World) (h : Ints w B v o) (hr : rngH o = true) (h1 : 1 ≤ o.length) (h2 : o.length ≤ 12) :
    Calls Try.prog 54 #[v] w fun e w' => e = .returned (.int .i64 (cntH o)) ∧ w = w' := by
  obtain ⟨g, cap, rfl, _, _, _, _⟩ := h.shape2 h1
  have hp := cntH_pos hr h1
  have h4 := (cntH_rng hr).2
  have HM := slicesMaxH_core g cap o.length (fun i => o.getD i 0) (fun k => cntK o k - 1) w h1 h2 (by
      have := rngH_at hr 0 (by omega)
      simp only [cntK]; omega) (fun i hi => by
      simp only [cntK_step]; omega) (fun i hi => h.cell i hi)
  rw [show cntK o o.length - 1 = cntH o - 1 from rfl] at HM
  clear h hr
  generalize cntH o = c at *
  go_enter Try.func54, Try.ntmps54
  go_wp2_with fail
  refine HM.mono ?_
  rintro e w1 ⟨rfl, rfl⟩
  go_wp2
  go_ret
  exact ⟨ret_int (by omega), rfl⟩

theorem key_hand {x : Int} (h0 : 0 ≤ x) (h3 : x ≤ 3) : keyOf Try.prog 2 (.int .i64 x) = some (.int .i64 x) :=
  Maps.keyOf_int_mk Try.underlying2 (WalkArith.wf_i64 (by omega))

set_option maxRecDepth 10000 in
set_option maxHeartbeats 1000000 in
theorem isOrder_row (g n cap B : Nat) (o : List Int) (w : World) (h : Ints w B (.slice (some ⟨g, 0, none⟩) n cap) o) (hn : n = o.length) (h1 : 1 ≤ n) (h2 : n ≤ 12) :
    Calls Try.prog 68 #[.slice (some ⟨g, 0, none⟩) n cap] w fun e w' => e = .returned (.bool (okH o)) ∧ Below w.heap.size w w' := by
  have hmm := @run_makeMap Try.prog
  have hg : g < w.heap.size := by
    rcases h.shape with ⟨e, _⟩ | ⟨g', c', e, _, hlt, _⟩
    · cases e
    · cases e; exact hlt
  have HC := Lib.hid (fun W (hW : Below w.heap.size w W) j (hj : j < n) => (h.below hW).cell j (by omega))
  have HHN := Lib.hid (fun W (hW : Below w.heap.size w W) (hr : rngH o = true) => hands_any _ B o W (h.below hW) hr (by omega) (by omega))
  have HF := Lib.hid (fun k (hk : k < n) (hb : ¬ (0 ≤ o.getD k 0 ∧ o.getD k 0 ≤ 3)) => show okH o = false from okH_far (rngH_false k (by omega) (by rw [inB, decide_eq_false_iff_not]; exact hb)))
  have HT := Lib.hid (fun (ha : ∀ j, j < n → 0 ≤ o.getD j 0 ∧ o.getD j 0 ≤ 3) => show rngH o = true ∧ okH o = decide ((dstH o : Int) = cntH o) from by
    have hr : rngH o = true := rngH_true fun k hk => ha k (by omega)
    exact ⟨hr, by rw [dstH_all hr]; exact okH_mk (by omega) (by omega) hr⟩)
  have HTK := Lib.hid (fun k (hk : k < n) => show o.take (k + 1) = o.take k ++ [o.getD k 0] from by
    rw [List.take_succ_eq_append_getElem (by omega)]
    simp [show k < o.length by omega])
  have HTA : Hid (o.take n = o) := Lib.hid (by rw [hn, List.take_length])
  have law64' : Maps.Keyed Try.prog 2 := Maps.int_keyed Try.underlying2
  clear h hn
  go_enter Try.func68, Try.ntmps68
  go_wp2
  go_loopw [17] (fun i wr => ∃ (k : Nat) (D : DataW Unit), k ≤ n ∧ i = .int .i64 k ∧ wr.ownsMap Try.prog 2 (plainElem Try.prog 4) w.heap.size k D ∧
      Hid ((∀ j, j < k → 0 ≤ o.getD j 0 ∧ o.getD j 0 ≤ 3) ∧ (∀ x : Int, Maps.has D (.int .i64 x) = (o.take k).contains x) ∧ Maps.size D = dstH (o.take k)) ∧ Below w.heap.size w wr) (fun i _ => n - (intOf i).toNat)
  case atStart => exact ⟨0, .map [], Nat.zero_le _, rfl, World.ownsMap_made _ _ _ _, Lib.hid ⟨fun j hj => by omega, fun x => by simp [Maps.has_eq], by simp [Maps.size_eq, dstH]⟩, (Below.refl _ _).alloc (Nat.le_refl _) _⟩
  case round =>
    obtain ⟨k, D, hk, rfl, hown, hD, hb⟩ := hrel
    by_cases hlt : k < n
    · have hc := HC.out wr hb k hlt
      by_cases hin : 0 ≤ o.getD k 0 ∧ o.getD k 0 ≤ 3
      · have hkey := key_hand hin.1 hin.2
        obtain ⟨hd1, hd2, hd3⟩ := hD.out
        have HD2 : Hid ((∀ j, j < k + 1 → 0 ≤ o.getD j 0 ∧ o.getD j 0 ≤ 3) ∧ (∀ x : Int, Maps.has (D.put (.int .i64 (o.getD k 0)) (.lit (.bool true))) (.int .i64 x) = (o.take (k + 1)).contains x) ∧ Maps.size (D.put (.int .i64 (o.getD k 0)) (.lit (.bool true))) = dstH (o.take (k + 1))) := Lib.hid (by
          refine ⟨fun j hj => ?_, fun x => ?_, ?_⟩
          · by_cases e : j = k
            · subst e; exact hin
            · exact hd1 j (by omega)
          · rw [HTK.out k hlt, has_snoc]
            by_cases e : x = o.getD k 0
            · subst e
              rw [Maps.has_put_same hown.isMap (by first | trivial | rfl | simp [WideAt.IsKeyLit])]
              simp
            · rw [Maps.has_put_other (by intro q; injection q; contradiction), hd2 x, show (x == o.getD k 0) = false by simpa using e, Bool.or_false]
          · rw [HTK.out k hlt, dstH_step _ _ hin.1 hin.2, Maps.size_put (hown.tidy law64'), hd2, hd3])
        obtain ⟨hi1, hi2⟩ := hin
        clear HC HHN HF HT HTK HTA hD hd1 hd2 hd3
        generalize o.getD k 0 = y at *
        go_wp2_with (at_mapUpdate; refine wpList_mapUpdate_own _ rfl _ _ _ 87 rfl 2 4 law64' Try.underlying87 (plainElem (H := Unit) Try.prog 4) w.heap.size k _ rfl hown (by unfold maxLen; omega) _ _ _ rfl rfl hkey _ [] (plainElem_bool Try.underlying4 true) ?_; intro w1 hown1 hgrow1)
        go_roundw
        case rel => exact ⟨k + 1, _, by omega, by go_num, hown1, HD2, hb.grown hgrow1 hb.size (fun j hj => by cases hj; exact Nat.le_refl _)⟩
        case measure => simp [intOf]; omega
      · have hr := Lib.hid (HF.out k hlt hin)
        by_cases hneg : o.getD k 0 < 0
        · clear HC HHN HF HT HTK HTA hD hin
          generalize o.getD k 0 = y at *
          go_wp2
          go_ret
          exact ⟨by rw [hr.out]; first | done | rfl, hb⟩
        · have hbig : 4 ≤ o.getD k 0 := by omega
          clear HC HHN HF HT HTK HTA hD hin
          generalize o.getD k 0 = y at *
          go_wp2
          go_ret
          exact ⟨by rw [hr.out]; first | done | rfl, hb⟩
    · obtain rfl : k = n := by omega
      obtain ⟨hd1, _, hd3⟩ := hD.out
      rw [HTA.out] at hd3
      obtain ⟨hr, hok⟩ := HT.out hd1
      have HH := HHN.out wr hb hr
      have hsz := dstH_le o
      have HK := Lib.hid hok
      have HSZ := Lib.hid hd3
      clear HC HHN HF HT HTK HTA hD hd1 hr hok hd3
      generalize cntH o = c at *
      go_wp2_with (first
        | (at_len; refine wpList_len_own _ rfl _ 87 rfl 2 4 Try.underlying87 _ w.heap.size k _ rfl hown ?_)
        | (go_at_call 54; refine HH.mono ?_; rintro e w1 ⟨rfl, rfl⟩)
        | fail)
      go_ret
      exact ⟨by rw [HK.out, HSZ.out]; first | done | rfl, hb⟩

theorem isOrder_any (v : Value) (B : Nat) (o : List Int) (w : World) (h : Ints w B v o) :
    Calls Try.prog 68 #[v] w fun e w' => e = .returned (.bool (okH o)) ∧ Below w.heap.size w w' := by
  have hlen := h.len
  cases hin : inB (o.length : Int) 1 12 with
  | true =>
    rw [inB, decide_eq_true_eq] at hin
    obtain ⟨g, cap, rfl, _, _, _, _⟩ := h.shape2 (by omega)
    exact isOrder_row g _ cap B o w h rfl (by omega) (by omega)
  | false =>
    rw [okH_short hin]
    obtain ⟨va, vc, rfl⟩ := ints_slH h
    rw [inB, decide_eq_false_iff_not] at hin
    clear h
    by_cases h0 : o.length < 1
    · go_enter Try.func68, Try.ntmps68
      go_wp2
      go_ret
      exact ⟨rfl, Below.refl _ _⟩
    · have h12 : 12 < o.length := by omega
      clear hin
      generalize o.length = n at *
      go_enter Try.func68, Try.ntmps68
      go_wp2
      go_ret
      exact ⟨rfl, Below.refl _ _⟩

theorem validHands_impl (v : Value) (B : Nat) (o : List Int) (w : World) (h : Ints w B v o) :
    Calls Try.prog 40 #[v] w fun e w' => e = .returned (.bool (okH o)) ∧ Below w.heap.size w w' := by
  have HO := isOrder_any v B o w h
  clear h
  go_enter Try.func40, Try.ntmps40
  go_wp2_with fail
  refine HO.mono ?_
  rintro e w1 ⟨rfl, b1⟩
  go_wp2
  go_ret
  exact ⟨rfl, b1⟩
end Go.Proofs.Ytlpeigeadjojnaa
