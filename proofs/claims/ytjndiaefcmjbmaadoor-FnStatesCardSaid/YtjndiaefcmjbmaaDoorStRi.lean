/- RunThrows, the program's. No conditions but sizes. -/
import Derived.Test.YtjndiaefcmjbmaaDoorStR
namespace Go.Proofs.YtjndiaefcmjbmaaDoor
open Go.RowKit
set_option linter.unusedSimpArgs false
set_option linter.unusedVariables false

set_option maxRecDepth 10000 in
set_option maxHeartbeats 400000 in
theorem runThrows_impl_core (h m : Nat) (a : Option Addr) (cap n : Nat) (ts : List Int) (R : Nat × Nat × Int) (w : World) (h1 : 1 ≤ h) (hh : h ≤ 10) (hm : m < 2 ^ h) (hn : ts.length = n) (hn2 : n ≤ 1048576) (hR : runGo h m ts 0 = R)
    (hf : ∀ i, i < n → -9223372036854775808 ≤ ts.getD i 0 ∧ ts.getD i 0 ≤ 9223372036854775807)
    (hc : ∀ i, i < n → ∃ b off, a = some ⟨b, off, none⟩ ∧ b < w.heap.size ∧ w.cell? ⟨b, off + i, none⟩ = some (.int .i64 (ts.getD i 0))) :
    Calls Tryd.prog 25 #[.agg #[.int .i64 h, .int .i64 m], .slice a n cap] w fun e w' => e = .returned (.tuple #[.agg #[.int .i64 h, .int .i64 R.1], .int .i64 R.2.1, .int .i64 R.2.2]) ∧ Below w.heap.size w w' := by
  have HF := Lib.hid hf
  have HC := Lib.hid hc
  have HRN := Lib.hid (show runGo h m (ts.drop 0) 0 = R from hR)
  have HEND := Lib.hid (fun mk => runGo_end (h := h) (m := mk) (ts := ts) (k := n) (by omega))
  have HSTEP := Lib.hid (fun mk k (hk : k < n) => runGo_step (h := h) (m := mk) (ts := ts) (k := k) (by omega))
  have HSTOP := Lib.hid (fun mk k (hk : k < n) => runGo_stop (h := h) (m := mk) (ts := ts) (k := k) (by omega))
  have HO := fun W => isValid_any h m W (by have := pow_lt_1024 hh; omega) (by have := pow_lt_1024 hh; omega)
  rw [okSt_mk h1 hh hm] at HO
  have HM := Lib.hid hm
  clear hf hc hR hn hm
  go_enter Tryd.func25, Tryd.ntmps25
  go_wp2_with fail
  refine (HO _).mono ?_
  rintro e w1 ⟨rfl, b3⟩
  have P0 : Blk w1 w.heap.size [.int .i64 h, .int .i64 m] 25 := ((Blk.made w #[.int .i64 h, .int .i64 m] 25).alloc _).below b3 (by simp; omega)
  have Q0 : Blk w1 (w.heap.size + 1) [.int .i64 0, .int .i64 0] 25 := by
    have := (Blk.made (w.alloc (.cells #[.int .i64 h, .int .i64 m] 25)) #[.int .i64 0, .int .i64 0] 25).below b3 (by simp)
    simpa using this
  obtain ⟨_, _, _, _, _, B1⟩ := four_kept b3
  clear b3 HO
  go_wp2
  go_loopw [15] (fun i wr => ∃ k mk : Nat, k ≤ n ∧ i = .int .i64 k ∧ Hid (mk < 2 ^ h) ∧ Hid (runGo h mk (ts.drop k) k = R) ∧ Blk wr w.heap.size [.int .i64 h, .int .i64 mk] 25 ∧ Blk wr (w.heap.size + 1) [.int .i64 0, .int .i64 0] 25 ∧ Below w.heap.size w wr) (fun i _ => n - (intOf i).toNat)
  case atStart => exact ⟨0, m, Nat.zero_le _, rfl, HM, HRN, P0, Q0, B1⟩
  case round =>
    obtain ⟨k, mk, hk, rfl, hmk, hrun, P, Q, hb⟩ := hrel
    clear P0 Q0 B1
    have c0 := P.cell 0
    have c1 := P.cell 1
    have d0 := Q.cell 0
    have d1 := Q.cell 1
    simp only [List.getElem?_cons_zero, List.getElem?_cons_succ] at c0 c1 d0 d1
    by_cases hlt : k < n
    · obtain ⟨bt, off, rfl, hbt, cx⟩ := HC.out k hlt
      obtain ⟨t1, t2⟩ := HF.out k hlt
      have hst := HSTEP.out mk k hlt
      have hsp := HSTOP.out mk k hlt
      rw [hrun.out] at hst hsp
      have hr := canI_range (h := h) (m := mk) (t := ts.getD k 0)
      have cx0 := (hb.cell (p := ⟨bt, off + k, none⟩) hbt).trans cx
      clear cx
      generalize ts.getD k 0 = t at *
      have HCan := fun W => allows_any h mk t W hh hmk.out t1 t2
      clear HC HF HEND HSTEP HSTOP HRN
      cases hcan : canI h mk t with
      | false =>
        rw [hcan] at HCan
        have HR := Lib.hid (hsp hcan)
        clear hsp hst hr hrun hcan
        go_wp2_with fail
        refine (HCan _).mono ?_
        rintro e w2 ⟨rfl, b2⟩
        have P2 := P.below b2 P.lt
        have Q2 := Q.below b2 Q.lt
        clear c0 c1 d0 d1 cx0 P Q HCan
        have c0 := P2.cell 0
        have c1 := P2.cell 1
        have d0 := Q2.cell 0
        have d1 := Q2.cell 1
        have f0 := Q2.free 0
        have f1 := Q2.free 1
        simp only [List.getElem?_cons_zero, List.getElem?_cons_succ] at c0 c1 d0 d1
        obtain ⟨r0, r1⟩ := stc_set (.int .i64 h) (.int .i64 mk) d0 d1
        go_wp2
        refine bodyPost_ret (v := .tuple #[.agg #[.int .i64 h, .int .i64 mk], .int .i64 k, .int .i64 6]) (by simp [results, Tryd.results25, go_sem, r0, r1]) rfl ?_
        exact ⟨by rw [HR.out], two_below (hb.trans (b2.mono hb.size)) (by omega) _ _⟩
      | true =>
        have hr := hr hcan
        obtain ⟨q, rfl⟩ : ∃ q : Nat, t = q := ⟨t.toNat, by omega⟩
        rw [hcan] at HCan
        have hst := hst hcan
        rw [Int.toNat_natCast] at hst
        have HST := Lib.hid hst.symm
        have hmn := nextM_lt h1 hmk.out (show q ≤ h by omega)
        have HMN := Lib.hid hmn
        have HNx := fun W => after_any h mk q W hh hmk.out (by omega)
        clear hsp hst hr hrun hcan hmn
        generalize nextM mk q = m2 at *
        go_wp2_with fail
        refine (HCan _).mono ?_
        rintro e w2 ⟨rfl, b2⟩
        have P2 := P.below b2 P.lt
        have Q2 := Q.below b2 Q.lt
        have hs2 := b2.size
        clear c0 c1 d0 d1 cx0 P Q HCan
        have c0 := P2.cell 0
        have c1 := P2.cell 1
        simp only [List.getElem?_cons_zero, List.getElem?_cons_succ] at c0 c1
        go_wp2_with fail
        refine (HNx _).mono ?_
        rintro e w3 ⟨rfl, b3⟩
        have P3 := P2.below b3 P2.lt
        have Q3 := Q2.below b3 Q2.lt
        clear c0 c1 HNx P2 Q2
        have c0 := P3.cell 0
        have c1 := P3.cell 1
        have f0 := P3.free 0
        have f1 := P3.free 1
        simp only [List.getElem?_cons_zero, List.getElem?_cons_succ] at c0 c1
        have HP4 := Lib.hid ((P3.set 0 (.int .i64 h)).set 1 (.int .i64 m2))
        have HQ4 := Lib.hid ((Q3.other (p := ⟨w.heap.size, 0, none⟩) (by show w.heap.size + 1 ≠ w.heap.size; omega) (.int .i64 h)).other (p := ⟨w.heap.size, 1, none⟩) (by show w.heap.size + 1 ≠ w.heap.size; omega) (.int .i64 m2))
        have HB4 := Lib.hid (two_below (hb.trans ((b2.trans (b3.mono hs2)).mono hb.size)) (Nat.le_refl _) (.int .i64 h) (.int .i64 m2))
        clear P3 Q3
        go_wp2
        first
          | exact ⟨⟨k + 1, m2, by omega, by go_num, HMN, HST, HP4.out, HQ4.out, HB4.out⟩, by simp [intOf]; omega⟩
          | (go_roundw
             case rel => exact ⟨k + 1, m2, by omega, by go_num, HMN, HST, HP4.out, HQ4.out, HB4.out⟩
             case measure => simp [intOf]; omega)
    · obtain rfl : k = n := by omega
      have he := HEND.out mk
      rw [hrun.out] at he
      have HR := Lib.hid he
      obtain ⟨r0, r1⟩ := stc_set (.int .i64 h) (.int .i64 mk) d0 d1
      have f0 := Q.free 0
      have f1 := Q.free 1
      clear HC HF HEND HSTEP HSTOP HRN he hrun P Q
      go_wp2
      refine bodyPost_ret (v := .tuple #[.agg #[.int .i64 h, .int .i64 mk], .int .i64 k, .int .i64 0]) (by simp [results, Tryd.results25, go_sem, r0, r1]) rfl ?_
      exact ⟨by rw [HR.out], two_below hb (by omega) _ _⟩

theorem runThrowsI_bad (h m : Int) (v : Value) (w : World) (m1 : -9223372036854775808 ≤ m) (m2 : m ≤ 9223372036854775807) (hok : okSt h m = false) (a : Option Addr) (n cap : Nat) (hv : v = .slice a n cap) :
    Calls Tryd.prog 25 #[.agg #[.int .i64 h, .int .i64 m], v] w fun e w' => e = .returned (.tuple #[.agg #[.int .i64 0, .int .i64 0], .int .i64 0, .int .i64 1]) ∧ Below w.heap.size w w' := by
  subst hv
  have HO := fun W => isValid_any h m W m1 m2
  rw [hok] at HO
  go_enter Tryd.func25, Tryd.ntmps25
  go_wp2_with fail
  refine (HO _).mono ?_
  rintro e w1 ⟨rfl, b3⟩
  obtain ⟨c0, c1, d0, d1, fr, b3⟩ := four_kept b3
  have f0 := fr 0
  have f1 := fr 1
  obtain ⟨r0, r1⟩ := stc_set (.int .i64 0) (.int .i64 0) d0 d1
  go_wp2
  refine bodyPost_ret (v := .tuple #[.agg #[.int .i64 0, .int .i64 0], .int .i64 0, .int .i64 1]) (by simp [results, Tryd.results25, go_sem, r0, r1]) rfl ?_
  exact ⟨rfl, two_below b3 (by omega) _ _⟩

theorem runThrows_impl (h m : Int) (v : Value) (B : Nat) (ts : List Int) (w : World) (m1 : -9223372036854775808 ≤ m) (m2 : m ≤ 9223372036854775807) (hI : Ints w B v ts) (hf : Fit ts) (hn : ts.length ≤ 1048576) :
    Calls Tryd.prog 25 #[.agg #[.int .i64 h, .int .i64 m], v] w fun e w' => e = .returned (.tuple #[.agg #[.int .i64 (runH h m), .int .i64 (runM h m ts)], .int .i64 (runN h m ts), .int .i64 (runC h m ts)]) ∧ Below w.heap.size w w' := by
  obtain ⟨a, cap, rfl, hc⟩ := slice_rows hI
  cases hok : okSt h m with
  | false =>
    rw [show runH h m = 0 from by rw [runH, hok]; rfl, show runM h m ts = 0 from by rw [runM, hok]; rfl, show runN h m ts = 0 from by rw [runN, hok]; rfl, show runC h m ts = 1 from by rw [runC, hok]; rfl]
    exact runThrowsI_bad h m _ w m1 m2 hok _ _ _ rfl
  | true =>
    rw [show runH h m = h from by rw [runH, hok]; rfl, show runM h m ts = (runGo h.toNat m.toNat ts 0).1 from by rw [runM, hok]; rfl, show runN h m ts = (runGo h.toNat m.toNat ts 0).2.1 from by rw [runN, hok]; rfl, show runC h m ts = (runGo h.toNat m.toNat ts 0).2.2 from by rw [runC, hok]; rfl]
    obtain ⟨x, y, rfl, rfl, h1, h2, h3⟩ := okSt_nat hok
    rw [Int.toNat_natCast, Int.toNat_natCast]
    exact runThrows_impl_core x y a cap ts.length ts _ w h1 h2 h3 rfl hn rfl (fun i hi => hf _ (by rw [List.getD_eq_getElem?_getD, List.getElem?_eq_getElem hi]; exact List.getElem_mem hi)) hc
end Go.Proofs.YtjndiaefcmjbmaaDoor
