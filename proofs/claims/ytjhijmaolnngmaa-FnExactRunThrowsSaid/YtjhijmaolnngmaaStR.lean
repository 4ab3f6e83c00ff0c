/- RunThrows, the model's and the program's. No conditions but sizes. -/
import Derived.Test.YtjhijmaolnngmaaStJ
import Derived.Test.YtjhijmaolnngmaaStO
import Derived.Test.YtjhijmaolnngmaaOwnK
import Derived.Deep.RegionLaw
namespace Go.Proofs.Ytjhijmaolnngmaa
open Go.RowKit
set_option linter.unusedSimpArgs false
set_option linter.unusedVariables false

/-- throws one after the other: the mask, how many were made, the code -/
def runGo (h : Nat) : Nat → List Int → Nat → Nat × Nat × Int
  | m, [], k => (m, k, 0)
  | m, t :: ts, k => if canI h m t then runGo h (nextM m t.toNat) ts (k + 1) else (m, k, 6)
theorem runGo_end {h m : Nat} {ts : List Int} {k : Nat} (hk : ts.length ≤ k) : runGo h m (ts.drop k) k = (m, k, 0) := by
  rw [List.drop_eq_nil_of_le hk]; rfl
theorem runGo_step {h m : Nat} {ts : List Int} {k : Nat} (hk : k < ts.length) (hc : canI h m (ts.getD k 0) = true) : runGo h m (ts.drop k) k = runGo h (nextM m (ts.getD k 0).toNat) (ts.drop (k + 1)) (k + 1) := by
  rw [List.drop_eq_getElem_cons hk, show ts[k] = ts.getD k 0 from by simp [hk], runGo, if_pos hc]
theorem runGo_stop {h m : Nat} {ts : List Int} {k : Nat} (hk : k < ts.length) (hc : canI h m (ts.getD k 0) = false) : runGo h m (ts.drop k) k = (m, k, 6) := by
  rw [List.drop_eq_getElem_cons hk, show ts[k] = ts.getD k 0 from by simp [hk], runGo, if_neg (by rw [hc]; simp)]
/-- what RunThrows answers -/
def runH (h m : Int) : Int := if okSt h m then h else 0
def runM (h m : Int) (ts : List Int) : Int := if okSt h m then (runGo h.toNat m.toNat ts 0).1 else 0
def runN (h m : Int) (ts : List Int) : Int := if okSt h m then (runGo h.toNat m.toNat ts 0).2.1 else 0
def runC (h m : Int) (ts : List Int) : Int := if okSt h m then (runGo h.toNat m.toNat ts 0).2.2 else 1

set_option maxRecDepth 10000 in
set_option maxHeartbeats 400000 in
theorem runThrows_spec_core (h m : Nat) (a : Option Addr) (cap n : Nat) (ts : List Int) (R : Nat × Nat × Int) (w : World) (h1 : 1 ≤ h) (hh : h ≤ 10) (hm : m < 2 ^ h) (hn : ts.length = n) (hn2 : n ≤ 1048576) (hR : runGo h m ts 0 = R)
    (hf : ∀ i, i < n → -9223372036854775808 ≤ ts.getD i 0 ∧ ts.getD i 0 ≤ 9223372036854775807)
    (hc : ∀ i, i < n → ∃ b off, a = some ⟨b, off, none⟩ ∧ b < w.heap.size ∧ w.cell? ⟨b, off + i, none⟩ = some (.int .i64 (ts.getD i 0))) :
    Calls Try.prog 37 #[.agg #[.int .i64 h, .int .i64 m], .slice a n cap] w fun e w' => e = .returned (.tuple #[.agg #[.int .i64 h, .int .i64 R.1], .int .i64 R.2.1, .int .i64 R.2.2]) ∧ Below w.heap.size w w' := by
  have HF := Lib.hid hf
  have HC := Lib.hid hc
  have HRN := Lib.hid (show runGo h m (ts.drop 0) 0 = R from hR)
  have HEND := Lib.hid (fun mk => runGo_end (h := h) (m := mk) (ts := ts) (k := n) (by omega))
  have HSTEP := Lib.hid (fun mk k (hk : k < n) => runGo_step (h := h) (m := mk) (ts := ts) (k := k) (by omega))
  have HSTOP := Lib.hid (fun mk k (hk : k < n) => runGo_stop (h := h) (m := mk) (ts := ts) (k := k) (by omega))
  have HO := l08Ok_any h m
  rw [okSt_mk h1 hh hm] at HO
  have HM := Lib.hid hm
  clear hf hc hR hn hm
  go_enter Try.func37, Try.ntmps37
  go_wp2_with fail
  refine (HO _).mono ?_
  rintro e w1 ⟨rfl, b3⟩
  have P0 : Blk w1 w.heap.size [.int .i64 h, .int .i64 m] 25 := ((Blk.made w #[.int .i64 h, .int .i64 m] 25).alloc _).below b3 (by simp; omega)
  have Q0 : Blk w1 (w.heap.size + 1) [.int .i64 0, .int .i64 0] 25 := by
    have := (Blk.made (w.alloc (.cells #[.int .i64 h, .int .i64 m] 25)) #[.int .i64 0, .int .i64 0] 25).below b3 (by simp)
    simpa using this
  obtain ⟨_, _, _, _, _, B1⟩ := four_kept b3
  clear b3 HO
  have NE := Nat.ne_of_lt (Nat.lt_succ_self w.heap.size)
  go_wp2
  go_loopw [7] (fun i wr => ∃ k mk : Nat, k ≤ n ∧ i = .int .i64 k ∧ Hid (mk < 2 ^ h) ∧ Hid (runGo h mk (ts.drop k) k = R) ∧ Blk wr w.heap.size [.int .i64 h, .int .i64 mk] 25 ∧ Blk wr (w.heap.size + 1) [.int .i64 0, .int .i64 0] 25 ∧ Below w.heap.size w wr) (fun i _ => n - (intOf i).toNat)
  case atStart => exact ⟨0, m, Nat.zero_le _, rfl, HM, HRN, P0, Q0, B1⟩
  case round =>
    obtain ⟨k, mk, hk, rfl, hmk, hrun, P, Q, hb⟩ := hrel
    clear P0 Q0 B1
    have c0 := P.cell 0
    have c1 := P.cell 1
    have d0 := Q.cell 0
    have d1 := Q.cell 1
    simp only [List.getElem?_cons_zero, List.getElem?_cons_succ] at c0 c1 d0 d1
    by_cases hlt : k < n
    · obtain ⟨bt, off, rfl, hbt, cx⟩ := HC.out k hlt
      obtain ⟨t1, t2⟩ := HF.out k hlt
      have hst := HSTEP.out mk k hlt
      have hsp := HSTOP.out mk k hlt
      rw [hrun.out] at hst hsp
      have hr := canI_range (h := h) (m := mk) (t := ts.getD k 0)
      have cx0 := (hb.cell (p := ⟨bt, off + k, none⟩) hbt).trans cx
      have hbs := hb.size
      clear cx
      generalize ts.getD k 0 = t at *
      have HCan := Lib.hid (fun W (hW : Below wr.heap.size wr W) => show Calls Try.prog 67 #[.agg #[.int .i64 h, .int .i64 mk], .int .i64 t] W fun e w' => e = .returned (.bool (canI h mk t)) ∧ Below wr.heap.size wr w' from
        (l08Can_any h mk t W hh hmk.out t1 t2).mono fun e w' ⟨h1, h2⟩ => ⟨h1, hW.trans (h2.mono hW.size)⟩)
      clear HC HF HEND HSTEP HSTOP HRN
      cases hcan : canI h mk t with
      | false =>
        rw [hcan] at HCan
        have HR := Lib.hid (hsp hcan)
        have HP := Lib.hid P
        have HQ := Lib.hid Q
        clear hsp hst hr P Q hrun hcan
        go_wp2
        go_region_law (first | (go_simp; go_at_call 67; (with_reducible refine (HCan.out _ ?_).mono ?_); (repeat (first | exact Below.refl _ _ | refine Below.drew ?_ | refine below_drewN ?_ _)); rintro e w2 ⟨rfl, b2⟩))
        all_goals
          have P2 := HP.out.below b2 HP.out.lt
          have Q2 := HQ.out.below b2 HQ.out.lt
          clear c0 c1 d0 d1 cx0 HP HQ HCan
          have c0 := P2.cell 0
          have c1 := P2.cell 1
          have d0 := Q2.cell 0
          have d1 := Q2.cell 1
          have f0 := Q2.free 0
          have f1 := Q2.free 1
          simp only [List.getElem?_cons_zero, List.getElem?_cons_succ] at c0 c1 d0 d1
          obtain ⟨r0, r1⟩ := two_set (.int .i64 h) (.int .i64 mk) d0 d1
        all_goals go_wp2
        all_goals refine bodyPost_ret (v := .tuple #[.agg #[.int .i64 h, .int .i64 mk], .int .i64 k, .int .i64 6]) (by simp [results, Try.results37, go_sem, r0, r1]) rfl ?_
        all_goals exact ⟨by rw [HR.out], two_below (hb.trans (b2.mono hb.size)) (by omega) _ _⟩
      | true =>
        have hr := hr hcan
        obtain ⟨q, rfl⟩ : ∃ q : Nat, t = q := ⟨t.toNat, by omega⟩
        rw [hcan] at HCan
        have hst := hst hcan
        rw [Int.toNat_natCast] at hst
        have HST := Lib.hid hst.symm
        have hmn := nextM_lt h1 hmk.out (show q ≤ h by omega)
        have HMN := Lib.hid hmn
        have HNx := Lib.hid (fun W (hW : Below wr.heap.size wr W) => show Calls Try.prog 69 #[.agg #[.int .i64 h, .int .i64 mk], .int .i64 q] W fun e w' => e = .returned (.agg #[.int .i64 h, .int .i64 (nextM mk q)]) ∧ Below wr.heap.size wr w' ∧ Blk w' w.heap.size [.int .i64 h, .int .i64 mk] 25 ∧ Blk w' (w.heap.size + 1) [.int .i64 0, .int .i64 0] 25 ∧ (w'.cell? ⟨w.heap.size, 0, none⟩ = some (.int .i64 h) ∧ w'.cell? ⟨w.heap.size, 1, none⟩ = some (.int .i64 mk) ∧ w'.frozen? ⟨w.heap.size, 0, none⟩ = false ∧ w'.frozen? ⟨w.heap.size, 1, none⟩ = false) from
          (l08Next_any h mk q W hh hmk.out (by omega)).mono fun e w' ⟨h1, h2⟩ => by
            have b2 := hW.trans (h2.mono hW.size)
            have P2 := P.below b2 P.lt
            have e0 := P2.cell 0
            have e1 := P2.cell 1
            simp only [List.getElem?_cons_zero, List.getElem?_cons_succ] at e0 e1
            exact ⟨h1, b2, P2, Q.below b2 Q.lt, e0, e1, P2.free 0, P2.free 1⟩)
        have HP := Lib.hid P
        have HQ := Lib.hid Q
        clear hsp hst hr P Q hrun hcan hmn
        generalize nextM mk q = m2 at *
        go_wp2
        go_region_law (first | (go_simp; go_at_call 67; (with_reducible refine (HCan.out _ ?_).mono ?_); (repeat (first | exact Below.refl _ _ | refine Below.drew ?_ | refine below_drewN ?_ _)); rintro e w2 ⟨rfl, b2⟩))
        all_goals
          have P2 := HP.out.below b2 HP.out.lt
          have cx := (b2.cell (p := ⟨bt, off + k, none⟩) (by show bt < wr.heap.size; omega)).trans cx0
          clear c0 c1 d0 d1 cx0 HCan HP HQ
          have c0 := P2.cell 0
          have c1 := P2.cell 1
          simp only [List.getElem?_cons_zero, List.getElem?_cons_succ] at c0 c1
          clear P2
        all_goals go_wp2
        all_goals go_region_law (first | (go_simp; go_at_call 69; (with_reducible refine (HNx.out _ ?_).mono ?_); (repeat (first | exact b2 | refine Below.drew ?_ | refine below_drewN ?_ _)); rintro e w3 ⟨rfl, b3, P3, Q3, e0, e1, f0, f1⟩))
        all_goals
          have HP4 := Lib.hid ((P3.set 0 (.int .i64 h)).set 1 (.int .i64 m2))
          have HQ4 := Lib.hid ((Q3.other (p := ⟨w.heap.size, 0, none⟩) (by show w.heap.size + 1 ≠ w.heap.size; omega) (.int .i64 h)).other (p := ⟨w.heap.size, 1, none⟩) (by show w.heap.size + 1 ≠ w.heap.size; omega) (.int .i64 m2))
          have HB4 := Lib.hid (two_below (hb.trans (b3.mono hb.size)) (Nat.le_refl _) (.int .i64 h) (.int .i64 m2))
          clear c0 c1 cx HNx P3 Q3 e0 e1 f0 f1 b3
        all_goals go_wp2
        all_goals exact ⟨⟨k + 1, m2, by omega, by go_num, HMN, HST, HP4.out, HQ4.out, HB4.out⟩, by simp [intOf]; omega⟩
    · obtain rfl : k = n := by omega
      have he := HEND.out mk
      rw [hrun.out] at he
      have HR := Lib.hid he
      obtain ⟨r0, r1⟩ := two_set (.int .i64 h) (.int .i64 mk) d0 d1
      have f0 := Q.free 0
      have f1 := Q.free 1
      clear HC HF HEND HSTEP HSTOP HRN he hrun P Q
      go_wp2
      refine bodyPost_ret (v := .tuple #[.agg #[.int .i64 h, .int .i64 mk], .int .i64 k, .int .i64 0]) (by simp [results, Try.results37, go_sem, r0, r1]) rfl ?_
      exact ⟨by rw [HR.out], two_below hb (by omega) _ _⟩

theorem slice_rows {w : World} {B : Nat} {v : Value} {ts : List Int} (h : Ints w B v ts) : ∃ a cap, v = .slice a ts.length cap ∧ ∀ i, i < ts.length → ∃ b off, a = some ⟨b, off, none⟩ ∧ b < w.heap.size ∧ w.cell? ⟨b, off + i, none⟩ = some (.int .i64 (ts.getD i 0)) := by
  rcases h.shape with ⟨rfl, rfl⟩ | ⟨g, cap, rfl, _, hg, _⟩
  · exact ⟨none, 0, rfl, fun i hi => absurd hi (Nat.not_lt_zero _)⟩
  · exact ⟨_, cap, rfl, fun i hi => ⟨g, 0, rfl, hg, by rw [Nat.zero_add]; exact h.cell i hi⟩⟩

theorem runThrows_bad (h m : Int) (v : Value) (w : World) (hok : okSt h m = false) (a : Option Addr) (n cap : Nat) (hv : v = .slice a n cap) :
    Calls Try.prog 37 #[.agg #[.int .i64 h, .int .i64 m], v] w fun e w' => e = .returned (.tuple #[.agg #[.int .i64 0, .int .i64 0], .int .i64 0, .int .i64 1]) ∧ Below w.heap.size w w' := by
  subst hv
  have HO := l08Ok_any h m
  rw [hok] at HO
  go_enter Try.func37, Try.ntmps37
  go_wp2_with fail
  refine (HO _).mono ?_
  rintro e w1 ⟨rfl, b3⟩
  obtain ⟨c0, c1, d0, d1, fr, b3⟩ := four_kept b3
  have f0 := fr 0
  have f1 := fr 1
  obtain ⟨r0, r1⟩ := two_set (.int .i64 0) (.int .i64 0) d0 d1
  go_wp2
  refine bodyPost_ret (v := .tuple #[.agg #[.int .i64 0, .int .i64 0], .int .i64 0, .int .i64 1]) (by simp [results, Try.results37, go_sem, r0, r1]) rfl ?_
  exact ⟨rfl, two_below b3 (by omega) _ _⟩

theorem runThrows_spec (h m : Int) (v : Value) (B : Nat) (ts : List Int) (w : World) (hI : Ints w B v ts) (hf : Fit ts) (hn : ts.length ≤ 1048576) :
    Calls Try.prog 37 #[.agg #[.int .i64 h, .int .i64 m], v] w fun e w' => e = .returned (.tuple #[.agg #[.int .i64 (runH h m), .int .i64 (runM h m ts)], .int .i64 (runN h m ts), .int .i64 (runC h m ts)]) ∧ Below w.heap.size w w' := by
  obtain ⟨a, cap, rfl, hc⟩ := slice_rows hI
  cases hok : okSt h m with
  | false =>
    rw [show runH h m = 0 from by rw [runH, hok]; rfl, show runM h m ts = 0 from by rw [runM, hok]; rfl, show runN h m ts = 0 from by rw [runN, hok]; rfl, show runC h m ts = 1 from by rw [runC, hok]; rfl]
    exact runThrows_bad h m _ w hok _ _ _ rfl
  | true =>
    rw [show runH h m = h from by rw [runH, hok]; rfl, show runM h m ts = (runGo h.toNat m.toNat ts 0).1 from by rw [runM, hok]; rfl, show runN h m ts = (runGo h.toNat m.toNat ts 0).2.1 from by rw [runN, hok]; rfl, show runC h m ts = (runGo h.toNat m.toNat ts 0).2.2 from by rw [runC, hok]; rfl]
    obtain ⟨x, y, rfl, rfl, h1, h2, h3⟩ := okSt_nat hok
    rw [Int.toNat_natCast, Int.toNat_natCast]
    exact runThrows_spec_core x y a cap ts.length ts _ w h1 h2 h3 rfl hn rfl (fun i hi => hf _ (by rw [List.getD_eq_getElem?_getD, List.getElem?_eq_getElem hi]; exact List.getElem_mem hi)) hc
end Go.Proofs.Ytjhijmaolnngmaa
