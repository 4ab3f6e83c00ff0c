/- Prime patterns: FirstRepeat, IsPrime, both sides. No conditions. -/
import Derived.Test.YtdghbbnddgngoaaPrA
import Derived.Test.YtdghbbnddgngoaaArI
namespace Go.Proofs.Ytdghbbnddgngoaa
open Go.RowKit
open Go.Maps (Keyed)
set_option linter.unusedSimpArgs false
set_option linter.unusedVariables false

/-- the states of a pattern that is not too high -/
def prL (p : List Int) : List Sta := if prC p = 0 then ofL p (prH p) else []
theorem prL_yes {p : List Int} (h : prC p = 0) : prL p = ofL p (prH p) := by simp [prL, h]
theorem prL_no {p : List Int} (h : prC p ≠ 0) : prL p = [] := by simp [prL, h]

theorem l11Prime_any (v : Value) (B : Nat) (p : List Int) (w : World) (hI : Ints w B v p) (hz : prC p = 0) :
    Calls Try.prog 41 #[v] w fun e w' => e = .returned (.bool (rpB p == (p.length : Int))) ∧ Below w.heap.size w w' := by
  have HR := l11Repeat_any v B p w hI hz
  obtain ⟨xa, xc, rfl⟩ := ints_slO hI
  clear hI hz
  generalize rpA p = a at *
  generalize rpB p = b at *
  generalize p.length = n at *
  go_enter Try.func41, Try.ntmps41
  go_wp2_with fail
  refine HR.mono ?_
  rintro e w2 ⟨rfl, b2⟩
  go_wp2
  go_ret
  exact ⟨rfl, b2⟩

theorem isPrime_spec (v : Value) (B : Nat) (p : List Int) (w : World) (hI : Ints w B v p) :
    Calls Try.prog 15 #[v] w fun e w' => e = .returned (.bool (isPr p)) ∧ Below w.heap.size w w' := by
  have HC := l11Code_any v B p w hI
  by_cases hz : prC p = 0
  · rw [(fr_yes hz).2.2]
    have HR := fun W (hW : Below w.heap.size w W) => l11Prime_any v B p W (hI.below hW) hz
    rw [hz] at HC
    generalize (rpB p == (p.length : Int)) = r at *
    clear hI hz
    go_enter Try.func15, Try.ntmps15
    go_wp2_with fail
    refine HC.mono ?_
    rintro e w1 ⟨rfl, b1⟩
    go_wp2_with fail
    refine (HR _ b1).mono ?_
    rintro e w2 ⟨rfl, b2⟩
    go_wp2
    go_ret
    exact ⟨rfl, b1.trans (b2.mono b1.size)⟩
  · rw [(fr_no hz).2.2]
    have hne : (prC p == 0) = false := by simpa using hz
    generalize prC p = c at *
    clear hI
    go_enter Try.func15, Try.ntmps15
    go_wp2_with fail
    refine HC.mono ?_
    rintro e w1 ⟨rfl, b1⟩
    go_wp2
    go_ret
    exact ⟨rfl, b1⟩

/-! ### the program's -/
theorem ownStates_any (v : Value) (B : Nat) (p : List Int) (w : World) (hI : Ints w B v p) :
    Calls Try.prog 39 #[v] w fun e w' => ∃ u, e = .returned (.tuple #[u, .int .i64 (prC p)]) ∧ Sts w' w.heap.size u (prL p) ∧ Below w.heap.size w w' := by
  have HH := highestOf_impl v B p w hI
  cases hok : okPat p with
  | false =>
    rw [prC_bad hok, prL_no (by rw [prC_bad hok]; decide)]
    rw [highA_false hok, okC_false hok] at HH
    clear hI hok
    go_enter Try.func39, Try.ntmps39
    go_wp2_with fail
    refine HH.mono ?_
    rintro e w1 ⟨rfl, b1⟩
    go_wp2
    go_ret2
    exact ⟨_, rfl, OwnK.nil _ _ _ _ _, b1⟩
  | true =>
    rw [okC_true hok] at HH
    obtain ⟨hb1, hb2⟩ := highA_bound hok
    by_cases hh : 10 < highA p
    · rw [prC_high hok hh, prL_no (by rw [prC_high hok hh]; decide)]
      clear hI hok
      generalize highA p = x at *
      go_enter Try.func39, Try.ntmps39
      go_wp2_with fail
      refine HH.mono ?_
      rintro e w1 ⟨rfl, b1⟩
      go_wp2
      go_ret2
      exact ⟨_, rfl, OwnK.nil _ _ _ _ _, b1⟩
    · have hz := prC_ok hok hh
      obtain ⟨a, b, c⟩ := prH_num hz
      have HS := fun W (hW : Below w.heap.size w W) => statesOf_impl v B p (prH p : Nat) W (hI.below hW)
      have hLA : ofLA p (prH p : Nat) = ofL p (prH p) := by rw [ofLA, if_pos (prH_code hz), Int.toNat_natCast]
      rw [prH_code hz, hLA] at HS
      rw [hz, prL_yes hz]
      rw [c] at HS
      clear hI hok hLA hz a b c
      generalize ofL p (prH p) = L at *
      by_cases h1 : highA p < 1
      · rw [Int.max_eq_left (by omega)] at HS
        have hmx : max (highA p) 1 = 1 := Int.max_eq_right (by omega)
        generalize highA p = x at *
        go_enter Try.func39, Try.ntmps39
        go_wp2_with fail
        refine HH.mono ?_
        rintro e w1 ⟨rfl, b1⟩
        go_wp2_with fail
        refine (HS _ b1).mono ?_
        rintro e w2 ⟨u, rfl, hs, b2⟩
        go_wp2
        go_ret2
        exact ⟨_, rfl, hs.mono b1.size, b1.trans (b2.mono b1.size)⟩
      · rw [Int.max_eq_right (by omega)] at HS
        have hmx : max (highA p) 1 = highA p := Int.max_eq_left (by omega)
        generalize highA p = x at *
        go_enter Try.func39, Try.ntmps39
        go_wp2_with fail
        refine HH.mono ?_
        rintro e w1 ⟨rfl, b1⟩
        go_wp2_with fail
        refine (HS _ b1).mono ?_
        rintro e w2 ⟨u, rfl, hs, b2⟩
        go_wp2
        go_ret2
        exact ⟨_, rfl, hs.mono b1.size, b1.trans (b2.mono b1.size)⟩

/-- the map behind the first j states: of each its beat -/
def FrMap (D : DS) (h : Int) (f : Nat → Int) (j : Nat) : Prop :=
  Maps.IsMap D ∧ (∀ i, i < j → Maps.has D (slit h (f i)) = true ∧ D.atKey (slit h (f i)) (.lit (.int .i64 0)) = .lit (.int .i64 (i : Int))) ∧
  ∀ x : Int, 0 ≤ x → x ≤ 2000 → (∀ i, i < j → f i ≠ x) → Maps.has D (slit h x) = false
theorem FrMap.zero (h : Int) (f : Nat → Int) : FrMap (.map []) h f 0 := ⟨Maps.isMap_empty, fun i hi => absurd hi (Nat.not_lt_zero _), fun x _ _ _ => by simp [Maps.has]⟩
set_option maxRecDepth 100000 in
theorem FrMap.add {D : DS} {h : Int} {f : Nat → Int} {j : Nat} (hD : FrMap D h f j) (h0 : 0 ≤ h) (h1 : h ≤ 2000) (hf : ∀ i, i ≤ j → 0 ≤ f i ∧ f i ≤ 2000) (hd : ∀ i, i < j → f i ≠ f j) : FrMap (D.put (slit h (f j)) (.lit (.int .i64 (j : Int)))) h f (j + 1) := by
  have fj := hf j (Nat.le_refl _)
  have kj : WideAt.IsKeyLit (slit h (f j)) := stateKeyed.key (v := keyS h (f j)) (slit_key h0 h1 fj.1 fj.2)
  refine ⟨hD.1.put _ _, fun i hi => ?_, fun x x0 x1 hx => ?_⟩
  · by_cases e : i = j
    · subst e
      exact ⟨Maps.has_put_same hD.1 kj _, Maps.atKey_put_same hD.1 kj _ _⟩
    · have fi := hf i (by omega)
      have hne : slit h (f i) ≠ slit h (f j) := fun e2 => hd i (by omega) (slit_inj h0 h1 fi.1 fi.2 h0 h1 fj.1 fj.2 e2).2
      rw [Maps.has_put_other hne, Maps.atKey_put_other hne]
      exact hD.2.1 i (by omega)
  · have hne : slit h x ≠ slit h (f j) := fun e2 => hx j (by omega) (slit_inj h0 h1 x0 x1 h0 h1 fj.1 fj.2 e2).2.symm
    rw [Maps.has_put_other hne]
    exact hD.2.2 x x0 x1 fun i hi => hx i (by omega)

set_option maxRecDepth 10000 in
set_option maxHeartbeats 1000000 in
theorem firstRepeat_core (xa : Option Addr) (xc n : Nat) (h : Nat) (f : Nat → Int) (w : World) (hn2 : n ≤ 12) (hh : h ≤ 10) (hf : ∀ i, 0 ≤ f i ∧ f i ≤ 2000)
    (HSt : Calls Try.prog 39 #[.slice xa n xc] w fun e w' => ∃ g cap, e = .returned (.tuple #[.slice (some ⟨g, 0, none⟩) n cap, .int .i64 0]) ∧ Below w.heap.size w w' ∧ g < w'.heap.size ∧ ∀ W, Below w'.heap.size w' W → ∀ i, i < n → W.cell? ⟨g, i * 2, none⟩ = some (.int .i64 h) ∧ W.cell? ⟨g, i * 2 + 1, none⟩ = some (.int .i64 (f i)))
    (ra rb : Int) (hsome : ∀ i k, clash f n = some (i, k) → ra = i ∧ rb = k) (hnone : clash f n = none → ra = 0 ∧ rb = n) :
    Calls Try.prog 13 #[.slice xa n xc] w fun e w' =>
      e = .returned (.tuple #[.int .i64 ra, .int .i64 rb, .int .i64 0]) ∧ Below w.heap.size w w' := by
  have HSO := Lib.hid hsome
  have HNO := Lib.hid hnone
  have hmm := @run_makeMap Try.prog
  have HF := Lib.hid hf
  clear hsome hnone hf
  go_enter Try.func13, Try.ntmps13
  go_wp2_with fail
  refine HSt.mono ?_
  rintro e w1 ⟨g, cap, rfl, b1, hg, hc⟩
  clear HSt
  have HC := Lib.hid hc
  clear hc
  have own0 : (w1.alloc (.map #[] 0)).ownsMap Try.prog 60 (plainElem Try.prog 2) w1.heap.size 0 (.map [] : DS) := World.ownsMap_made _ _ _ _
  have b0 : Below w1.heap.size w1 (w1.alloc (.map #[] 0)) := (Below.refl _ w1).alloc (Nat.le_refl _) _
  go_wp2
  go_loopw [23] (fun c wr => ∃ (k : Nat) (D : DS), k ≤ n ∧ c = .int .i64 k ∧ Hid (distinct f k) ∧ wr.ownsMap Try.prog 60 (plainElem Try.prog 2) w1.heap.size k D ∧ FrMap D h f k ∧ Below w1.heap.size w1 wr) (fun c _ => n - (intOf c).toNat)
  case atStart => exact ⟨0, _, by omega, rfl, fun a b hab hb => by omega, own0, FrMap.zero _ _, b0⟩
  case round =>
    clear own0 b0
    obtain ⟨k, D, hk, rfl, hd, hown, hD, hb⟩ := hrel
    by_cases hlt : k < n
    · obtain ⟨c0, c1⟩ := HC.out wr hb k hlt
      obtain ⟨f0, f1⟩ := HF.out k
      obtain ⟨x, hx⟩ : ∃ x, f k = x := ⟨_, rfl⟩
      have hkey : keyOf Try.prog 60 (.agg #[.int .i64 h, .int .i64 x]) = some (slit h x) := slit_key (by omega) (by omega) (by omega) (by omega)
      rw [hx] at c1 f0 f1
      have hB1 := hb.alloc hb.size (.cells #[.int .i64 h, .int .i64 x] 60)
      have hown1 := ownsIdx_below hown ((Below.refl _ wr).alloc (Nat.le_refl _) (.cells #[.int .i64 h, .int .i64 x] 60))
      have hzz : (zeroValue 2).run Try.prog (wr.alloc (.cells #[.int .i64 h, .int .i64 x] 60)) = .ok (.int .i64 0) (wr.alloc (.cells #[.int .i64 h, .int .i64 x] 60)) := zero64 _
      by_cases hex : ∃ i, i < k ∧ f i = f k
      · obtain ⟨i, hik, hie⟩ := hex
        have hcl : clash f n = some (i, k) := clash_some hlt hik hd.out hie fun a ha e => hd.out a i ha hik (e.trans hie.symm)
        obtain ⟨e1, e2⟩ := HSO.out _ _ hcl
        have hhit := hD.2.1 i hik
        rw [hie, hx] at hhit
        have HA := Lib.hid hhit.2
        have hhas := hhit.1
        have HE1 := Lib.hid e1
        have HE2 := Lib.hid e2
        clear hhit hcl hd hie e1 e2 hD hx
        go_wp2_with (at_lookup; refine wpList_lookup_own_ok_int _ rfl _ _ 58 rfl 60 2 .i64 stateKeyed Try.underlying58 Try.underlying2 hzz w1.heap.size k D rfl hown1 _ _ rfl hkey ?_; intro c hat hwc; rw [hhas]; refine Hid.out ?_)
        have hci : c = (i : Int) := by
          have := hat.symm.trans HA.out
          simpa using this
        subst hci
        clear hat
        refine Lib.hid ?_
        go_wp2
        go_ret3
        exact ⟨by rw [HE1.out, HE2.out]; rfl, b1.trans (hB1.mono b1.size)⟩
      · have hno : ∀ a, a < k → f a ≠ f k := fun a ha e => hex ⟨a, ha, e⟩
        have hhas := hD.2.2 x f0 f1 (fun i hi => by rw [← hx]; exact hno i hi)
        have hD2 := hD.add (by omega) (by omega) (fun i _ => HF.out i) hno
        rw [hx] at hD2
        have HDD := Lib.hid hD2
        have HD : Hid (distinct f (k + 1)) := by
          intro a b hab hb
          by_cases e : b = k
          · subst e; exact hno a hab
          · exact hd.out a b hab (by omega)
        clear hno hex hd hD hx hD2
        go_wp2_with (at_lookup; refine wpList_lookup_own_ok_int _ rfl _ _ 58 rfl 60 2 .i64 stateKeyed Try.underlying58 Try.underlying2 hzz w1.heap.size k D rfl hown1 _ _ rfl hkey ?_; intro c hat hwc; rw [hhas]; refine Hid.out ?_)
        clear hat
        refine Lib.hid ?_
        go_wp2_with (at_mapUpdate; refine wpList_mapUpdate_own _ rfl _ _ _ 58 rfl 60 2 stateKeyed Try.underlying58 _ w1.heap.size k _ rfl hown1 (by unfold maxLen; omega) _ _ _ rfl rfl hkey (.lit (.int .i64 (k : Int))) [] (plainElem_int Try.underlying2 (WalkArith.wf_i64 (by omega))) ?_; intro w2 hown2 hgrow2; refine Hid.out ?_)
        have hb2 := hB1.grown hgrow2 hB1.size (fun j hj => by cases hj; exact Nat.le_refl _)
        clear hgrow2 hown1 hhas hB1
        refine Lib.hid ?_
        go_wp2
        go_roundw
        case rel => exact ⟨k + 1, _, by omega, by go_num, HD, hown2, HDD.out, hb2⟩
        case measure => simp [intOf]; omega
    · obtain rfl : k = n := by omega
      obtain ⟨e1, e2⟩ := HNO.out (clash_none hd.out)
      have HE1 := Lib.hid e1
      have HE2 := Lib.hid e2
      clear e1 e2
      go_wp2
      go_ret3
      exact ⟨by rw [HE1.out, HE2.out]; rfl, b1.trans (hb.mono b1.size)⟩

theorem prF_small (p : List Int) (hz : prC p = 0) (i : Nat) : 0 ≤ prF p i ∧ prF p i ≤ 2000 := by
  obtain ⟨a, b, _⟩ := prH_num hz
  have h1 := ofM_lt p (i : Int) (prH p)
  have h2 : 2 ^ prH p ≤ 2 ^ 10 := Nat.pow_le_pow_right (by decide) b
  have h3 : (2 : Nat) ^ 10 = 1024 := rfl
  unfold prF
  omega

theorem firstRepeat_impl (v : Value) (B : Nat) (p : List Int) (w : World) (hI : Ints w B v p) :
    Calls Try.prog 13 #[v] w fun e w' => e = .returned (.tuple #[.int .i64 (frA p), .int .i64 (frB p), .int .i64 (prC p)]) ∧ Below w.heap.size w w' := by
  have HO := ownStates_any v B p w hI
  obtain ⟨xa, xc, rfl⟩ := ints_slO hI
  by_cases hz : prC p = 0
  · obtain ⟨e1, e2, _⟩ := fr_yes hz
    obtain ⟨hok, h1, h2⟩ := prC_zero hz
    obtain ⟨a, b, c⟩ := prH_num hz
    obtain ⟨l1, l2⟩ := okPat_len hok
    rw [e1, e2, hz]
    rw [hz, prL_yes hz] at HO
    refine firstRepeat_core xa xc p.length (prH p) (prF p) w l2 b (prF_small p hz) (HO.mono ?_) _ _ (fun i k h => rp_some h) (fun h => rp_none h)
    rintro e w1 ⟨u, rfl, hs, hb⟩
    have hl := ofL_len p (prH p)
    rcases hs.shape with ⟨rfl, h0⟩ | ⟨g, cap, rfl, hg, hg2, _⟩
    · rw [h0] at hl; simp at hl; omega
    · rw [hl] at hs ⊢
      exact ⟨g, cap, rfl, hb, hg2, sts_cells rfl hs hg2⟩
  · obtain ⟨e1, e2, _⟩ := fr_no hz
    rw [e1, e2]
    rw [prL_no hz] at HO
    have hne : (prC p != 0) = true := by simpa using hz
    clear e1 e2 hI
    generalize prC p = c at *
    generalize p.length = n at *
    go_enter Try.func13, Try.ntmps13
    go_wp2_with fail
    refine HO.mono ?_
    rintro e w1 ⟨u, rfl, hs, b1⟩
    go_wp2
    go_ret3
    exact ⟨rfl, b1⟩

theorem isPrime_impl (v : Value) (B : Nat) (p : List Int) (w : World) (hI : Ints w B v p) :
    Calls Try.prog 14 #[v] w fun e w' => e = .returned (.bool (isPr p)) ∧ Below w.heap.size w w' := by
  have HF := firstRepeat_impl v B p w hI
  obtain ⟨xa, xc, rfl⟩ := ints_slO hI
  by_cases hz : prC p = 0
  · obtain ⟨e1, e2, e3⟩ := fr_yes hz
    rw [e3]
    rw [e1, e2, hz] at HF
    clear e1 e2 e3 hI hz
    generalize rpA p = a at *
    generalize rpB p = b at *
    generalize p.length = n at *
    go_enter Try.func14, Try.ntmps14
    go_wp2_with fail
    refine HF.mono ?_
    rintro e w1 ⟨rfl, b1⟩
    go_wp2
    go_ret
    exact ⟨rfl, b1⟩
  · obtain ⟨e1, e2, e3⟩ := fr_no hz
    rw [e3]
    rw [e1, e2] at HF
    have hne : (prC p == 0) = false := by simpa using hz
    clear e1 e2 e3 hI
    generalize prC p = c at *
    generalize p.length = n at *
    go_enter Try.func14, Try.ntmps14
    go_wp2_with fail
    refine HF.mono ?_
    rintro e w1 ⟨rfl, b1⟩
    go_wp2
    go_ret
    exact ⟨rfl, b1⟩
end Go.Proofs.Ytdghbbnddgngoaa
