/- ValidPassing, the program's, of any pattern; the model's helpers. -/
import Derived.Test.YtjhhldfhfebboaaPasX
import Derived.Test.YtjhhldfhfebboaaPasE
import Derived.Test.YtjhhldfhfebboaaSpec02
namespace Go.Proofs.Ytjhhldfhfebboaa
open Go.RowKit Go.Shelf
set_option linter.unusedSimpArgs false
set_option linter.unusedVariables false

/-- whether a pattern is valid -/
def okPas (a b : List Pt) : Bool := okPL a b && decide ((lands a.length a b).Nodup)

set_option maxRecDepth 100000 in
theorem validPassing_bad (x y : Option Addr) (la ca lb cb : Nat) (w : World)
    (hL : ∀ w', Below w.heap.size w w' → Calls Try.prog 82 #[.agg #[.slice x la ca, .slice y lb cb]] w' fun e w'' => e = .returned (.bool false) ∧ Below w'.heap.size w' w'') :
    Calls Try.prog 45 #[.agg #[.slice x la ca, .slice y lb cb]] w fun e w' => e = .returned (.bool false) ∧ Below w.heap.size w w' := by
  have HL := Lib.hid hL
  clear hL
  go_enter Try.func45, Try.ntmps45
  go_wp2_with fail
  refine (jugglersOf_any _ _ _ _ _ _ _).mono ?_
  rintro e w1 ⟨rfl, b1⟩
  have B1 : Below w.heap.size w w1 := (((Below.refl _ w).alloc (Nat.le_refl _) _).alloc (by simp) _).trans (b1.mono (by simp; omega))
  have bR := (Blk.made (w.alloc (.cells #[.slice x la ca, .slice y lb cb] 31)) #[.bool false] 4).below b1 (by simp)
  have bR := bR.alloc (.cells #[.slice x la ca, .slice y lb cb] 63)
  have s1 := b1.size
  simp only [World.size_alloc] at s1 bR
  clear b1
  go_wp2_with fail
  refine (HL.out _ (B1.alloc (by omega) _)).mono ?_
  rintro e w2 ⟨rfl, b2⟩
  have bR := bR.below b2 (by simp; omega)
  have cR := bR.cell 0
  have fR := bR.free 0
  simp only [List.getElem?_cons_zero] at cR
  have B2 : Below w.heap.size w w2 := (B1.alloc (by omega) _).trans (b2.mono (by simp; omega))
  have bR2 := (bR.set 0 (.bool false)).cell 0
  simp at bR2
  clear b2 B1 bR HL
  go_wp2
  refine bodyPost_ret (v := .bool false) (by simp [results, Try.results45, go_sem, bR2, cR]) rfl ?_
  exact ⟨rfl, by first | exact B2.setCell (p := ⟨w.heap.size + 1, 0, none⟩) (by simp) _ | exact B2⟩

theorem validPassing_impl (va vb : Value) (B C : Nat) (a b : List Pt) (w : World) (h : PasP w B C va vb a b) :
    Calls Try.prog 45 #[.agg #[va, vb]] w fun e w' => e = .returned (.bool (okPas a b)) ∧ Below w.heap.size w w' := by
  have hL := fun w' (hw : Below w.heap.size w w') => isListJ_any va vb B C a b w' (h.below hw)
  unfold okPas
  cases ho : okPL a b with
  | false =>
    obtain ⟨x, c, rfl⟩ := h.fst.sl
    obtain ⟨y, d, rfl⟩ := h.snd.sl
    rw [ho] at hL
    simpa using validPassing_bad x y _ c _ d w hL
  | true =>
    have hn := okPL_num ho
    obtain ⟨ga, ca, rfl, _, hga, _, _⟩ := h.fst.shape2 hn.1
    obtain ⟨gb, cb, rfl, _, hgb, _, _⟩ := h.snd.shape2 (by omega)
    have hra := OwnK.readP h.fst hga
    have hrb := OwnK.readP h.snd hgb
    rw [← hn.2.2] at hrb hL ⊢
    rw [ho] at hL
    have hm : (mts a.length a b).all (fun x => okPt x.1) = true := by rw [← okPL_mem hn]; exact ho
    simpa using callsIn_wide.1 (validPassing_row ga gb ca cb a.length a b w hn.1 hn.2.1 hm hra hrb hL)

/-- where a throw of a juggler lands, by twice the beat plus the juggler -/
def landK (n : Nat) (x : Mt) : Int := (((x.2.2 : Int) + x.1.1) % (n : Int)) * 2 + (if x.1.2 then 1 - (x.2.1 : Int) else (x.2.1 : Int))
theorem landK_eq (n : Nat) (x y : Mt) (hx : x.2.1 ≤ 1) (hy : y.2.1 ≤ 1) : landK n x = landK n y ↔ landOf n x = landOf n y := by
  unfold landK landOf
  simp only [Prod.mk.injEq]
  generalize ((x.2.2 : Int) + x.1.1) % (n : Int) = p
  generalize ((y.2.2 : Int) + y.1.1) % (n : Int) = q
  generalize x.2.1 = a at *
  generalize y.2.1 = b at *
  cases x.1.2 <;> cases y.1.2 <;> simp only [if_true, if_false, Bool.false_eq_true] <;> omega

set_option maxRecDepth 10000 in
theorem l06Land_any (v : Int) (c : Bool) (j t n : Nat) (w : World) (hv : 0 ≤ v ∧ v ≤ 15) (hj : j ≤ 1) (ht : t < n) (hn : n ≤ 8) :
    Calls Try.prog 85 #[.agg #[.int .i64 v, .bool c], .int .i64 j, .int .i64 t, .int .i64 n] w fun e w' => e = .returned (.int .i64 (landK n ((v, c), j, t))) ∧ Below w.heap.size w w' := by
  have hmod : Int.tmod ((t : Int) + v) (n : Int) = ((t : Int) + v) % (n : Int) := Int.tmod_eq_emod_of_nonneg (by omega)
  have e0 := Int.emod_nonneg ((t : Int) + v) (show (n : Int) ≠ 0 by omega)
  have e1 := Int.emod_lt_of_pos ((t : Int) + v) (show 0 < (n : Int) by omega)
  have hn0 : (n : Int) ≠ 0 := by omega
  have b1 : Below w.heap.size w (w.alloc (.cells #[.int .i64 v, .bool c] 67)) := (Below.refl _ _).alloc (Nat.le_refl _) _
  unfold landK
  cases c with
  | true =>
    go_enter Try.func85, Try.ntmps85
    go_wp2
    go_ret
    exact ⟨by first | rfl | simp, b1⟩
  | false =>
    go_enter Try.func85, Try.ntmps85
    go_wp2
    go_ret
    exact ⟨by first | rfl | simp, b1⟩

/-- 1 to 8 throws, each as it should be -/
def okL (a : List Pt) : Bool := a.all okPt && inB (a.length : Int) 1 8
theorem okL_bad {a : List Pt} (i : Nat) (hi : i < a.length) (h : okPt (a.getD i p0) = false) : okL a = false := by
  unfold okL
  rw [show a.all okPt = false from List.all_eq_false.2 ⟨a.getD i p0, by simp [hi], by rw [h]; simp⟩]; rfl
theorem okL_good {a : List Pt} (h : ∀ i, i < a.length → okPt (a.getD i p0) = true) : okL a = inB (a.length : Int) 1 8 := by
  unfold okL
  rw [show a.all okPt = true from List.all_eq_true.2 fun t ht => by
    obtain ⟨i, hi, rfl⟩ := List.getElem_of_mem ht
    simpa [hi] using h i hi]; rfl

set_option maxRecDepth 10000 in
set_option maxHeartbeats 400000 in
theorem l06List_row (g cap n : Nat) (p : List Pt) (w : World) (hn9 : n ≤ 9223372036854775807) (hn : n = p.length) (hg : g < w.heap.size) (hc : ∀ i, i < n → TwoP w g (i * 2) (p.getD i p0)) :
    Calls Try.prog 103 #[.slice (some ⟨g, 0, none⟩) n cap] w fun e w' => e = .returned (.bool (okL p)) ∧ w' = w := by
  have HB := Lib.hid (fun i (hi : i < n) (h : okPt (p.getD i p0) = false) => okL_bad i (by omega) h)
  have HG := Lib.hid (fun (h : ∀ i, i < n → okPt (p.getD i p0) = true) => show okL p = inB (n : Int) 1 8 from by rw [hn]; exact okL_good fun i hi => h i (by omega))
  have HC := Lib.hid hc
  have HE := fun W => l00In_any (n : Int) 1 8 W
  clear hc hn
  go_enter Try.func103, Try.ntmps103
  go_wp2
  go_loopw [3] (fun i wr => ∃ k : Nat, k ≤ n ∧ i = .int .i64 k ∧ Hid (∀ j, j < k → okPt (p.getD j p0) = true) ∧ wr = w) (fun i _ => n - (intOf i).toNat)
  case atStart => exact ⟨0, Nat.zero_le _, rfl, fun j hj => absurd hj (Nat.not_lt_zero _), rfl⟩
  case round =>
    obtain ⟨k, hk, rfl, hall, hb⟩ := hrel
    subst hb
    by_cases hlt : k < n
    · obtain ⟨c0, c1⟩ := HC.out k hlt
      have HBK := Lib.hid (HB.out k hlt)
      have HNX := Lib.hid (fun (h : okPt (p.getD k p0) = true) => show ∀ j, j < k + 1 → okPt (p.getD j p0) = true from fun j hj => by
        by_cases e : j = k
        · subst e; exact h
        · exact hall.out j (by omega))
      clear HC HB HG HE hall
      generalize p.getD k p0 = y at *
      obtain ⟨y0, y1⟩ := y
      simp only at c0 c1
      have HI := fun W => l00In_any y0 0 15 W
      cases hin : inB y0 0 15 with
      | false =>
        have HR := Lib.hid (HBK.out (by unfold inB at hin; simp only [okPt, hin, Bool.false_and]))
        rw [hin] at HI
        clear hin HBK HNX
        go_wp2_with fail
        refine (HI _).mono ?_
        rintro e w' ⟨rfl, rfl⟩
        clear HI
        go_wp2
        go_ret
        exact ⟨by rw [HR.out]; rfl, rfl⟩
      | true =>
        have hin' := inB_iff.1 hin
        rw [hin] at HI
        by_cases hz : y0 = 0
        · subst hz
          cases y1 with
          | true =>
            have HR := Lib.hid (HBK.out (by decide))
            clear hin HBK HNX hin'
            go_wp2_with fail
            refine (HI _).mono ?_
            rintro e w' ⟨rfl, rfl⟩
            clear HI
            go_wp2
            go_ret
            exact ⟨by rw [HR.out]; rfl, rfl⟩
          | false =>
            have HN := Lib.hid (HNX.out (by decide))
            clear hin HBK HNX hin'
            go_wp2_with fail
            refine (HI _).mono ?_
            rintro e w' ⟨rfl, rfl⟩
            clear HI
            go_wp2
            go_roundw
            case rel => exact ⟨k + 1, by omega, by go_num, HN, trivial⟩
            case measure => simp [intOf]; omega
        · have HN := Lib.hid (HNX.out (by unfold inB at hin; simp only [okPt, hin, decide_eq_false hz, Bool.not_false, Bool.true_or, Bool.and_self]))
          have hz2 : (y0 == 0) = false := by simpa using hz
          clear hin HBK HNX hin' hz
          go_wp2_with fail
          refine (HI _).mono ?_
          rintro e w' ⟨rfl, rfl⟩
          clear HI
          go_wp2
          go_roundw
          case rel => exact ⟨k + 1, by omega, by go_num, HN, trivial⟩
          case measure => simp [intOf]; omega
    · obtain rfl : k = n := by omega
      have HR := Lib.hid (HG.out hall.out)
      clear HC HB HG hall
      go_wp2_with fail
      refine (HE _).mono ?_
      rintro e w' ⟨rfl, rfl⟩
      clear HE
      go_wp2
      go_ret
      exact ⟨by rw [HR.out]; rfl, rfl⟩

set_option maxRecDepth 10000 in
theorem l06List_zero (a : Option Addr) (cap : Nat) (w : World) :
    Calls Try.prog 103 #[.slice a 0 cap] w fun e w' => e = .returned (.bool false) ∧ w' = w := by
  have HE := fun W => l00In_any 0 1 8 W
  rw [show inB 0 1 8 = false from by decide] at HE
  go_enter Try.func103, Try.ntmps103
  go_wp2
  refine wp_loop_rounds 1 ?_
  rw [rounds_succ]
  go_wp2_with fail
  refine (HE _).mono ?_
  rintro e w' ⟨rfl, rfl⟩
  go_wp2
  go_ret
  exact ⟨rfl, rfl⟩

theorem l06List_any (v : Value) (B : Nat) (p : List Pt) (w : World) (h : Pas w B v p) :
    Calls Try.prog 103 #[v] w fun e w' => e = .returned (.bool (okL p)) ∧ w' = w := by
  rcases h.shape with ⟨rfl, rfl⟩ | ⟨g, cap, rfl, _, hg, _, _⟩
  · exact l06List_zero none 0 w
  · exact l06List_row g cap p.length p w h.len rfl hg (fun i hi => h.twoP i hi)

theorem okPL_two (a b : List Pt) : (okL a && okL b && decide (a.length = b.length)) = okPL a b := by
  unfold okPL okL inB
  rw [Bool.eq_iff_iff]
  simp only [Bool.and_eq_true, decide_eq_true_eq]
  constructor
  · rintro ⟨⟨⟨h1, h2, h3⟩, h4, h5, h6⟩, h7⟩
    exact ⟨⟨⟨by omega, by omega, h7⟩, h1⟩, h4⟩
  · rintro ⟨⟨⟨h1, h2, h3⟩, h4⟩, h5⟩
    exact ⟨⟨⟨h4, by omega, by omega⟩, h5, by omega, by omega⟩, h3⟩

end Go.Proofs.Ytjhhldfhfebboaa
