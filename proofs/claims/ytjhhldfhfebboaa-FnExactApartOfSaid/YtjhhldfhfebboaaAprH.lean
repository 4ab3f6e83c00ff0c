/- ApartOf, the model's, and both contracts. No conditions but sizes. -/
import Derived.Test.YtjhhldfhfebboaaAprD
import Derived.Test.YtjhhldfhfebboaaPasT
import Derived.Deep.RegionHeld3
namespace Go.Proofs.Ytjhhldfhfebboaa
open Go.RowKit Go.Shelf
set_option linter.unusedSimpArgs false
set_option linter.unusedVariables false

/-- none of the first k throws is a pass -/
def alB (a : List Pt) (k : Nat) : Bool := (List.range k).all (fun i => !(a.getD i p0).2)
theorem alB_hit {a : List Pt} {k : Nat} (h : (a.getD k p0).2 = false) : alB a (k + 1) = alB a k := by simp only [alB, List.range_succ, List.all_append, List.all_cons, List.all_nil, h]; simp
theorem alB_bad {a : List Pt} {k n : Nat} (h : (a.getD k p0).2 = true) (hk : k < n) : alB a n = false := by
  cases hc : alB a n with
  | false => rfl
  | true =>
    have := List.all_eq_true.1 hc k (List.mem_range.2 hk)
    rw [h] at this; cases this
theorem valL_step (a : List Pt) (k : Nat) : valL a (k + 1) = valL a k ++ [(a.getD k p0).1] := by simp [valL, List.range_succ]
theorem valL_len (a : List Pt) (k : Nat) : (valL a k).length = k := by simp [valL]
theorem alB_both (n : Nat) (a b : List Pt) : noPass (mts n a b) = (alB a n && alB b n) := by
  unfold noPass mts mtsOf alB
  rw [List.all_append, List.all_map, List.all_map]
  rfl

set_option maxRecDepth 10000 in
set_option maxHeartbeats 1000000 in
theorem l06Alone_any (g n cap B : Nat) (a : List Pt) (w : World) (h : Pas w B (.slice (some ⟨g, 0, none⟩) n cap) a) (hg : g < w.heap.size) (hn : n = a.length) (h8 : n ≤ 8) (hf : ∀ i, i < n → -9223372036854775808 ≤ (a.getD i p0).1 ∧ (a.getD i p0).1 ≤ 9223372036854775807) :
    Calls Try.prog 55 #[.slice (some ⟨g, 0, none⟩) n cap] w fun e w' => ∃ u, e = .returned (.tuple #[u, .bool (alB a n)]) ∧ Ints w' w.heap.size u (if alB a n then valL a n else []) ∧ Below w.heap.size w w' := by
  have HC := Lib.hid (fun i (hi : i < n) => (h.twoP i (by omega)))
  have HB1 := Lib.hid (fun k => alB_hit (a := a) (k := k))
  have HB2 := Lib.hid (fun k => alB_bad (a := a) (k := k) (n := n))
  have HV := Lib.hid (fun k => valL_step a k)
  have HVL := Lib.hid (fun k => valL_len a k)
  have HFF := Lib.hid hf
  have I0 : Ints (w.alloc (.cells #[] 2)) w.heap.size (.slice (some ⟨w.heap.size, 0, none⟩) 0 0) [] := by
    have := World.ownsRow_lit (e := 2) (size := 1) w #[] 0 (Nat.le_refl _) (by simp [maxLen]) rfl
    simpa [Ints] using this
  have B0 : Below w.heap.size w (w.alloc (.cells #[] 2)) := (Below.refl _ w).alloc (Nat.le_refl _) _
  clear h hn hf
  obtain ⟨R, hR⟩ : ∃ R, alB a n = R := ⟨_, rfl⟩
  obtain ⟨V, hV⟩ : ∃ V, (if alB a n then valL a n else []) = V := ⟨_, rfl⟩
  rw [hV, hR]
  have HR := Lib.hid hR
  have HVV := Lib.hid hV
  clear hR hV
  go_enter Try.func55, Try.ntmps55
  go_wp2
  go_loopw [4, 5] (fun v i wr => ∃ k : Nat, k ≤ n ∧ i = .int .i64 k ∧ Hid (alB a k = true) ∧ Ints wr w.heap.size v (valL a k) ∧ Below w.heap.size w wr) (fun _ i _ => n - (intOf i).toNat)
  case atStart => exact ⟨0, Nat.zero_le _, rfl, Lib.hid rfl, I0, B0⟩
  case round =>
    clear I0 B0
    obtain ⟨k, hk, rfl, hal, hi, hb⟩ := hrel
    by_cases hlt : k < n
    · obtain ⟨t0, t1⟩ := HC.out k hlt
      have c0 := (hb.cell (p := ⟨g, k * 2, none⟩) hg).trans t0
      have c1 := (hb.cell (p := ⟨g, k * 2 + 1, none⟩) hg).trans t1
      have hlen := HVL.out k
      have hlen : (valL a k).length ≤ 1000000000 := by omega
      have h1 := HB1.out k
      have h2 := HB2.out k
      have h3 := HV.out k
      obtain ⟨f1, f2⟩ := HFF.out k hlt
      have hBs := hb.size
      clear HC HB1 HB2 HV HVL HFF t0 t1
      generalize (a.getD k p0).2 = r at *
      generalize (a.getD k p0).1 = x at *
      cases r with
      | true =>
        have hbad := h2 rfl hlt
        rw [HR.out] at hbad
        subst hbad
        have hv := HVV.out
        rw [if_neg (by rw [HR.out]; simp)] at hv
        subst hv
        clear h1 h2 h3
        go_wp2
        go_ret2
        exact ⟨_, rfl, Ints.nil _ _, hb⟩
      | false =>
        have HE := Lib.hid h3
        have HA2 := Lib.hid ((h1 rfl).trans hal.out)
        clear h1 h2 h3 hal
        go_wp2_with (at_builtin; refine append_int _ rfl _ _ rfl _ _ _ rfl hi x rfl hlen hBs ?_; intro v' w2 hi2 hg2; refine Hid.out ?_)
        have hb2 := hi.below_grown hb hBs hg2
        rw [← HE.out] at hi2
        clear hg2 hi hb
        refine Lib.hid ?_
        go_wp2
        go_roundw
        case rel => exact ⟨k + 1, by omega, by go_num, HA2, hi2, hb2⟩
        case measure => simp [intOf]; omega
    · obtain rfl : k = n := by omega
      have hr := HR.out
      rw [hal.out] at hr
      subst hr
      have hv := HVV.out
      rw [if_pos hal.out] at hv
      subst hv
      clear HC HB1 HB2 HV HVL HFF
      go_wp2
      go_ret2
      exact ⟨_, rfl, hi, hb⟩

/-- what ApartOf answers -/
def arA (a b : List Pt) : List Int := if okPas a b = true then (if noPass (mts a.length a b) then valL a a.length else []) else []
def arB (a b : List Pt) : List Int := if okPas a b = true then (if noPass (mts a.length a b) then valL b a.length else []) else []
def arC (a b : List Pt) : Int := if okPas a b = true then (if noPass (mts a.length a b) then 0 else 10) else 1
theorem arL_A (a b : List Pt) : (arA a b).length ≤ 8 := by
  unfold arA
  split
  · rename_i h
    have := okPL_num (okPas_L h)
    split
    · rw [valL_len]; omega
    · simp
  · simp
theorem arL_B (a b : List Pt) : (arB a b).length ≤ 8 := by
  unfold arB
  split
  · rename_i h
    have := okPL_num (okPas_L h)
    split
    · rw [valL_len]; omega
    · simp
  · simp

set_option maxRecDepth 10000 in
set_option maxHeartbeats 1000000 in
theorem apartOf_spec (va vb : Value) (B C : Nat) (a b : List Pt) (w : World) (h : PasP w B C va vb a b) :
    Calls Try.prog 20 #[.agg #[va, vb]] w fun e w' => ∃ u v, e = .returned (.tuple #[u, v, .int .i64 (arC a b)]) ∧ TwoI w' w.heap.size w'.heap.size u v (arA a b) (arB a b) ∧ Below w.heap.size w w' := by
  have b0 := (Below.refl w.heap.size w).alloc (Nat.le_refl _) (.cells #[va, vb] 31)
  have HO := l06Ok_any w.heap.size va vb B C a b (w.alloc (.cells #[va, vb] 31)) (h.below b0) (Blk.made w #[va, vb] _)
  cases ho : okPas a b with
  | false =>
    rw [ho] at HO
    rw [show arC a b = 1 from if_neg (by rw [ho]; simp), show arA a b = [] from if_neg (by rw [ho]; simp), show arB a b = [] from if_neg (by rw [ho]; simp)]
    clear h ho
    go_enter Try.func20, Try.ntmps20
    go_wp2_with fail
    refine HO.mono ?_
    rintro e w1 ⟨rfl, b1⟩
    clear HO
    go_wp2
    go_ret3
    exact ⟨_, _, rfl, TwoI.nil _ _ _, b0.trans (b1.mono b0.size)⟩
  | true =>
    rw [ho] at HO
    rw [show arC a b = (if noPass (mts a.length a b) then 0 else 10) from if_pos ho, show arA a b = (if noPass (mts a.length a b) then valL a a.length else []) from if_pos ho, show arB a b = (if noPass (mts a.length a b) then valL b a.length else []) from if_pos ho]
    have hL := okPas_L ho
    have hn := okPL_num hL
    have hm : (mts a.length a b).all (fun x => okPt x.1) = true := by rw [← okPL_mem hn]; exact hL
    have hk : ∀ i, i < a.length → okPt (a.getD i p0) = true ∧ okPt (b.getD i p0) = true := fun i hi => by
      have h2 := List.all_eq_true.1 hm
      exact ⟨h2 (a.getD i p0, 0, i) (List.mem_append_left _ (List.mem_map.2 ⟨i, List.mem_range.2 hi, rfl⟩)), h2 (b.getD i p0, 1, i) (List.mem_append_right _ (List.mem_map.2 ⟨i, List.mem_range.2 hi, rfl⟩))⟩
    obtain ⟨ga, ca, rfl, _, hga, _, _⟩ := h.fst.shape2 hn.1
    obtain ⟨gb, cb, rfl, _, hgb, _, _⟩ := h.snd.shape2 (by omega)
    have HA := Lib.hid (fun W (hW : Below w.heap.size w W) => l06Alone_any ga a.length ca B a W (h.fst.below hW) (by have := hW.size; omega) rfl (by omega) (fun i hi => by have := okPt_num (hk i hi).1; omega))
    have HB := Lib.hid (fun W (hW : Below w.heap.size w W) => l06Alone_any gb b.length cb B b W (h.snd.below hW) (by have := hW.size; omega) rfl (by omega) (fun i hi => by have := okPt_num (hk i (by omega)).2; omega))
    have hlb : b.length = a.length := by omega
    rw [hlb] at HB HO b0 ⊢
    rw [alB_both]
    clear h ho hL hn hlb hm hk
    generalize a.length = n at *
    have P0 := Blk.made w #[.slice (some ⟨ga, 0, none⟩) n ca, .slice (some ⟨gb, 0, none⟩) n cb] 31
    generalize valL a n = LA at *
    generalize valL b n = LB at *
    generalize alB a n = ra at *
    generalize alB b n = rb at *
    have hlift : ∀ (w1 w2 w3 : World) (u v : Value) (X Y : List Int), Below w.heap.size w w1 → Ints w2 w1.heap.size u X → Below w1.heap.size w1 w2 → Ints w3 w2.heap.size v Y → Below w2.heap.size w2 w3 → TwoI w3 w.heap.size w3.heap.size u v X Y ∧ Below w.heap.size w w3 := fun w1 w2 w3 u v X Y q1 q2 q3 q4 q5 =>
      ⟨⟨(q2.below q5).mono q1.size, q4.mono (by have := q1.size; have := q3.size; omega), (q2.below q5).under, q4.under, fun g hg e => by have h1 := q2.under g hg; have h2 := q4.own_ge e; omega⟩, (q1.trans (q3.mono q1.size)).trans (q5.mono (by have := q1.size; have := q3.size; omega))⟩
    have HLIFT := Lib.hid hlift
    clear hlift
    cases ra <;> cases rb
    all_goals
      simp only [Bool.and_self, Bool.and_false, Bool.false_and, Bool.and_true, Bool.true_and, Bool.false_eq_true, if_false, if_true] at HA HB ⊢
      go_enter Try.func20, Try.ntmps20
      go_wp2_with fail
      refine HO.mono ?_
      rintro e w1 ⟨rfl, b1⟩
      have P1 := P0.below b1 P0.lt
      have b1 := b0.trans (b1.mono b0.size)
      have hs1 := b1.size
      have c0 := P1.cell 0
      have c1 := P1.cell 1
      simp only [List.getElem?_cons_zero, List.getElem?_cons_succ] at c0 c1
      go_wp2_with fail
      refine (HA.out _ b1).mono ?_
      rintro e w2 ⟨u, rfl, iA, b2⟩
      have P2 := P1.below b2 P1.lt
      have hb2 := b1.trans (b2.mono hs1)
      clear c0 c1
      have c0 := P2.cell 0
      have c1 := P2.cell 1
      simp only [List.getElem?_cons_zero, List.getElem?_cons_succ] at c0 c1
      go_wp2_with fail
      refine (HB.out _ hb2).mono ?_
      rintro e w3 ⟨v, rfl, iB, b3⟩
      obtain ⟨tI, tB⟩ := HLIFT.out _ _ _ _ _ _ _ b1 iA b2 iB b3
      clear c0 c1 P0 P1 P2 HA HB HO b0 iA iB
      go_wp2
      go_ret3
      first | exact ⟨_, _, rfl, tI, tB⟩ | exact ⟨_, _, rfl, TwoI.nil _ _ _, tB⟩

set_option maxRecDepth 100000 in
theorem apartOf_bad (v : Value) (w : World)
    (hV : ∀ w', Below w.heap.size w w' → Calls Try.prog 45 #[v] w' fun e w'' => e = .returned (.bool false) ∧ Below w'.heap.size w' w'')
    (x y : Option Addr) (la ca lb cb : Nat) (hv : v = .agg #[.slice x la ca, .slice y lb cb]) :
    Calls Try.prog 21 #[v] w fun e w' => e = .returned (.tuple #[.slice none 0 0, .slice none 0 0, .int .i64 1]) ∧ Below w.heap.size w w' := by
  subst hv
  have B4 : Below w.heap.size w ((((w.alloc (.cells #[.slice x la ca, .slice y lb cb] 31)).alloc (.cells #[.slice none 0 0] 26)).alloc (.cells #[.slice none 0 0] 26)).alloc (.cells #[.int .i64 0] 2)) := ((((Below.refl _ w).alloc (Nat.le_refl _) _).alloc (by simp) _).alloc (by simp; omega) _).alloc (by simp; omega) _
  have R4 : Res3 w.heap.size (.slice none 0 0) (.slice none 0 0) 0 ((((w.alloc (.cells #[.slice x la ca, .slice y lb cb] 31)).alloc (.cells #[.slice none 0 0] 26)).alloc (.cells #[.slice none 0 0] 26)).alloc (.cells #[.int .i64 0] 2)) := by
    refine ⟨?_, ?_, ?_⟩
    · have := ((Blk.made (w.alloc (.cells #[.slice x la ca, .slice y lb cb] 31)) #[.slice none 0 0] 26).alloc (.cells #[.slice none 0 0] 26)).alloc (.cells #[.int .i64 0] 2)
      simpa using this
    · have := (Blk.made ((w.alloc (.cells #[.slice x la ca, .slice y lb cb] 31)).alloc (.cells #[.slice none 0 0] 26)) #[.slice none 0 0] 26).alloc (.cells #[.int .i64 0] 2)
      simpa using this
    · have := Blk.made (((w.alloc (.cells #[.slice x la ca, .slice y lb cb] 31)).alloc (.cells #[.slice none 0 0] 26)).alloc (.cells #[.slice none 0 0] 26)) #[.int .i64 0] 2
      simpa using this
  have HL := Lib.hid (hV _ B4)
  have HB4 := Lib.hid B4
  have HR4 := Lib.hid R4
  clear hV B4 R4
  go_enter Try.func21, Try.ntmps21
  go_wp2_with fail
  refine (HL.out).mono ?_
  rintro e w1 ⟨rfl, b1⟩
  have bR := HR4.out.below b1 (by have := HR4.out.2.2.lt; omega)
  have bB := HB4.out.trans (b1.mono HB4.out.size)
  have q1 := bR.1.cell 0
  have q2 := bR.2.1.cell 0
  have q3 := bR.2.2.cell 0
  have k1 := bR.1.free 0
  have k2 := bR.2.1.free 0
  have k3 := bR.2.2.free 0
  simp only [List.getElem?_cons_zero] at q1 q2 q3
  have R2 := bR.set (.slice none 0 0) (.slice none 0 0) 1
  have z1 := R2.1.cell 0
  have z2 := R2.2.1.cell 0
  have z3 := R2.2.2.cell 0
  simp only [List.getElem?_cons_zero] at z1 z2 z3
  have HB5 := Lib.hid (((bB.setCell (p := ⟨w.heap.size + 1, 0, none⟩) (by simp) (.slice none 0 0)).setCell (p := ⟨w.heap.size + 2, 0, none⟩) (by simp) (.slice none 0 0)).setCell (p := ⟨w.heap.size + 3, 0, none⟩) (by simp) (.int .i64 1))
  clear HL HB4 HR4 b1 bR R2 bB
  go_wp2
  refine bodyPost_ret (v := .tuple #[.slice none 0 0, .slice none 0 0, .int .i64 1]) (by simp [results, Try.results21, go_sem, z1, z2, z3]) rfl ?_
  exact ⟨rfl, HB5.out⟩

theorem apartOf_impl (va vb : Value) (B C : Nat) (a b : List Pt) (w : World) (h : PasP w B C va vb a b) :
    Calls Try.prog 21 #[.agg #[va, vb]] w fun e w' => ∃ u v, e = .returned (.tuple #[u, v, .int .i64 (arC a b)]) ∧ TwoI w' w.heap.size w'.heap.size u v (arA a b) (arB a b) ∧ Below w.heap.size w w' := by
  have hV := fun w' (hw : Below w.heap.size w w') => validPassing_impl va vb B C a b w' (h.below hw)
  cases ho : okPas a b with
  | false =>
    obtain ⟨x, c, rfl⟩ := h.fst.sl
    obtain ⟨y, d, rfl⟩ := h.snd.sl
    rw [ho] at hV
    rw [show arC a b = 1 from if_neg (by rw [ho]; simp), show arA a b = [] from if_neg (by rw [ho]; simp), show arB a b = [] from if_neg (by rw [ho]; simp)]
    exact (apartOf_bad _ w hV x y _ c _ d rfl).mono fun e w' q => ⟨_, _, q.1, TwoI.nil _ _ _, q.2⟩
  | true =>
    have hL := okPas_L ho
    have hn := okPL_num hL
    obtain ⟨ga, ca, rfl, _, hga, _, _⟩ := h.fst.shape2 hn.1
    obtain ⟨gb, cb, rfl, _, hgb, _, _⟩ := h.snd.shape2 (by omega)
    have hra := OwnK.readP h.fst hga
    have hrb := OwnK.readP h.snd hgb
    have hm : (mts a.length a b).all (fun x => okPt x.1) = true := by rw [← okPL_mem hn]; exact hL
    rw [show arC a b = (if noPass (mts a.length a b) then 0 else 10) from if_pos ho, show arA a b = (if noPass (mts a.length a b) then valL a a.length else []) from if_pos ho, show arB a b = (if noPass (mts a.length a b) then valL b a.length else []) from if_pos ho]
    rw [← hn.2.2] at hrb hV ⊢
    rw [ho] at hV
    exact (callsIn_wide.1 (apartOf_row ga gb ca cb a.length a b w hn.1 hn.2.1 hm hra hrb hV)).mono fun e w' ⟨u, v, q1, q2, q3, q4, q5⟩ => ⟨u, v, q1, ⟨q2, q3, q2.under, q3.under, q4⟩, q5⟩
end Go.Proofs.Ytjhhldfhfebboaa
