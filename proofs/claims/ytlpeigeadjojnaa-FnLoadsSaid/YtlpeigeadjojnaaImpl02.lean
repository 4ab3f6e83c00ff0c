/- The program's chapter 2, its base: isList, period, modulo, landing, CollisionOf, ValidPattern compute okList, the remainder, the landings, clash, okPat. No conditions. -/
import Derived.Test.YtlpeigeadjojnaaSpec02
import Derived.Maps.OwnSet
import Derived.Maps.OwnOps
import Derived.Maps.Views
namespace Go.Proofs.Ytlpeigeadjojnaa
open Go.RowKit Go.Maps
set_option linter.unusedSimpArgs false
set_option linter.unusedVariables false

theorem ret_int3 {a b c d e f : Int} (h : a = d) (h' : b = e) (h'' : c = f) : Ending.returned (.tuple #[.int .i64 a, .int .i64 b, .int .i64 c]) = .returned (.tuple #[.int .i64 d, .int .i64 e, .int .i64 f]) := by rw [h, h', h'']

theorem areThrows_zero (a : Option Addr) (cap : Nat) (w : World) :
    Calls Try.prog 85 #[.slice a 0 cap] w fun e w' => e = .returned (.bool true) ∧ w = w' := by
  go_enter Try.func85, Try.ntmps85
  go_wp2
  refine wp_loop_rounds 1 ?_
  rw [rounds_succ]
  go_wp2
  go_ret
  exact ⟨rfl, rfl⟩

theorem areThrows_row (g cap B : Nat) (p : List Int) (w : World) (h : Ints w B (.slice (some ⟨g, 0, none⟩) p.length cap) p) :
    Calls Try.prog 85 #[.slice (some ⟨g, 0, none⟩) p.length cap] w fun e w' => e = .returned (.bool (p.all (fun x => inB x 0 15))) ∧ w = w' := by
  have hm := h.len
  obtain ⟨n, hn⟩ : ∃ n, n = p.length := ⟨_, rfl⟩
  have hc : ∀ i, i < n → w.cell? ⟨g, i, none⟩ = some (.int .i64 (p.getD i 0)) := fun i hi => h.cell i (by omega)
  rw [← hn] at hm ⊢
  clear h
  have HN := Lib.hid hn
  clear hn
  go_enter Try.func85, Try.ntmps85
  go_wp2
  go_loop [7] (fun i => ∃ k : Nat, k ≤ n ∧ i = .int .i64 k ∧ Hid ((p.take k).all (fun x => inB x 0 15) = true)) (fun i => n - (intOf i).toNat)
  case atStart => exact ⟨0, Nat.zero_le _, rfl, by unfold Hid; simp⟩
  case round =>
    obtain ⟨k, hk, rfl, hall⟩ := hrel
    by_cases hlt : k < n
    · have c1 := hc k hlt
      obtain ⟨x, hx⟩ : ∃ x, x = p.getD k 0 := ⟨_, rfl⟩
      rw [← hx] at c1
      have HX := Lib.hid hx
      clear hc hx
      by_cases hb : 0 ≤ x ∧ x ≤ 15
      · obtain ⟨hb1, hb2⟩ := hb
        go_wp2
        go_round
        case rel =>
          refine ⟨k + 1, by omega, by go_num, ?_⟩
          have hall := hall.out
          unfold Hid
          rw [okList_take k (by have := HN.out; omega), hall, ← HX.out, inB_true ⟨hb1, hb2⟩]
          rfl
        case measure => simp [intOf]; omega
      · have hbad := all_bad (p := p) k (by have := HN.out; omega) (by rw [← HX.out]; exact inB_false (by omega))
        by_cases hb1 : x < 0
        · clear hb
          go_wp2
          go_ret
          exact ⟨rfl, rfl⟩
        · have hb2 : 15 < x := by omega
          clear hb
          go_wp2
          go_ret
          exact ⟨rfl, rfl⟩
    · obtain rfl : k = n := by omega
      clear hc
      go_wp2
      go_ret
      have hn := HN.out
      have hall := hall.out
      rw [hn, List.take_length] at hall
      exact ⟨by rw [hall]; rfl, rfl⟩

theorem areThrows_any (v : Value) (B : Nat) (p : List Int) (w : World) (h : Ints w B v p) :
    Calls Try.prog 85 #[v] w fun e w' => e = .returned (.bool (p.all (fun x => inB x 0 15))) ∧ w = w' := by
  rcases h.shape with ⟨rfl, rfl⟩ | ⟨g, cap, rfl, _, _, _⟩
  · exact areThrows_zero _ _ _
  · exact areThrows_row _ _ _ _ _ h

theorem isList_len (a : Option Addr) (n cap : Nat) (r : Bool) (w : World) (hm : n ≤ 9223372036854775807) (hc : Calls Try.prog 85 #[.slice a n cap] w fun e w' => e = .returned (.bool r) ∧ w = w') :
    Calls Try.prog 83 #[.slice a n cap] w fun e w' => e = .returned (.bool (r && inB n 1 12)) ∧ w = w' := by
  by_cases h1 : (1 : Int) ≤ (n : Int)
  · by_cases h2 : (n : Int) ≤ 12
    · rw [inB_true ⟨h1, h2⟩, Bool.and_true]
      go_enter Try.func83, Try.ntmps83
      go_wp2_with (go_at_call 85; refine hc.mono ?_; rintro e w' ⟨rfl, rfl⟩)
      go_ret
      exact ⟨rfl, rfl⟩
    · rw [inB_false (by omega), Bool.and_false]
      clear hc
      go_enter Try.func83, Try.ntmps83
      go_wp2
      go_ret
      exact ⟨rfl, rfl⟩
  · rw [inB_false (by omega), Bool.and_false]
    clear hc
    go_enter Try.func83, Try.ntmps83
    go_wp2
    go_ret
    exact ⟨rfl, rfl⟩

theorem isList_any (v : Value) (B : Nat) (p : List Int) (w : World) (h : Ints w B v p) :
    Calls Try.prog 83 #[v] w fun e w' => e = .returned (.bool (okList p)) ∧ w = w' := by
  have hm := h.len
  have hc := areThrows_any v B p w h
  unfold okList
  rcases h.shape with ⟨rfl, rfl⟩ | ⟨g, cap, rfl, _, _, _⟩
  · exact isList_len _ 0 _ _ _ (by omega) hc
  · exact isList_len _ _ _ _ _ hm hc

theorem period_any (a : Option Addr) (n cap : Nat) (w : World) :
    Calls Try.prog 71 #[.slice a n cap] w fun e w' => e = .returned (.int .i64 n) ∧ w' = w := by
  go_enter Try.func71, Try.ntmps71
  go_wp2
  go_ret
  exact ⟨rfl, rfl⟩

theorem modulo_any (a n : Int) (w : World) (hn : 1 ≤ n) (hn2 : n ≤ 1000000) (ha : -1000000000000 ≤ a) (ha2 : a ≤ 1000000000000) :
    Calls Try.prog 69 #[.int .i64 a, .int .i64 n] w fun e w' => e = .returned (.int .i64 (a % n)) ∧ w' = w := by
  have e0 := Int.emod_nonneg a (show n ≠ 0 by omega)
  have e1 := Int.emod_lt_of_pos a (show 0 < n by omega)
  by_cases h0 : 0 ≤ a
  · have h00 : ¬ a % n < 0 := by omega
    go_enter Try.func69, Try.ntmps69
    go_wp2
    go_ret
    exact ⟨rfl, rfl⟩
  · have hd := emod_tmod a n (by omega)
    have hl := tmod_low a n (by omega) (by omega)
    rw [hd]
    by_cases hr : a.tmod n < 0
    · rw [if_pos hr]
      clear hd
      go_enter Try.func69, Try.ntmps69
      go_wp2
      go_ret
      exact ⟨rfl, rfl⟩
    · rw [if_neg hr]
      clear hd
      go_enter Try.func69, Try.ntmps69
      go_wp2
      go_ret
      exact ⟨rfl, rfl⟩

theorem landing_core (g n cap i : Nat) (x : Int) (w : World) (h1 : 1 ≤ n) (h2 : n ≤ 12) (hi : i < n) (hx : 0 ≤ x ∧ x ≤ 15) (hc : w.cell? ⟨g, i, none⟩ = some (.int .i64 x)) :
    Calls Try.prog 84 #[.slice (some ⟨g, 0, none⟩) n cap, .int .i64 i] w fun e w' => e = .returned (.int .i64 (((i : Int) + x) % (n : Int))) ∧ ∃ m, w' = w.drewN m := by
  obtain ⟨hx1, hx2⟩ := hx
  have hw : IntKind.i64.wrap ((i : Int) + x) = (i : Int) + x := IntWalk.i64_in _ (by omega)
  go_enter Try.func84, Try.ntmps84
  go_wp2
  go_quiet ((first | (go_at_call 71; exact Calls.quiet_of_same (period_any _ _ _ _)) | (go_at_call 69; exact Calls.quiet_of_same (modulo_any _ _ _ (by omega) (by omega) (by omega) (by omega)))))
  go_wp2
  go_ret
  exact ⟨rfl, _, rfl⟩

/-- what the map holds behind k rounds: of each landing the index of its throw -/
def landMap {H : Type} (h : Nat → Int) : Nat → DataW H
  | 0 => .map []
  | k + 1 => (landMap h k).put (.int .i64 (h k)) (.lit (.int .i64 (k : Int)))

theorem landMap_isMap {H : Type} (h : Nat → Int) (k : Nat) : IsMap (landMap (H := H) h k) := by
  induction k with
  | zero => exact isMap_empty
  | succ k ih => exact ih.put _ _

theorem landMap_miss {H : Type} (h : Nat → Int) (k : Nat) (x : Int) (hd : ∀ a, a < k → h a ≠ x) : has (landMap (H := H) h k) (.int .i64 x) = false := by
  induction k with
  | zero => rfl
  | succ k ih =>
    rw [landMap, has_put_other (by have := hd k (by omega); simpa using fun e => this e.symm)]
    exact ih fun a ha => hd a (by omega)

theorem landMap_hit {H : Type} (h : Nat → Int) (k i : Nat) (hi : i < k) (hd : distinct h k) (z : DataW H) :
    has (landMap (H := H) h k) (.int .i64 (h i)) = true ∧ (landMap (H := H) h k).atKey (.int .i64 (h i)) z = .lit (.int .i64 (i : Int)) := by
  induction k with
  | zero => omega
  | succ k ih =>
    by_cases e : i = k
    · subst e
      exact ⟨has_put_same (landMap_isMap h i) (by first | trivial | rfl | simp [WideAt.IsKeyLit]) _, atKey_put_same (landMap_isMap h i) (by first | trivial | rfl | simp [WideAt.IsKeyLit]) _ _⟩
    · have hne : h i ≠ h k := hd i k (by omega) (by omega)
      rw [landMap, has_put_other (by simpa using hne), atKey_put_other (by simpa using hne)]
      exact ih (by omega) fun a b hab hb => hd a b hab (by omega)

theorem law64 : Keyed Try.prog 2 := int_keyed Try.underlying2
theorem zero64 (w : World) : (zeroValue 2).run Try.prog w = .ok (.int .i64 0) w := by kernel_rfl

theorem collisionOf_bad (v : Value) (B : Nat) (p : List Int) (w : World) (h : Ints w B v p) (hok : okList p = false) :
    Calls Try.prog 80 #[v] w fun e w' => e = .returned (.tuple #[.int .i64 0, .int .i64 0, .int .i64 1]) ∧ w = w' := by
  go_enter Try.func80, Try.ntmps80
  go_wp2_with fail
  refine (isList_any v B p _ h).mono ?_
  rintro e w' ⟨rfl, rfl⟩
  rw [hok]
  go_wp2
  go_ret3
  exact ⟨rfl, rfl⟩

set_option maxHeartbeats 400000 in
theorem collisionOf_core (g cap B n : Nat) (p : List Int) (f : Nat → Int) (w : World) (hi : Ints w B (.slice (some ⟨g, 0, none⟩) n cap) p) (hok : okList p = true) (hn1 : 1 ≤ n) (hn2 : n ≤ 12) (hf : ∀ i, i < n → 0 ≤ f i ∧ f i ≤ 15) (hg : g < w.heap.size)
    (hc : ∀ i, i < n → w.cell? ⟨g, i, none⟩ = some (.int .i64 (f i))) :
    Calls Try.prog 80 #[.slice (some ⟨g, 0, none⟩) n cap] w fun e w' =>
      e = .returned (.tuple #[.int .i64 (cl1 (clash (landF n f) n)), .int .i64 (cl2 (clash (landF n f) n)), .int .i64 (cl3 (clash (landF n f) n))]) ∧ Below w.heap.size w w' := by
  have hmm := @run_makeMap Try.prog
  go_enter Try.func80, Try.ntmps80
  go_wp2_with fail
  refine (isList_any _ B p _ hi).mono ?_
  rintro e w' ⟨rfl, rfl⟩
  rw [hok]
  clear hok hi
  go_wp2
  go_loopw [18] (fun c wr => ∃ k : Nat, k ≤ n ∧ c = .int .i64 k ∧ Hid (distinct (landF n f) k) ∧ wr.ownsMap Try.prog 2 (plainElem Try.prog 2) w.heap.size k (landMap (H := Unit) (landF n f) k) ∧ Below w.heap.size w wr) (fun c _ => n - (intOf c).toNat)
  case atStart => exact ⟨0, by omega, rfl, fun a b hab hb => by omega, World.ownsMap_made _ _ _ _, (Below.refl _ _).alloc (Nat.le_refl _) _⟩
  case round =>
    obtain ⟨k, hk, rfl, hd, hown, hb⟩ := hrel
    by_cases hlt : k < n
    · have ck := (hb.cell (p := ⟨g, k, none⟩) hg).trans (hc k hlt)
      have fk := hf k hlt
      clear hc hf hmm
      have hkey : keyOf Try.prog 2 (.int .i64 (landF n f k)) = some (.int .i64 (landF n f k)) := keyOf_int_mk Try.underlying2 (WalkArith.wf_i64 (by
        have e0 := Int.emod_nonneg ((k : Int) + f k) (show (n : Int) ≠ 0 by omega)
        have e1 := Int.emod_lt_of_pos ((k : Int) + f k) (show 0 < (n : Int) by omega)
        unfold landF; omega))
      have HL := landing_core g n cap k (f k) wr hn1 hn2 hlt fk ck
      by_cases hex : ∃ i, i < k ∧ landF n f i = landF n f k
      · obtain ⟨i, hik, hie⟩ := hex
        have hcl : clash (landF n f) n = some (i, k) := clash_some hlt hik hd.out hie fun a ha e => hd.out a i ha hik (e.trans hie.symm)
        have hhit := landMap_hit (H := Unit) (landF n f) k i hik hd.out (.lit (.int .i64 0))
        rw [hie] at hhit
        have HA := Lib.hid hhit.2
        have hhas := hhit.1
        have HC := Lib.hid hcl
        clear hhit hcl hd hie
        go_wp2_with fail
        refine HL.mono ?_
        rintro e w' ⟨rfl, m, rfl⟩
        clear HL
        have hown' : (wr.drewN m).ownsMap Try.prog 2 (plainElem Try.prog 2) w.heap.size k (landMap (H := Unit) (landF n f) k) := hown
        clear hown
        go_wp2_with (at_lookup; refine wpList_lookup_own_ok_int _ rfl _ _ 89 rfl 2 2 .i64 law64 Try.underlying89 Try.underlying2 (zero64 _) w.heap.size k _ rfl hown' _ _ rfl hkey ?_; intro c hat hwc; rw [hhas]; refine Hid.out ?_)
        have hci : c = (i : Int) := by
          have := hat.symm.trans HA.out
          simpa using this
        subst hci
        clear hat
        refine Lib.hid ?_
        go_wp2
        go_ret3
        exact ⟨by rw [HC.out]; rfl, below_drewN hb _⟩
      · have hno : ∀ a, a < k → landF n f a ≠ landF n f k := fun a ha e => hex ⟨a, ha, e⟩
        have hhas := landMap_miss (H := Unit) (landF n f) k (landF n f k) hno
        have HD : Hid (distinct (landF n f) (k + 1)) := by
          intro a b hab hb
          by_cases e : b = k
          · subst e; exact hno a hab
          · exact hd.out a b hab (by omega)
        clear hno hex hd
        go_wp2_with fail
        refine HL.mono ?_
        rintro e w' ⟨rfl, m, rfl⟩
        clear HL
        have hown' : (wr.drewN m).ownsMap Try.prog 2 (plainElem Try.prog 2) w.heap.size k (landMap (H := Unit) (landF n f) k) := hown
        clear hown
        go_wp2_with (at_lookup; refine wpList_lookup_own_ok_int _ rfl _ _ 89 rfl 2 2 .i64 law64 Try.underlying89 Try.underlying2 (zero64 _) w.heap.size k _ rfl hown' _ _ rfl hkey ?_; intro c hat hwc; rw [hhas]; refine Hid.out ?_)
        clear hat
        refine Lib.hid ?_
        go_wp2_with (at_mapUpdate; refine wpList_mapUpdate_own _ rfl _ _ _ 89 rfl 2 2 law64 Try.underlying89 _ w.heap.size k _ rfl hown' (by unfold maxLen; omega) _ _ _ rfl rfl hkey (.lit (.int .i64 (k : Int))) [] (plainElem_int Try.underlying2 (WalkArith.wf_i64 (by omega))) ?_; intro w1 hown1 hgrow1; refine Hid.out ?_)
        have hb1 := (below_drewN hb m).grown hgrow1 (by simpa using hb.size) (fun j hj => by cases hj; exact Nat.le_refl _)
        clear hgrow1 hown' hhas
        refine Lib.hid ?_
        go_wp2
        go_roundw
        case rel => exact ⟨k + 1, by omega, by go_num, HD, hown1, hb1⟩
        case measure => simp [intOf]; omega
    · obtain rfl : k = n := by omega
      clear hc hf hmm
      go_wp2
      go_ret3
      have hcl : clash (landF k f) k = none := clash_none hd.out
      exact ⟨by rw [hcl]; rfl, hb⟩

/-- what CollisionOf answers -/
def colA (p : List Int) : Int := if okList p then cl1 (clash (lnd p) p.length) else 0
def colB (p : List Int) : Int := if okList p then cl2 (clash (lnd p) p.length) else 0
def colC (p : List Int) : Int := if okList p then cl3 (clash (lnd p) p.length) else 1

theorem colC_ok (p : List Int) : (colC p == 0) = okPat p := by
  unfold colC okPat
  cases okList p with
  | false => rfl
  | true =>
    rw [if_pos rfl]
    cases clash (lnd p) p.length <;> rfl

theorem collisionOf_impl (v : Value) (B : Nat) (p : List Int) (w : World) (h : Ints w B v p) :
    Calls Try.prog 80 #[v] w fun e w' => e = .returned (.tuple #[.int .i64 (colA p), .int .i64 (colB p), .int .i64 (colC p)]) ∧ Below w.heap.size w w' := by
  cases hok : okList p with
  | false =>
    simp only [colA, colB, colC, hok]
    refine (collisionOf_bad v B p w h hok).mono ?_
    rintro e w' ⟨rfl, rfl⟩
    exact ⟨rfl, Below.refl _ _⟩
  | true =>
    simp only [colA, colB, colC, hok]
    obtain ⟨h1, h2⟩ := okList_len hok
    rcases h.shape with ⟨rfl, rfl⟩ | ⟨g, cap, rfl, _, hg, _⟩
    · simp at h1
    · exact collisionOf_core g cap B p.length p (fun i => p.getD i 0) w h hok h1 h2 (fun i hi => okList_at hok i hi) hg (fun i hi => h.cell i hi)

theorem validPattern_impl (v : Value) (B : Nat) (p : List Int) (w : World) (h : Ints w B v p) :
    Calls Try.prog 60 #[v] w fun e w' => e = .returned (.bool (okPat p)) ∧ Below w.heap.size w w' := by
  rw [← colC_ok p]
  have HC := collisionOf_impl v B p w h
  generalize colA p = a at HC ⊢
  generalize colB p = b at HC ⊢
  generalize colC p = c at HC ⊢
  go_enter Try.func60, Try.ntmps60
  go_wp2_with fail
  refine HC.mono ?_
  rintro e w' ⟨rfl, hb⟩
  go_wp2
  go_ret
  exact ⟨rfl, hb⟩

end Go.Proofs.Ytlpeigeadjojnaa
