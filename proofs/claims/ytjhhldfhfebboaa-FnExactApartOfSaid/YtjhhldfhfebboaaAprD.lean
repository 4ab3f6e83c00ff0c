/- ApartOf, the program's. -/
import Derived.Test.YtjhhldfhfebboaaPasD
namespace Go.Proofs.Ytjhhldfhfebboaa
open Go.RowKit Go.Shelf
set_option linter.unusedSimpArgs false
set_option linter.unusedVariables false
attribute [local go_sem] Oper.semAt_some

/-- the values of the first k throws -/
def valL (a : List Pt) (k : Nat) : List Int := (List.range k).map (fun i => (a.getD i p0).1)
/-- the values of the throws of the juggler j -/
def valM (j : Nat) (xs : List Mt) : List Int := (xs.filter (fun x => decide (x.2.1 = j))).map (fun x => x.1.1)
def noPass (xs : List Mt) : Bool := xs.all (fun x => !x.1.2)
theorem valM_snoc (j : Nat) (xs : List Mt) (x : Mt) : valM j (xs ++ [x]) = valM j xs ++ (if x.2.1 = j then [x.1.1] else []) := by
  unfold valM
  rw [List.filter_append, List.map_append]
  congr 1
  by_cases h : x.2.1 = j
  · rw [if_pos h]; simp [h]
  · rw [if_neg h]; simp [h]
theorem valM_len (j : Nat) (xs : List Mt) : (valM j xs).length ≤ xs.length := by
  unfold valM
  rw [List.length_map]
  exact List.length_filter_le _ _
theorem valM_same (j : Nat) (a : List Pt) (n : Nat) : valM j (mtsOf j a n) = valL a n := by
  unfold valM valL mtsOf
  rw [List.filter_map, List.map_map]
  have : (List.range n).filter ((fun x : Mt => decide (x.2.1 = j)) ∘ fun i => (a.getD i p0, j, i)) = List.range n := by
    rw [List.filter_eq_self]; intro i _; simp
  rw [this]
  rfl
theorem valM_other (j k : Nat) (a : List Pt) (n : Nat) (h : j ≠ k) : valM j (mtsOf k a n) = [] := by
  unfold valM mtsOf
  rw [List.map_eq_nil_iff, List.filter_eq_nil_iff]
  intro x hx
  obtain ⟨i, _, rfl⟩ := List.mem_map.1 hx
  simp; omega
theorem valM_all (n : Nat) (a b : List Pt) : valM 0 (mts n a b) = valL a n ∧ valM 1 (mts n a b) = valL b n := by
  have e : ∀ j, valM j (mts n a b) = valM j (mtsOf 0 a n) ++ valM j (mtsOf 1 b n) := fun j => by
    unfold valM mts
    rw [List.filter_append, List.map_append]
  rw [e, e, valM_same, valM_same, valM_other 0 1 b n (by decide), valM_other 1 0 a n (by decide)]
  simp
/-- the three results' variables -/
def Res3 (n : Nat) (u v : Value) (c : Int) (W : World) : Prop := Blk W (n + 1) [u] 26 ∧ Blk W (n + 2) [v] 26 ∧ Blk W (n + 3) [.int .i64 c] 2
theorem res3_own {S : Type} (n B : Nat) (u v : Value) (c : Int) : OwnFrom B (fun (_ : S) W => Res3 n u v c W) := fun s W W' row hs hg hr => by
  obtain ⟨h1, h2, h3⟩ := hs
  exact ⟨blk_own (β := Unit) (n + 1) (fun _ => [u]) _ () W W' row h1 hg (fun r e => (hr r e).2), blk_own (β := Unit) (n + 2) (fun _ => [v]) _ () W W' row h2 hg (fun r e => (hr r e).2), blk_own (β := Unit) (n + 3) (fun _ => [.int .i64 c]) _ () W W' row h3 hg (fun r e => (hr r e).2)⟩
theorem Res3.alloc {n : Nat} {u v : Value} {c : Int} {W : World} (h : Res3 n u v c W) (o : Obj) : Res3 n u v c (W.alloc o) := ⟨h.1.alloc o, h.2.1.alloc o, h.2.2.alloc o⟩
theorem Res3.below {n N : Nat} {u v : Value} {c : Int} {W W' : World} (h : Res3 n u v c W) (hb : Below N W W') (hN : n + 3 < N) : Res3 n u v c W' := ⟨h.1.below hb (by omega), h.2.1.below hb (by omega), h.2.2.below hb (by omega)⟩
theorem Res3.grown {n : Nat} {u v : Value} {c : Int} {W W' : World} {row : Option Nat} (h : Res3 n u v c W) (gr : W.grownBy W' row) (hr : ∀ q, row = some q → n + 3 < q) : Res3 n u v c W' :=
  ⟨h.1.block (gr.block _ h.1.lt fun e => by have := hr _ e.symm; omega), h.2.1.block (gr.block _ h.2.1.lt fun e => by have := hr _ e.symm; omega), h.2.2.block (gr.block _ h.2.2.lt fun e => by have := hr _ e.symm; omega)⟩
theorem Res3.other {n : Nat} {u v : Value} {c : Int} {W : World} (h : Res3 n u v c W) {p : Addr} (hp : n + 3 < p.block) (x : Value) : Res3 n u v c (W.setCell p x) :=
  ⟨h.1.other (by omega) x, h.2.1.other (by omega) x, h.2.2.other (by omega) x⟩
theorem Res3.set {n : Nat} {u v : Value} {c : Int} {W : World} (h : Res3 n u v c W) (u' v' : Value) (c' : Int) : Res3 n u' v' c' (((W.setCell ⟨n + 1, 0, none⟩ u').setCell ⟨n + 2, 0, none⟩ v').setCell ⟨n + 3, 0, none⟩ (.int .i64 c')) :=
  ⟨((h.1.set 0 u').other (by simp) v').other (by simp) _, (((h.2.1.other (by simp) u').set 0 v').other (by simp) _), ((h.2.2.other (by simp) u').other (by simp) v').set 0 _⟩
theorem ints_slP {w : World} {B : Nat} {v : Value} {xs : List Int} (h : Ints w B v xs) : ∃ a cap, v = .slice a xs.length cap := by
  rcases h.shape with ⟨rfl, rfl⟩ | ⟨g, cap, rfl, _⟩
  · exact ⟨_, _, rfl⟩
  · exact ⟨_, _, rfl⟩
theorem apart_nil (v : Value) : Apart (.slice none 0 0) v := fun g hg => by simp [Value.ownBlock] at hg

set_option maxRecDepth 100000 in
set_option maxHeartbeats 4000000 in
theorem apartOf_row (ga gb ca cb len : Nat) (a b : List Pt) (w : World) (h1 : 1 ≤ len) (h8 : len ≤ 8) (hok : (mts len a b).all (fun x => okPt x.1) = true) (hra : ReadP w.heap.size w ga len a) (hrb : ReadP w.heap.size w gb len b)
    (hV : ∀ w', Below w.heap.size w w' → Calls Try.prog 45 #[.agg #[.slice (some ⟨ga, 0, none⟩) len ca, .slice (some ⟨gb, 0, none⟩) len cb]] w' fun e w'' => e = .returned (.bool true) ∧ Below w'.heap.size w' w'') :
    CallsIn Fence.wide 6 Try.prog 21 #[.agg #[.slice (some ⟨ga, 0, none⟩) len ca, .slice (some ⟨gb, 0, none⟩) len cb]] w fun e w' => ∃ u v, e = .returned (.tuple #[u, v, .int .i64 (if noPass (mts len a b) then 0 else 10)]) ∧ Ints w' w.heap.size u (if noPass (mts len a b) then valL a len else []) ∧ Ints w' w.heap.size v (if noPass (mts len a b) then valL b len else []) ∧ Apart u v ∧ Below w.heap.size w w' := by
  refine callsIn_of_wp_marks Try.func21 rfl trivial ?_ rfl
  simp only [Try.ntmps21, List.size_toArray, List.length_cons, List.length_nil, Nat.reduceAdd, Nat.reduceSub, Array.replicate_succ, Array.replicate_zero, List.push_toArray, List.append_toArray, List.nil_append, List.cons_append]
  have B4 : Below w.heap.size w ((((w.alloc (.cells #[.slice (some ⟨ga, 0, none⟩) len ca, .slice (some ⟨gb, 0, none⟩) len cb] 31)).alloc (.cells #[.slice none 0 0] 26)).alloc (.cells #[.slice none 0 0] 26)).alloc (.cells #[.int .i64 0] 2)) := ((((Below.refl _ w).alloc (Nat.le_refl _) _).alloc (by simp) _).alloc (by simp; omega) _).alloc (by simp; omega) _
  have P4 : Blk ((((w.alloc (.cells #[.slice (some ⟨ga, 0, none⟩) len ca, .slice (some ⟨gb, 0, none⟩) len cb] 31)).alloc (.cells #[.slice none 0 0] 26)).alloc (.cells #[.slice none 0 0] 26)).alloc (.cells #[.int .i64 0] 2)) w.heap.size [.slice (some ⟨ga, 0, none⟩) len ca, .slice (some ⟨gb, 0, none⟩) len cb] 31 := (((Blk.made w #[.slice (some ⟨ga, 0, none⟩) len ca, .slice (some ⟨gb, 0, none⟩) len cb] 31).alloc _).alloc _).alloc _
  have R4 : Res3 w.heap.size (.slice none 0 0) (.slice none 0 0) 0 ((((w.alloc (.cells #[.slice (some ⟨ga, 0, none⟩) len ca, .slice (some ⟨gb, 0, none⟩) len cb] 31)).alloc (.cells #[.slice none 0 0] 26)).alloc (.cells #[.slice none 0 0] 26)).alloc (.cells #[.int .i64 0] 2)) := by
    refine ⟨?_, ?_, ?_⟩
    · have := ((Blk.made (w.alloc (.cells #[.slice (some ⟨ga, 0, none⟩) len ca, .slice (some ⟨gb, 0, none⟩) len cb] 31)) #[.slice none 0 0] 26).alloc (.cells #[.slice none 0 0] 26)).alloc (.cells #[.int .i64 0] 2)
      simpa using this
    · have := (Blk.made ((w.alloc (.cells #[.slice (some ⟨ga, 0, none⟩) len ca, .slice (some ⟨gb, 0, none⟩) len cb] 31)).alloc (.cells #[.slice none 0 0] 26)) #[.slice none 0 0] 26).alloc (.cells #[.int .i64 0] 2)
      simpa using this
    · have := Blk.made (((w.alloc (.cells #[.slice (some ⟨ga, 0, none⟩) len ca, .slice (some ⟨gb, 0, none⟩) len cb] 31)).alloc (.cells #[.slice none 0 0] 26)).alloc (.cells #[.slice none 0 0] 26)) #[.int .i64 0] 2
      simpa using this
  have HB4 := Lib.hid B4
  have HP4 := Lib.hid P4
  have HR4 := Lib.hid R4
  clear B4 P4 R4
  gi_wp2_with (first
    | (refine ⟨trivial, ?_⟩; gi_at_call 45; refine (callsIn_wide.2 (hV _ ?_)).mono ?_; rotate_left; rintro e w1 ⟨rfl, b1⟩; have bP : Blk w1 w.heap.size [.slice (some ⟨ga, 0, none⟩) len ca, .slice (some ⟨gb, 0, none⟩) len cb] 31 := HP4.out.below b1 HP4.out.lt; have j0 := (bP.alloc (.cells #[.slice none 0 0, .slice none 0 0] 59)).cell 0; have j1 := (bP.alloc (.cells #[.slice none 0 0, .slice none 0 0] 59)).cell 1; simp only [List.getElem?_cons_zero, List.getElem?_cons_succ] at j0 j1)
    | (refine ⟨trivial, ?_⟩; gi_at_call 51; refine (callsIn_wide.2 (jugglersOf_any _ _ _ _ _ _ _)).mono ?_; rintro e w2 ⟨rfl, b2⟩)
    | (refine ⟨trivial, ?_⟩; gi_at_call 52; refine (throws_in _ _ trivial rfl _ _ _).mono ?_; rintro e w3 ⟨rfl, rfl⟩))
  rotate_left
  · exact HB4.out
  have bR1 : Res3 w.heap.size (.slice none 0 0) (.slice none 0 0) 0 w1 := HR4.out.below b1 (by have := HR4.out.2.2.lt; omega)
  have bW1 := HB4.out.trans (b1.mono HB4.out.size)
  have hn1 := bR1.2.2.lt
  have s2 := b2.size
  have bS := (Blk.made w1 #[.slice none 0 0, .slice none 0 0] 59).below b2 (by simp)
  have bS := bS.alloc (.cells #[.slice (some ⟨ga, 0, none⟩) len ca, .slice (some ⟨gb, 0, none⟩) len cb] 63)
  have bP := ((bP.alloc (.cells #[.slice none 0 0, .slice none 0 0] 59)).below b2 (by simp; have := bP.lt; omega)).alloc (.cells #[.slice (some ⟨ga, 0, none⟩) len ca, .slice (some ⟨gb, 0, none⟩) len cb] 63)
  have bR := ((bR1.alloc (.cells #[.slice none 0 0, .slice none 0 0] 59)).below b2 (by simp; omega)).alloc (.cells #[.slice (some ⟨ga, 0, none⟩) len ca, .slice (some ⟨gb, 0, none⟩) len cb] 63)
  have bJ := Blk.made w2 #[.slice (some ⟨ga, 0, none⟩) len ca, .slice (some ⟨gb, 0, none⟩) len cb] 63
  simp only [World.size_alloc] at s2
  have hs1 := bW1.size
  have hB0 : Below w.heap.size w (w2.alloc (.cells #[.slice (some ⟨ga, 0, none⟩) len ca, .slice (some ⟨gb, 0, none⟩) len cb] 63)) := ((bW1.alloc hs1 _).trans (b2.mono (by simp; omega))).alloc (by omega) _
  have hsz : (w2.alloc (.cells #[.slice (some ⟨ga, 0, none⟩) len ca, .slice (some ⟨gb, 0, none⟩) len cb] 63)).heap.size = w2.heap.size + 1 := by simp
  obtain ⟨W0, hW0⟩ : ∃ W0, w2.alloc (.cells #[.slice (some ⟨ga, 0, none⟩) len ca, .slice (some ⟨gb, 0, none⟩) len cb] 63) = W0 := ⟨_, rfl⟩
  rw [hW0] at bS bP bJ hB0 hsz bR ⊢
  clear hW0 j0 j1 bR1 bW1
  have HOK := Lib.hid hok
  refine wpIn_rangeFunc_ownH (F := Fence.wide) rfl (by omega) (gf := 87) (lb := #[.pointer (some ⟨w2.heap.size, 0, none⟩)]) rfl trivial (enters_of Try.func87 (by kernel_rfl) rfl)
    (throws_stopsS Fence.wide 5 trivial rfl (by omega) w2.heap.size w.heap.size ga gb ca cb len a b h8 hok W0 (by omega) (by omega) (by simpa using bJ.cell 0) (by simpa using bJ.cell 1) (hra.below hB0) (hrb.below hB0)) belowK_t (belowK_b (by omega)) (Below.refl _ _) (fun _ => rfl)
    (fun pre W => ((Heads w1.heap.size (valM 0 (pre.map Subtype.val)) (valM 1 (pre.map Subtype.val)) W ∧ Blk W w.heap.size [.slice (some ⟨ga, 0, none⟩) len ca, .slice (some ⟨gb, 0, none⟩) len cb] 31) ∧ (Res3 w.heap.size (.slice none 0 0) (.slice none 0 0) 0 W ∧ noPass (pre.map Subtype.val) = true)) ∧ Below w.heap.size w W)
    (fun c pre W => (Res3 w.heap.size (.slice none 0 0) (.slice none 0 0) 10 W ∧ (c = .ret ∧ noPass (pre.map Subtype.val) = false)) ∧ Below w.heap.size w W)
    (OwnFrom.and (OwnFrom.and (OwnFrom.and (heads_own (S := List St) _ _ (fun pre => valM 0 (pre.map Subtype.val)) (fun pre => valM 1 (pre.map Subtype.val))) (Own.from (blk_own _ (fun _ => _) _) _)) (OwnFrom.and (res3_own _ _ _ _ _) (fun _ _ _ _ hs _ _ => hs))) (ownFrom_below (Nat.le_refl _) (by omega)))
    (fun c => OwnFrom.and (OwnFrom.and (res3_own _ _ _ _ _) (fun _ _ _ _ hs _ _ => hs)) (ownFrom_below (Nat.le_refl _) (by omega)))
    ⟨⟨⟨heads_nil bS, bP⟩, bR, rfl⟩, hB0⟩
    (fun x a' W => ∃ Bx, Blk W Bx [.int .i64 x.1.1.1, .bool x.1.1.2, .int .i64 x.1.2.1, .int .i64 x.1.2.2] 69 ∧ a' = { tmps := #[.agg #[.slice (some ⟨ga, 0, none⟩) len ca, .slice (some ⟨gb, 0, none⟩) len cb], .pointer (some ⟨w.heap.size, 0, none⟩), .pointer (some ⟨w.heap.size + 1, 0, none⟩), .pointer (some ⟨w.heap.size + 2, 0, none⟩), .pointer (some ⟨w.heap.size + 3, 0, none⟩), .pointer (some ⟨w1.heap.size, 0, none⟩), .pointer (some ⟨Bx, 0, none⟩), .agg #[.slice (some ⟨ga, 0, none⟩) len ca, .slice (some ⟨gb, 0, none⟩) len cb], .bool true, .bool false, .agg #[.slice (some ⟨ga, 0, none⟩) len ca, .slice (some ⟨gb, 0, none⟩) len cb], .agg #[.slice (some ⟨ga, 0, none⟩) len ca, .slice (some ⟨gb, 0, none⟩) len cb], .func (.func 87) #[] #[.pointer (some ⟨w2.heap.size, 0, none⟩)], .agg #[.int .i64 x.1.1.1, .bool x.1.1.2, .int .i64 x.1.2.1, .int .i64 x.1.2.2], undef, undef, undef, undef, undef, undef, undef, undef, undef, undef, undef, undef, undef, undef, undef, undef, undef, undef, undef], defers := [] })
    (fun x a' _ X Y row hs hg hr => by obtain ⟨Bx, h2, h3⟩ := hs; exact ⟨Bx, blk_own (β := Unit) Bx (fun _ => [.int .i64 x.1.1.1, .bool x.1.1.2, .int .i64 x.1.2.1, .int .i64 x.1.2.2]) _ () X Y row h2 hg (fun r e => (hr r e).2), h3⟩)
    ?assign ?body ?done ?stop
  case assign =>
    rintro l pre x W K ⟨⟨⟨bS1, bP1⟩, bR1, hnp⟩, hB1⟩ hK
    obtain ⟨⟨⟨x0, x1⟩, x2, x3⟩, hx⟩ := x
    simp only [encS, encM] at hK ⊢
    gi_wp2
    exact hK _ _ ((KeepsOthers.alloc _ _).from _) ((Below.refl _ W).alloc hB1.size _) ⟨⟨⟨heads_alloc bS1 _, bP1.alloc _⟩, bR1.alloc _, hnp⟩, hB1.alloc hB1.size _⟩ ⟨W.heap.size, Blk.made W _ _, rfl⟩
  case body =>
    rintro l pre x a' W hl ⟨r, hr⟩ ⟨⟨⟨bS1, bP1⟩, bR1, hnp⟩, hB1⟩ ⟨Bx, bX, rfl⟩ hlt
    have d0 := bX.cell 0
    have d1 := bX.cell 1
    have d2 := bX.cell 2
    simp only [List.getElem?_cons_zero, List.getElem?_cons_succ] at d0 d1 d2
    have HSN := Lib.hid (fun j => show valM j ((pre ++ [x]).map Subtype.val) = valM j (pre.map Subtype.val) ++ (if x.1.2.1 = j then [x.1.1.1] else []) from by rw [List.map_append, List.map_singleton, valM_snoc])
    have HNP := Lib.hid (show noPass ((pre ++ [x]).map Subtype.val) = (noPass (pre.map Subtype.val) && !x.1.1.2) from by unfold noPass; rw [List.map_append, List.map_singleton, List.all_append]; simp)
    have hlen0 := valM_len 0 (pre.map Subtype.val)
    have hlen1 := valM_len 1 (pre.map Subtype.val)
    rw [List.length_map] at hlen0 hlen1
    obtain ⟨hx1, hx2, hx3⟩ := x.2
    have HP1 := Lib.hid bP1
    have HB1 := Lib.hid hB1
    have HR1 := Lib.hid bR1
    have HNPP := Lib.hid hnp
    obtain ⟨u, v, bU, iu, iv, hap⟩ := bS1
    have e0 := bU.cell 0
    have e1 := bU.cell 1
    have f0 := bU.free 0
    have f1 := bU.free 1
    have q1 := bR1.1.cell 0
    have q2 := bR1.2.1.cell 0
    have q3 := bR1.2.2.cell 0
    have k1 := bR1.1.free 0
    have k2 := bR1.2.1.free 0
    have k3 := bR1.2.2.free 0
    simp only [List.getElem?_cons_zero, List.getElem?_cons_succ] at e0 e1 q1 q2 q3
    have HU := Lib.hid bU
    have HIU := Lib.hid iu
    have HIV := Lib.hid iv
    have HX := Lib.hid bX
    obtain ⟨xp, hxp⟩ : ∃ q, x.1.1.2 = q := ⟨_, rfl⟩
    rw [hxp] at d1
    have HXP := Lib.hid hxp
    clear bX bP1 hB1 hra hrb hr hok hV b1 b2 bS bP bJ hB0 bU iu iv bR bR1 hnp hxp HB4 HP4 HR4
    have HXV := Lib.hid (rfl : x.1.1.1 = x.1.1.1)
    generalize x.1.1.1 = xv at *
    generalize x.1.2.1 = xj at *
    cases xp with
    | true =>
      gi_wp2
      exact ⟨(((KeepsOthers.setCell _ _ _).trans (KeepsOthers.setCell _ _ _)).trans (KeepsOthers.setCell _ _ _)).from _, ⟨HR1.out.set (.slice none 0 0) (.slice none 0 0) 10, rfl, by rw [HNP.out, HXP.out]; simp⟩, ((HB1.out.setCell (p := ⟨w.heap.size + 1, 0, none⟩) (by simp) _).setCell (p := ⟨w.heap.size + 2, 0, none⟩) (by simp) _).setCell (p := ⟨w.heap.size + 3, 0, none⟩) (by simp) _⟩
    | false =>
      have hj : xj = 0 ∨ xj = 1 := by omega
      rcases hj with rfl | rfl
      · have HXX := Lib.hid (fun (i : Nat) (y : Value) (h : W.cell? ⟨Bx, i, none⟩ = some y) => show (W.drew.alloc (.cells #[.int .i64 xv] 2)).cell? ⟨Bx, i, none⟩ = some y from (((Below.refl W.heap.size W).alloc (Nat.le_refl _) (.cells #[.int .i64 xv] 2)).cell (p := ⟨Bx, i, none⟩) HX.out.lt).trans h)
        have HA := Lib.hid (show Ints (W.drew.alloc (.cells #[.int .i64 xv] 2)) (w1.heap.size + 1) u (valM 0 (pre.map Subtype.val)) from HIU.out.alloc _)
        have HO := Lib.hid (show Ints (W.drew.alloc (.cells #[.int .i64 xv] 2)) (w1.heap.size + 1) v (valM 1 (pre.map Subtype.val)) from HIV.out.alloc _)
        have HNW := Lib.hid (show (W.drew.alloc (.cells #[.int .i64 xv] 2)).cell? ⟨W.heap.size, 0, none⟩ = some (.int .i64 xv) from (Blk.made W #[.int .i64 xv] 2).cell 0)
        have hlenX : (valM 0 (pre.map Subtype.val)).length ≤ 1000000 := by omega
        have hszX : w1.heap.size + 1 ≤ (W.drew.alloc (.cells #[.int .i64 xv] 2)).heap.size := by have := HU.out.lt; simp; omega
        have HBX := Lib.hid (show Blk (W.drew.alloc (.cells #[.int .i64 xv] 2)) w1.heap.size [u, v] 59 from HU.out.alloc _)
        have HBK := Lib.hid (fun w4 (gr : (W.drew.alloc (.cells #[.int .i64 xv] 2)).grownBy w4 u.ownBlock) => heads_blk HBX.out HA.out gr)
        have e0A := (HU.out.alloc (.cells #[.int .i64 xv] 2)).cell 0
        simp only [List.getElem?_cons_zero, List.getElem?_cons_succ] at e0A
        have HNB := Lib.hid (HX.out.ne_blk HU.out (by decide))
        have HGR := Lib.hid (fun w4 (gr : (W.drew.alloc (.cells #[.int .i64 xv] 2)).grownBy w4 u.ownBlock) (i : Nat) (y : Value) (h : W.cell? ⟨Bx, i, none⟩ = some y) => show w4.cell? ⟨Bx, i, none⟩ = some y from by
          rw [← HXX.out i y h]
          simp only [World.cell?, gr.block Bx (by have := HX.out.lt; simp; omega) (fun e => HA.out.ne_blk (HX.out.alloc (.cells #[.int .i64 xv] 2)) (by decide) e.symm)])
        have HST := Lib.hid (fun (W' : World) (i : Nat) (y z : Value) (h : W'.cell? ⟨Bx, i, none⟩ = some y) => show (W'.setCell ⟨w1.heap.size, 0, none⟩ z).cell? ⟨Bx, i, none⟩ = some y from (World.cell?_setCell_far W' ⟨w1.heap.size, 0, none⟩ ⟨Bx, i, none⟩ z (fun e => HNB.out e.symm)).trans h)
        gi_wp2
        refine wpIn_region_heldR (S := (fun W' => W'.cell? ⟨Bx, 0, none⟩ = some (.int .i64 xv) ∧ W'.cell? ⟨Bx, 2, none⟩ = some (.int .i64 0))) (by kernel_rfl) (by kernel_rfl) ?_ (fun hHeld => ?_)
        · (try dsimp only); exact ⟨d0, d2⟩
        refine wpAnyH_take (i := 0) (oi := { dst := some 17, op := Go.Op.fieldAddr 69 (Go.Operand.tmp 6) 1, type := 0, pos := "l06_passing.go:213", after := #[], guard := none }) (v := ?_) rfl (by kernel_rfl) (by kernel_rfl) (by kernel_rfl) (fun _ _ _ h => h) (Or.inl ⟨by rfl, ?_⟩) (by assumption) ?_
        rotate_left
        · (intro w hSw; (try dsimp only at hSw); go_simp); (try with_reducible rfl)
        try simp only [Act.put, List.setIfInBounds_toArray, List.set_cons_zero, List.set_cons_succ]
        refine wpAnyH_take (i := 1) (oi := { dst := some 18, op := Go.Op.load 3 (Go.Operand.tmp 17), type := 3, pos := "l06_passing.go:213", after := #[{ on := 0, ground := Go.Ground.data }], guard := none }) (v := ?_) rfl (by kernel_rfl) (by kernel_rfl) (by kernel_rfl) (fun _ _ _ h => h) (Or.inl ⟨by rfl, ?_⟩) (by assumption) ?_
        rotate_left
        · (intro w hSw; (try dsimp only at hSw); go_simp); (try with_reducible rfl)
        try simp only [Act.put, List.setIfInBounds_toArray, List.set_cons_zero, List.set_cons_succ]
        refine wpAnyH_take (i := 2) (oi := { dst := some 19, op := Go.Op.fieldAddr 69 (Go.Operand.tmp 6) 1, type := 0, pos := "l06_passing.go:213", after := #[], guard := none }) (v := ?_) rfl (by kernel_rfl) (by kernel_rfl) (by kernel_rfl) (fun _ _ _ h => h) (Or.inl ⟨by rfl, ?_⟩) (by assumption) ?_
        rotate_left
        · (intro w hSw; (try dsimp only at hSw); go_simp); (try with_reducible rfl)
        try simp only [Act.put, List.setIfInBounds_toArray, List.set_cons_zero, List.set_cons_succ]
        refine wpAnyH_take (i := 3) (oi := { dst := some 20, op := Go.Op.load 3 (Go.Operand.tmp 19), type := 3, pos := "l06_passing.go:213", after := #[{ on := 2, ground := Go.Ground.data }], guard := none }) (v := ?_) rfl (by kernel_rfl) (by kernel_rfl) (by kernel_rfl) (fun _ _ _ h => h) (Or.inl ⟨by rfl, ?_⟩) (by assumption) ?_
        rotate_left
        · (intro w hSw; (try dsimp only at hSw); go_simp); (try with_reducible rfl)
        try simp only [Act.put, List.setIfInBounds_toArray, List.set_cons_zero, List.set_cons_succ]
        refine wpAnyH_take (i := 4) (oi := { dst := some 21, op := Go.Op.indexAddr 59 (Go.Operand.tmp 5) (Go.Operand.tmp 20), type := 0, pos := "l06_passing.go:213", after := #[{ on := 3, ground := Go.Ground.data }], guard := none }) (v := ?_) rfl (by kernel_rfl) (by kernel_rfl) (by kernel_rfl) (fun _ _ _ h => h) (Or.inl ⟨by rfl, ?_⟩) (by assumption) ?_
        rotate_left
        · (intro w hSw; (try dsimp only at hSw); go_simp); (try with_reducible rfl)
        try simp only [Act.put, List.setIfInBounds_toArray, List.set_cons_zero, List.set_cons_succ]
        refine wpAnyH_take (i := 6) (oi := { dst := some 23, op := Go.Op.fieldAddr 69 (Go.Operand.tmp 6) 0, type := 0, pos := "l06_passing.go:213", after := #[], guard := none }) (v := ?_) rfl (by kernel_rfl) (by kernel_rfl) (by kernel_rfl) (fun _ _ _ h => h) (Or.inl ⟨by rfl, ?_⟩) (by assumption) ?_
        rotate_left
        · (intro w hSw; (try dsimp only at hSw); go_simp); (try with_reducible rfl)
        try simp only [Act.put, List.setIfInBounds_toArray, List.set_cons_zero, List.set_cons_succ]
        refine wpAnyH_take (i := 7) (oi := { dst := some 24, op := Go.Op.fieldAddr 67 (Go.Operand.tmp 23) 0, type := 0, pos := "l06_passing.go:213", after := #[{ on := 6, ground := Go.Ground.data }], guard := none }) (v := ?_) rfl (by kernel_rfl) (by kernel_rfl) (by kernel_rfl) (fun _ _ _ h => h) (Or.inl ⟨by rfl, ?_⟩) (by assumption) ?_
        rotate_left
        · (intro w hSw; (try dsimp only at hSw); go_simp); (try with_reducible rfl)
        try simp only [Act.put, List.setIfInBounds_toArray, List.set_cons_zero, List.set_cons_succ]
        refine wpAnyH_take (i := 8) (oi := { dst := some 25, op := Go.Op.load 2 (Go.Operand.tmp 24), type := 2, pos := "l06_passing.go:213", after := #[{ on := 7, ground := Go.Ground.data }], guard := none }) (v := ?_) rfl (by kernel_rfl) (by kernel_rfl) (by kernel_rfl) (fun _ _ _ h => h) (Or.inl ⟨by rfl, ?_⟩) (by assumption) ?_
        rotate_left
        · (intro w hSw; (try dsimp only at hSw); go_simp); (try with_reducible rfl)
        try simp only [Act.put, List.setIfInBounds_toArray, List.set_cons_zero, List.set_cons_succ]
        refine wpAnyH_ready (rs := [5, 9]) (by kernel_rfl) (by simp) ?_
        refine AllReadyH.cons (o := { dst := some 22, op := Go.Op.load 26 (Go.Operand.tmp 21), type := 26, pos := "l06_passing.go:213", after := #[{ on := 4, ground := Go.Ground.data }], guard := none }) rfl (fun K hK => ?_) ?_
        · go_simp
          refine hK.out _ _ ?_ (fun hHeld2 => ?_)
          · (try dsimp only); first | exact ⟨d0, d2⟩ | exact ⟨HXX.out 0 _ d0, HXX.out 2 _ d2⟩
          clear hK K hHeld
          have hHeld := hHeld2
          clear hHeld2
          try simp only [Act.put, List.setIfInBounds_toArray, List.set_cons_zero, List.set_cons_succ]
          refine wpAnyH_ready (rs := [9]) (by kernel_rfl) (by simp) ?_
          refine AllReadyH.cons (o := { dst := some 26, op := Go.Op.buildSlice 26 1 #[(0, Go.Operand.tmp 25)], type := 26, pos := "l06_passing.go:213", after := #[{ on := 8, ground := Go.Ground.data }], guard := none }) rfl (fun K hK => ?_) AllReadyH.nil
          go_simp
          refine hK.out _ _ ?_ (fun hHeld2 => ?_)
          · (try dsimp only); exact ⟨HXX.out 0 _ d0, HXX.out 2 _ d2⟩
          clear hK K hHeld
          have hHeld := hHeld2
          clear hHeld2
          try simp only [Act.put, List.setIfInBounds_toArray, List.set_cons_zero, List.set_cons_succ]
          refine wpAnyH_ready (rs := [10]) (by kernel_rfl) (by simp) ?_
          refine AllReadyH.cons (o := { dst := some 27, op := Go.Op.call { callee := Go.Callee.builtin Go.Builtin.append, args := #[Go.Operand.tmp 22, Go.Operand.tmp 26], argTypes := #[26, 26] }, type := 26, pos := "l06_passing.go:213", after := #[{ on := 5, ground := Go.Ground.data }, { on := 9, ground := Go.Ground.data }], guard := none }) rfl (fun K hK => ?_) AllReadyH.nil
          (refine step_append_i _ (by rfl) _ _ (by rfl) (w1.heap.size + 1) u _ (by rfl) (HA.out) W.heap.size 1 xv (by rfl) HNW.out hlenX hszX ?_; intro g4 c4 l4 w4 i4 gr4 ho4)
          refine hK.out _ _ ?_ (fun hHeld2 => ?_)
          · (try dsimp only); exact ⟨HGR.out _ gr4 0 _ d0, HGR.out _ gr4 2 _ d2⟩
          clear hK K hHeld
          have hHeld := hHeld2
          clear hHeld2
          try simp only [Act.put, List.setIfInBounds_toArray, List.set_cons_zero, List.set_cons_succ]
          refine wpAnyH_take (i := 11) (oi := { dst := some 28, op := Go.Op.indexAddr 59 (Go.Operand.tmp 5) (Go.Operand.tmp 18), type := 0, pos := "l06_passing.go:213", after := #[{ on := 1, ground := Go.Ground.data }, { on := 0, ground := Go.Ground.phase }, { on := 1, ground := Go.Ground.phase }, { on := 2, ground := Go.Ground.phase }, { on := 3, ground := Go.Ground.phase }, { on := 4, ground := Go.Ground.phase }, { on := 5, ground := Go.Ground.phase }, { on := 6, ground := Go.Ground.phase }, { on := 7, ground := Go.Ground.phase }, { on := 8, ground := Go.Ground.phase }, { on := 9, ground := Go.Ground.phase }, { on := 10, ground := Go.Ground.phase }], guard := none }) (v := ?_) rfl (by kernel_rfl) (by kernel_rfl) (by kernel_rfl) (fun _ _ _ h => h) (Or.inl ⟨by rfl, ?_⟩) (by assumption) ?_
          rotate_left
          · (intro w hSw; (try dsimp only at hSw); go_simp); (try with_reducible rfl)
          try simp only [Act.put, List.setIfInBounds_toArray, List.set_cons_zero, List.set_cons_succ]
          refine wpAnyH_ready (rs := [12]) (by kernel_rfl) (by simp) ?_
          refine AllReadyH.cons (o := { dst := none, op := Go.Op.store 26 (Go.Operand.tmp 28) (Go.Operand.tmp 27), type := 0, pos := "l06_passing.go:213", after := #[{ on := 11, ground := Go.Ground.data }, { on := 10, ground := Go.Ground.data }, { on := 10, ground := Go.Ground.chain }, { on := 0, ground := Go.Ground.phase }, { on := 1, ground := Go.Ground.phase }, { on := 2, ground := Go.Ground.phase }, { on := 3, ground := Go.Ground.phase }, { on := 4, ground := Go.Ground.phase }, { on := 5, ground := Go.Ground.phase }, { on := 6, ground := Go.Ground.phase }, { on := 7, ground := Go.Ground.phase }, { on := 8, ground := Go.Ground.phase }, { on := 9, ground := Go.Ground.phase }, { on := 10, ground := Go.Ground.phase }], guard := none }) rfl (fun K hK => ?_) AllReadyH.nil
          have f4 : w4.frozen? ⟨w1.heap.size, 0, none⟩ = false := (HBK.out _ gr4).free 0
          have e4 := (HBK.out _ gr4).cell 0
          simp only [List.getElem?_cons_zero, List.getElem?_cons_succ] at e4
          go_simp
          refine hK.out _ _ ?_ (fun hHeld2 => ?_)
          · (try dsimp only); exact ⟨HST.out _ 0 _ _ (HGR.out _ gr4 0 _ d0), HST.out _ 2 _ _ (HGR.out _ gr4 2 _ d2)⟩
          clear hK K hHeld
          have hHeld := hHeld2
          clear hHeld2
          try simp only [Act.put, List.setIfInBounds_toArray, List.set_cons_zero, List.set_cons_succ]
          refine wpAnyH_done (by kernel_rfl) (Calm.ok ?_) _
          gi_wp2
          have hk4 : KeepsOthers W (w4.setCell ⟨w1.heap.size, 0, none⟩ (.slice (some ⟨g4, 0, none⟩) l4 c4)) := (((KeepsOthers.drew W).trans (KeepsOthers.alloc _ _)).trans (KeepsOthers.of_grownBy gr4 HA.out.row_cells)).trans (KeepsOthers.setCell _ _ _)
          have hb4 : Below w.heap.size W (w4.setCell ⟨w1.heap.size, 0, none⟩ (.slice (some ⟨g4, 0, none⟩) l4 c4)) := (((Below.drew (Below.refl _ W)).alloc (by show w.heap.size ≤ W.heap.size; have := HB1.out.size; omega) _).grown gr4 (by have := HB1.out.size; simp; omega) (by intro q hq; have := HA.out.own_ge hq; omega)).setCell (by show w.heap.size ≤ w1.heap.size; omega) _
          obtain ⟨m1, m2, m3⟩ := heads_app HA.out HO.out hap i4 gr4 ho4 ⟨w1.heap.size, 0, none⟩ rfl (.slice (some ⟨g4, 0, none⟩) l4 c4)
          have hP4 : Blk (w4.setCell ⟨w1.heap.size, 0, none⟩ (.slice (some ⟨g4, 0, none⟩) l4 c4)) w.heap.size _ _ := (Blk.block (w' := w4) (HP1.out.alloc (.cells #[.int .i64 xv] 2)) (gr4.block _ (by have := HP1.out.lt; simp; omega) (fun e => by have := HA.out.own_ge e.symm; omega))).other (by show w.heap.size ≠ w1.heap.size; omega) _
          have hR4 : Res3 w.heap.size (.slice none 0 0) (.slice none 0 0) 0 (w4.setCell ⟨w1.heap.size, 0, none⟩ (.slice (some ⟨g4, 0, none⟩) l4 c4)) := (Res3.grown (W := (W.drew.alloc (.cells #[.int .i64 xv] 2))) (W' := w4) (show Res3 w.heap.size (.slice none 0 0) (.slice none 0 0) 0 (W.drew.alloc (.cells #[.int .i64 xv] 2)) from HR1.out.alloc _) gr4 (fun q e => by have := HA.out.own_ge e; omega)).other (by show w.heap.size + 3 < w1.heap.size; omega) _
          have hU4 := (HBK.out _ gr4).set 0 (.slice (some ⟨g4, 0, none⟩) l4 c4)
          exact ⟨hk4.from _, hb4, ⟨⟨⟨(.slice (some ⟨g4, 0, none⟩) l4 c4), v, hU4, (by rw [HSN.out 0, if_pos rfl]; exact m1), (by rw [HSN.out 1, if_neg (by omega), List.append_nil]; exact m2), m3⟩, hP4⟩, hR4, by rw [HNP.out, HNPP.out, HXP.out]; rfl⟩, HB1.out.trans hb4⟩
        refine AllReadyH.cons (o := { dst := some 26, op := Go.Op.buildSlice 26 1 #[(0, Go.Operand.tmp 25)], type := 26, pos := "l06_passing.go:213", after := #[{ on := 8, ground := Go.Ground.data }], guard := none }) rfl (fun K hK => ?_) ?_
        · go_simp
          refine hK.out _ _ ?_ (fun hHeld2 => ?_)
          · (try dsimp only); exact ⟨HXX.out 0 _ d0, HXX.out 2 _ d2⟩
          clear hK K hHeld
          have hHeld := hHeld2
          clear hHeld2
          try simp only [Act.put, List.setIfInBounds_toArray, List.set_cons_zero, List.set_cons_succ]
          refine wpAnyH_ready (rs := [5]) (by kernel_rfl) (by simp) ?_
          refine AllReadyH.cons (o := { dst := some 22, op := Go.Op.load 26 (Go.Operand.tmp 21), type := 26, pos := "l06_passing.go:213", after := #[{ on := 4, ground := Go.Ground.data }], guard := none }) rfl (fun K hK => ?_) AllReadyH.nil
          go_simp
          refine hK.out _ _ ?_ (fun hHeld2 => ?_)
          · (try dsimp only); exact ⟨HXX.out 0 _ d0, HXX.out 2 _ d2⟩
          clear hK K hHeld
          have hHeld := hHeld2
          clear hHeld2
          try simp only [Act.put, List.setIfInBounds_toArray, List.set_cons_zero, List.set_cons_succ]
          refine wpAnyH_ready (rs := [10]) (by kernel_rfl) (by simp) ?_
          refine AllReadyH.cons (o := { dst := some 27, op := Go.Op.call { callee := Go.Callee.builtin Go.Builtin.append, args := #[Go.Operand.tmp 22, Go.Operand.tmp 26], argTypes := #[26, 26] }, type := 26, pos := "l06_passing.go:213", after := #[{ on := 5, ground := Go.Ground.data }, { on := 9, ground := Go.Ground.data }], guard := none }) rfl (fun K hK => ?_) AllReadyH.nil
          (refine step_append_i _ (by rfl) _ _ (by rfl) (w1.heap.size + 1) u _ (by rfl) (HA.out) W.heap.size 1 xv (by rfl) HNW.out hlenX hszX ?_; intro g4 c4 l4 w4 i4 gr4 ho4)
          refine hK.out _ _ ?_ (fun hHeld2 => ?_)
          · (try dsimp only); exact ⟨HGR.out _ gr4 0 _ d0, HGR.out _ gr4 2 _ d2⟩
          clear hK K hHeld
          have hHeld := hHeld2
          clear hHeld2
          try simp only [Act.put, List.setIfInBounds_toArray, List.set_cons_zero, List.set_cons_succ]
          refine wpAnyH_take (i := 11) (oi := { dst := some 28, op := Go.Op.indexAddr 59 (Go.Operand.tmp 5) (Go.Operand.tmp 18), type := 0, pos := "l06_passing.go:213", after := #[{ on := 1, ground := Go.Ground.data }, { on := 0, ground := Go.Ground.phase }, { on := 1, ground := Go.Ground.phase }, { on := 2, ground := Go.Ground.phase }, { on := 3, ground := Go.Ground.phase }, { on := 4, ground := Go.Ground.phase }, { on := 5, ground := Go.Ground.phase }, { on := 6, ground := Go.Ground.phase }, { on := 7, ground := Go.Ground.phase }, { on := 8, ground := Go.Ground.phase }, { on := 9, ground := Go.Ground.phase }, { on := 10, ground := Go.Ground.phase }], guard := none }) (v := ?_) rfl (by kernel_rfl) (by kernel_rfl) (by kernel_rfl) (fun _ _ _ h => h) (Or.inl ⟨by rfl, ?_⟩) (by assumption) ?_
          rotate_left
          · (intro w hSw; (try dsimp only at hSw); go_simp); (try with_reducible rfl)
          try simp only [Act.put, List.setIfInBounds_toArray, List.set_cons_zero, List.set_cons_succ]
          refine wpAnyH_ready (rs := [12]) (by kernel_rfl) (by simp) ?_
          refine AllReadyH.cons (o := { dst := none, op := Go.Op.store 26 (Go.Operand.tmp 28) (Go.Operand.tmp 27), type := 0, pos := "l06_passing.go:213", after := #[{ on := 11, ground := Go.Ground.data }, { on := 10, ground := Go.Ground.data }, { on := 10, ground := Go.Ground.chain }, { on := 0, ground := Go.Ground.phase }, { on := 1, ground := Go.Ground.phase }, { on := 2, ground := Go.Ground.phase }, { on := 3, ground := Go.Ground.phase }, { on := 4, ground := Go.Ground.phase }, { on := 5, ground := Go.Ground.phase }, { on := 6, ground := Go.Ground.phase }, { on := 7, ground := Go.Ground.phase }, { on := 8, ground := Go.Ground.phase }, { on := 9, ground := Go.Ground.phase }, { on := 10, ground := Go.Ground.phase }], guard := none }) rfl (fun K hK => ?_) AllReadyH.nil
          have f4 : w4.frozen? ⟨w1.heap.size, 0, none⟩ = false := (HBK.out _ gr4).free 0
          have e4 := (HBK.out _ gr4).cell 0
          simp only [List.getElem?_cons_zero, List.getElem?_cons_succ] at e4
          go_simp
          refine hK.out _ _ ?_ (fun hHeld2 => ?_)
          · (try dsimp only); exact ⟨HST.out _ 0 _ _ (HGR.out _ gr4 0 _ d0), HST.out _ 2 _ _ (HGR.out _ gr4 2 _ d2)⟩
          clear hK K hHeld
          have hHeld := hHeld2
          clear hHeld2
          try simp only [Act.put, List.setIfInBounds_toArray, List.set_cons_zero, List.set_cons_succ]
          refine wpAnyH_done (by kernel_rfl) (Calm.ok ?_) _
          gi_wp2
          have hk4 : KeepsOthers W (w4.setCell ⟨w1.heap.size, 0, none⟩ (.slice (some ⟨g4, 0, none⟩) l4 c4)) := (((KeepsOthers.drew W).trans (KeepsOthers.alloc _ _)).trans (KeepsOthers.of_grownBy gr4 HA.out.row_cells)).trans (KeepsOthers.setCell _ _ _)
          have hb4 : Below w.heap.size W (w4.setCell ⟨w1.heap.size, 0, none⟩ (.slice (some ⟨g4, 0, none⟩) l4 c4)) := (((Below.drew (Below.refl _ W)).alloc (by show w.heap.size ≤ W.heap.size; have := HB1.out.size; omega) _).grown gr4 (by have := HB1.out.size; simp; omega) (by intro q hq; have := HA.out.own_ge hq; omega)).setCell (by show w.heap.size ≤ w1.heap.size; omega) _
          obtain ⟨m1, m2, m3⟩ := heads_app HA.out HO.out hap i4 gr4 ho4 ⟨w1.heap.size, 0, none⟩ rfl (.slice (some ⟨g4, 0, none⟩) l4 c4)
          have hP4 : Blk (w4.setCell ⟨w1.heap.size, 0, none⟩ (.slice (some ⟨g4, 0, none⟩) l4 c4)) w.heap.size _ _ := (Blk.block (w' := w4) (HP1.out.alloc (.cells #[.int .i64 xv] 2)) (gr4.block _ (by have := HP1.out.lt; simp; omega) (fun e => by have := HA.out.own_ge e.symm; omega))).other (by show w.heap.size ≠ w1.heap.size; omega) _
          have hR4 : Res3 w.heap.size (.slice none 0 0) (.slice none 0 0) 0 (w4.setCell ⟨w1.heap.size, 0, none⟩ (.slice (some ⟨g4, 0, none⟩) l4 c4)) := (Res3.grown (W := (W.drew.alloc (.cells #[.int .i64 xv] 2))) (W' := w4) (show Res3 w.heap.size (.slice none 0 0) (.slice none 0 0) 0 (W.drew.alloc (.cells #[.int .i64 xv] 2)) from HR1.out.alloc _) gr4 (fun q e => by have := HA.out.own_ge e; omega)).other (by show w.heap.size + 3 < w1.heap.size; omega) _
          have hU4 := (HBK.out _ gr4).set 0 (.slice (some ⟨g4, 0, none⟩) l4 c4)
          exact ⟨hk4.from _, hb4, ⟨⟨⟨(.slice (some ⟨g4, 0, none⟩) l4 c4), v, hU4, (by rw [HSN.out 0, if_pos rfl]; exact m1), (by rw [HSN.out 1, if_neg (by omega), List.append_nil]; exact m2), m3⟩, hP4⟩, hR4, by rw [HNP.out, HNPP.out, HXP.out]; rfl⟩, HB1.out.trans hb4⟩
        exact AllReadyH.nil
      · have HXX := Lib.hid (fun (i : Nat) (y : Value) (h : W.cell? ⟨Bx, i, none⟩ = some y) => show (W.drew.alloc (.cells #[.int .i64 xv] 2)).cell? ⟨Bx, i, none⟩ = some y from (((Below.refl W.heap.size W).alloc (Nat.le_refl _) (.cells #[.int .i64 xv] 2)).cell (p := ⟨Bx, i, none⟩) HX.out.lt).trans h)
        have HA := Lib.hid (show Ints (W.drew.alloc (.cells #[.int .i64 xv] 2)) (w1.heap.size + 1) v (valM 1 (pre.map Subtype.val)) from HIV.out.alloc _)
        have HO := Lib.hid (show Ints (W.drew.alloc (.cells #[.int .i64 xv] 2)) (w1.heap.size + 1) u (valM 0 (pre.map Subtype.val)) from HIU.out.alloc _)
        have HNW := Lib.hid (show (W.drew.alloc (.cells #[.int .i64 xv] 2)).cell? ⟨W.heap.size, 0, none⟩ = some (.int .i64 xv) from (Blk.made W #[.int .i64 xv] 2).cell 0)
        have hlenX : (valM 1 (pre.map Subtype.val)).length ≤ 1000000 := by omega
        have hszX : w1.heap.size + 1 ≤ (W.drew.alloc (.cells #[.int .i64 xv] 2)).heap.size := by have := HU.out.lt; simp; omega
        have HBX := Lib.hid (show Blk (W.drew.alloc (.cells #[.int .i64 xv] 2)) w1.heap.size [u, v] 59 from HU.out.alloc _)
        have HBK := Lib.hid (fun w4 (gr : (W.drew.alloc (.cells #[.int .i64 xv] 2)).grownBy w4 v.ownBlock) => heads_blk1 HBX.out HA.out gr)
        have e0A := (HU.out.alloc (.cells #[.int .i64 xv] 2)).cell 1
        simp only [List.getElem?_cons_zero, List.getElem?_cons_succ] at e0A
        have HNB := Lib.hid (HX.out.ne_blk HU.out (by decide))
        have HGR := Lib.hid (fun w4 (gr : (W.drew.alloc (.cells #[.int .i64 xv] 2)).grownBy w4 v.ownBlock) (i : Nat) (y : Value) (h : W.cell? ⟨Bx, i, none⟩ = some y) => show w4.cell? ⟨Bx, i, none⟩ = some y from by
          rw [← HXX.out i y h]
          simp only [World.cell?, gr.block Bx (by have := HX.out.lt; simp; omega) (fun e => HA.out.ne_blk (HX.out.alloc (.cells #[.int .i64 xv] 2)) (by decide) e.symm)])
        have HST := Lib.hid (fun (W' : World) (i : Nat) (y z : Value) (h : W'.cell? ⟨Bx, i, none⟩ = some y) => show (W'.setCell ⟨w1.heap.size, 1, none⟩ z).cell? ⟨Bx, i, none⟩ = some y from (World.cell?_setCell_far W' ⟨w1.heap.size, 1, none⟩ ⟨Bx, i, none⟩ z (fun e => HNB.out e.symm)).trans h)
        gi_wp2
        refine wpIn_region_heldR (S := (fun W' => W'.cell? ⟨Bx, 0, none⟩ = some (.int .i64 xv) ∧ W'.cell? ⟨Bx, 2, none⟩ = some (.int .i64 1))) (by kernel_rfl) (by kernel_rfl) ?_ (fun hHeld => ?_)
        · (try dsimp only); exact ⟨d0, d2⟩
        refine wpAnyH_take (i := 0) (oi := { dst := some 17, op := Go.Op.fieldAddr 69 (Go.Operand.tmp 6) 1, type := 0, pos := "l06_passing.go:213", after := #[], guard := none }) (v := ?_) rfl (by kernel_rfl) (by kernel_rfl) (by kernel_rfl) (fun _ _ _ h => h) (Or.inl ⟨by rfl, ?_⟩) (by assumption) ?_
        rotate_left
        · (intro w hSw; (try dsimp only at hSw); go_simp); (try with_reducible rfl)
        try simp only [Act.put, List.setIfInBounds_toArray, List.set_cons_zero, List.set_cons_succ]
        refine wpAnyH_take (i := 1) (oi := { dst := some 18, op := Go.Op.load 3 (Go.Operand.tmp 17), type := 3, pos := "l06_passing.go:213", after := #[{ on := 0, ground := Go.Ground.data }], guard := none }) (v := ?_) rfl (by kernel_rfl) (by kernel_rfl) (by kernel_rfl) (fun _ _ _ h => h) (Or.inl ⟨by rfl, ?_⟩) (by assumption) ?_
        rotate_left
        · (intro w hSw; (try dsimp only at hSw); go_simp); (try with_reducible rfl)
        try simp only [Act.put, List.setIfInBounds_toArray, List.set_cons_zero, List.set_cons_succ]
        refine wpAnyH_take (i := 2) (oi := { dst := some 19, op := Go.Op.fieldAddr 69 (Go.Operand.tmp 6) 1, type := 0, pos := "l06_passing.go:213", after := #[], guard := none }) (v := ?_) rfl (by kernel_rfl) (by kernel_rfl) (by kernel_rfl) (fun _ _ _ h => h) (Or.inl ⟨by rfl, ?_⟩) (by assumption) ?_
        rotate_left
        · (intro w hSw; (try dsimp only at hSw); go_simp); (try with_reducible rfl)
        try simp only [Act.put, List.setIfInBounds_toArray, List.set_cons_zero, List.set_cons_succ]
        refine wpAnyH_take (i := 3) (oi := { dst := some 20, op := Go.Op.load 3 (Go.Operand.tmp 19), type := 3, pos := "l06_passing.go:213", after := #[{ on := 2, ground := Go.Ground.data }], guard := none }) (v := ?_) rfl (by kernel_rfl) (by kernel_rfl) (by kernel_rfl) (fun _ _ _ h => h) (Or.inl ⟨by rfl, ?_⟩) (by assumption) ?_
        rotate_left
        · (intro w hSw; (try dsimp only at hSw); go_simp); (try with_reducible rfl)
        try simp only [Act.put, List.setIfInBounds_toArray, List.set_cons_zero, List.set_cons_succ]
        refine wpAnyH_take (i := 4) (oi := { dst := some 21, op := Go.Op.indexAddr 59 (Go.Operand.tmp 5) (Go.Operand.tmp 20), type := 0, pos := "l06_passing.go:213", after := #[{ on := 3, ground := Go.Ground.data }], guard := none }) (v := ?_) rfl (by kernel_rfl) (by kernel_rfl) (by kernel_rfl) (fun _ _ _ h => h) (Or.inl ⟨by rfl, ?_⟩) (by assumption) ?_
        rotate_left
        · (intro w hSw; (try dsimp only at hSw); go_simp); (try with_reducible rfl)
        try simp only [Act.put, List.setIfInBounds_toArray, List.set_cons_zero, List.set_cons_succ]
        refine wpAnyH_take (i := 6) (oi := { dst := some 23, op := Go.Op.fieldAddr 69 (Go.Operand.tmp 6) 0, type := 0, pos := "l06_passing.go:213", after := #[], guard := none }) (v := ?_) rfl (by kernel_rfl) (by kernel_rfl) (by kernel_rfl) (fun _ _ _ h => h) (Or.inl ⟨by rfl, ?_⟩) (by assumption) ?_
        rotate_left
        · (intro w hSw; (try dsimp only at hSw); go_simp); (try with_reducible rfl)
        try simp only [Act.put, List.setIfInBounds_toArray, List.set_cons_zero, List.set_cons_succ]
        refine wpAnyH_take (i := 7) (oi := { dst := some 24, op := Go.Op.fieldAddr 67 (Go.Operand.tmp 23) 0, type := 0, pos := "l06_passing.go:213", after := #[{ on := 6, ground := Go.Ground.data }], guard := none }) (v := ?_) rfl (by kernel_rfl) (by kernel_rfl) (by kernel_rfl) (fun _ _ _ h => h) (Or.inl ⟨by rfl, ?_⟩) (by assumption) ?_
        rotate_left
        · (intro w hSw; (try dsimp only at hSw); go_simp); (try with_reducible rfl)
        try simp only [Act.put, List.setIfInBounds_toArray, List.set_cons_zero, List.set_cons_succ]
        refine wpAnyH_take (i := 8) (oi := { dst := some 25, op := Go.Op.load 2 (Go.Operand.tmp 24), type := 2, pos := "l06_passing.go:213", after := #[{ on := 7, ground := Go.Ground.data }], guard := none }) (v := ?_) rfl (by kernel_rfl) (by kernel_rfl) (by kernel_rfl) (fun _ _ _ h => h) (Or.inl ⟨by rfl, ?_⟩) (by assumption) ?_
        rotate_left
        · (intro w hSw; (try dsimp only at hSw); go_simp); (try with_reducible rfl)
        try simp only [Act.put, List.setIfInBounds_toArray, List.set_cons_zero, List.set_cons_succ]
        refine wpAnyH_ready (rs := [5, 9]) (by kernel_rfl) (by simp) ?_
        refine AllReadyH.cons (o := { dst := some 22, op := Go.Op.load 26 (Go.Operand.tmp 21), type := 26, pos := "l06_passing.go:213", after := #[{ on := 4, ground := Go.Ground.data }], guard := none }) rfl (fun K hK => ?_) ?_
        · go_simp
          refine hK.out _ _ ?_ (fun hHeld2 => ?_)
          · (try dsimp only); first | exact ⟨d0, d2⟩ | exact ⟨HXX.out 0 _ d0, HXX.out 2 _ d2⟩
          clear hK K hHeld
          have hHeld := hHeld2
          clear hHeld2
          try simp only [Act.put, List.setIfInBounds_toArray, List.set_cons_zero, List.set_cons_succ]
          refine wpAnyH_ready (rs := [9]) (by kernel_rfl) (by simp) ?_
          refine AllReadyH.cons (o := { dst := some 26, op := Go.Op.buildSlice 26 1 #[(0, Go.Operand.tmp 25)], type := 26, pos := "l06_passing.go:213", after := #[{ on := 8, ground := Go.Ground.data }], guard := none }) rfl (fun K hK => ?_) AllReadyH.nil
          go_simp
          refine hK.out _ _ ?_ (fun hHeld2 => ?_)
          · (try dsimp only); exact ⟨HXX.out 0 _ d0, HXX.out 2 _ d2⟩
          clear hK K hHeld
          have hHeld := hHeld2
          clear hHeld2
          try simp only [Act.put, List.setIfInBounds_toArray, List.set_cons_zero, List.set_cons_succ]
          refine wpAnyH_ready (rs := [10]) (by kernel_rfl) (by simp) ?_
          refine AllReadyH.cons (o := { dst := some 27, op := Go.Op.call { callee := Go.Callee.builtin Go.Builtin.append, args := #[Go.Operand.tmp 22, Go.Operand.tmp 26], argTypes := #[26, 26] }, type := 26, pos := "l06_passing.go:213", after := #[{ on := 5, ground := Go.Ground.data }, { on := 9, ground := Go.Ground.data }], guard := none }) rfl (fun K hK => ?_) AllReadyH.nil
          (refine step_append_i _ (by rfl) _ _ (by rfl) (w1.heap.size + 1) v _ (by rfl) (HA.out) W.heap.size 1 xv (by rfl) HNW.out hlenX hszX ?_; intro g4 c4 l4 w4 i4 gr4 ho4)
          refine hK.out _ _ ?_ (fun hHeld2 => ?_)
          · (try dsimp only); exact ⟨HGR.out _ gr4 0 _ d0, HGR.out _ gr4 2 _ d2⟩
          clear hK K hHeld
          have hHeld := hHeld2
          clear hHeld2
          try simp only [Act.put, List.setIfInBounds_toArray, List.set_cons_zero, List.set_cons_succ]
          refine wpAnyH_take (i := 11) (oi := { dst := some 28, op := Go.Op.indexAddr 59 (Go.Operand.tmp 5) (Go.Operand.tmp 18), type := 0, pos := "l06_passing.go:213", after := #[{ on := 1, ground := Go.Ground.data }, { on := 0, ground := Go.Ground.phase }, { on := 1, ground := Go.Ground.phase }, { on := 2, ground := Go.Ground.phase }, { on := 3, ground := Go.Ground.phase }, { on := 4, ground := Go.Ground.phase }, { on := 5, ground := Go.Ground.phase }, { on := 6, ground := Go.Ground.phase }, { on := 7, ground := Go.Ground.phase }, { on := 8, ground := Go.Ground.phase }, { on := 9, ground := Go.Ground.phase }, { on := 10, ground := Go.Ground.phase }], guard := none }) (v := ?_) rfl (by kernel_rfl) (by kernel_rfl) (by kernel_rfl) (fun _ _ _ h => h) (Or.inl ⟨by rfl, ?_⟩) (by assumption) ?_
          rotate_left
          · (intro w hSw; (try dsimp only at hSw); go_simp); (try with_reducible rfl)
          try simp only [Act.put, List.setIfInBounds_toArray, List.set_cons_zero, List.set_cons_succ]
          refine wpAnyH_ready (rs := [12]) (by kernel_rfl) (by simp) ?_
          refine AllReadyH.cons (o := { dst := none, op := Go.Op.store 26 (Go.Operand.tmp 28) (Go.Operand.tmp 27), type := 0, pos := "l06_passing.go:213", after := #[{ on := 11, ground := Go.Ground.data }, { on := 10, ground := Go.Ground.data }, { on := 10, ground := Go.Ground.chain }, { on := 0, ground := Go.Ground.phase }, { on := 1, ground := Go.Ground.phase }, { on := 2, ground := Go.Ground.phase }, { on := 3, ground := Go.Ground.phase }, { on := 4, ground := Go.Ground.phase }, { on := 5, ground := Go.Ground.phase }, { on := 6, ground := Go.Ground.phase }, { on := 7, ground := Go.Ground.phase }, { on := 8, ground := Go.Ground.phase }, { on := 9, ground := Go.Ground.phase }, { on := 10, ground := Go.Ground.phase }], guard := none }) rfl (fun K hK => ?_) AllReadyH.nil
          have f4 : w4.frozen? ⟨w1.heap.size, 1, none⟩ = false := (HBK.out _ gr4).free 1
          have e4 := (HBK.out _ gr4).cell 1
          simp only [List.getElem?_cons_zero, List.getElem?_cons_succ] at e4
          go_simp
          refine hK.out _ _ ?_ (fun hHeld2 => ?_)
          · (try dsimp only); exact ⟨HST.out _ 0 _ _ (HGR.out _ gr4 0 _ d0), HST.out _ 2 _ _ (HGR.out _ gr4 2 _ d2)⟩
          clear hK K hHeld
          have hHeld := hHeld2
          clear hHeld2
          try simp only [Act.put, List.setIfInBounds_toArray, List.set_cons_zero, List.set_cons_succ]
          refine wpAnyH_done (by kernel_rfl) (Calm.ok ?_) _
          gi_wp2
          have hk4 : KeepsOthers W (w4.setCell ⟨w1.heap.size, 1, none⟩ (.slice (some ⟨g4, 0, none⟩) l4 c4)) := (((KeepsOthers.drew W).trans (KeepsOthers.alloc _ _)).trans (KeepsOthers.of_grownBy gr4 HA.out.row_cells)).trans (KeepsOthers.setCell _ _ _)
          have hb4 : Below w.heap.size W (w4.setCell ⟨w1.heap.size, 1, none⟩ (.slice (some ⟨g4, 0, none⟩) l4 c4)) := (((Below.drew (Below.refl _ W)).alloc (by show w.heap.size ≤ W.heap.size; have := HB1.out.size; omega) _).grown gr4 (by have := HB1.out.size; simp; omega) (by intro q hq; have := HA.out.own_ge hq; omega)).setCell (by show w.heap.size ≤ w1.heap.size; omega) _
          obtain ⟨m1, m2, m3⟩ := heads_app HA.out HO.out hap.symm i4 gr4 ho4 ⟨w1.heap.size, 1, none⟩ rfl (.slice (some ⟨g4, 0, none⟩) l4 c4)
          have hP4 : Blk (w4.setCell ⟨w1.heap.size, 1, none⟩ (.slice (some ⟨g4, 0, none⟩) l4 c4)) w.heap.size _ _ := (Blk.block (w' := w4) (HP1.out.alloc (.cells #[.int .i64 xv] 2)) (gr4.block _ (by have := HP1.out.lt; simp; omega) (fun e => by have := HA.out.own_ge e.symm; omega))).other (by show w.heap.size ≠ w1.heap.size; omega) _
          have hR4 : Res3 w.heap.size (.slice none 0 0) (.slice none 0 0) 0 (w4.setCell ⟨w1.heap.size, 1, none⟩ (.slice (some ⟨g4, 0, none⟩) l4 c4)) := (Res3.grown (W := (W.drew.alloc (.cells #[.int .i64 xv] 2))) (W' := w4) (show Res3 w.heap.size (.slice none 0 0) (.slice none 0 0) 0 (W.drew.alloc (.cells #[.int .i64 xv] 2)) from HR1.out.alloc _) gr4 (fun q e => by have := HA.out.own_ge e; omega)).other (by show w.heap.size + 3 < w1.heap.size; omega) _
          have hU4 := (HBK.out _ gr4).set 1 (.slice (some ⟨g4, 0, none⟩) l4 c4)
          exact ⟨hk4.from _, hb4, ⟨⟨⟨u, (.slice (some ⟨g4, 0, none⟩) l4 c4), hU4, (by rw [HSN.out 0, if_neg (by omega), List.append_nil]; exact m2), (by rw [HSN.out 1, if_pos rfl]; exact m1), m3.symm⟩, hP4⟩, hR4, by rw [HNP.out, HNPP.out, HXP.out]; rfl⟩, HB1.out.trans hb4⟩
        refine AllReadyH.cons (o := { dst := some 26, op := Go.Op.buildSlice 26 1 #[(0, Go.Operand.tmp 25)], type := 26, pos := "l06_passing.go:213", after := #[{ on := 8, ground := Go.Ground.data }], guard := none }) rfl (fun K hK => ?_) ?_
        · go_simp
          refine hK.out _ _ ?_ (fun hHeld2 => ?_)
          · (try dsimp only); exact ⟨HXX.out 0 _ d0, HXX.out 2 _ d2⟩
          clear hK K hHeld
          have hHeld := hHeld2
          clear hHeld2
          try simp only [Act.put, List.setIfInBounds_toArray, List.set_cons_zero, List.set_cons_succ]
          refine wpAnyH_ready (rs := [5]) (by kernel_rfl) (by simp) ?_
          refine AllReadyH.cons (o := { dst := some 22, op := Go.Op.load 26 (Go.Operand.tmp 21), type := 26, pos := "l06_passing.go:213", after := #[{ on := 4, ground := Go.Ground.data }], guard := none }) rfl (fun K hK => ?_) AllReadyH.nil
          go_simp
          refine hK.out _ _ ?_ (fun hHeld2 => ?_)
          · (try dsimp only); exact ⟨HXX.out 0 _ d0, HXX.out 2 _ d2⟩
          clear hK K hHeld
          have hHeld := hHeld2
          clear hHeld2
          try simp only [Act.put, List.setIfInBounds_toArray, List.set_cons_zero, List.set_cons_succ]
          refine wpAnyH_ready (rs := [10]) (by kernel_rfl) (by simp) ?_
          refine AllReadyH.cons (o := { dst := some 27, op := Go.Op.call { callee := Go.Callee.builtin Go.Builtin.append, args := #[Go.Operand.tmp 22, Go.Operand.tmp 26], argTypes := #[26, 26] }, type := 26, pos := "l06_passing.go:213", after := #[{ on := 5, ground := Go.Ground.data }, { on := 9, ground := Go.Ground.data }], guard := none }) rfl (fun K hK => ?_) AllReadyH.nil
          (refine step_append_i _ (by rfl) _ _ (by rfl) (w1.heap.size + 1) v _ (by rfl) (HA.out) W.heap.size 1 xv (by rfl) HNW.out hlenX hszX ?_; intro g4 c4 l4 w4 i4 gr4 ho4)
          refine hK.out _ _ ?_ (fun hHeld2 => ?_)
          · (try dsimp only); exact ⟨HGR.out _ gr4 0 _ d0, HGR.out _ gr4 2 _ d2⟩
          clear hK K hHeld
          have hHeld := hHeld2
          clear hHeld2
          try simp only [Act.put, List.setIfInBounds_toArray, List.set_cons_zero, List.set_cons_succ]
          refine wpAnyH_take (i := 11) (oi := { dst := some 28, op := Go.Op.indexAddr 59 (Go.Operand.tmp 5) (Go.Operand.tmp 18), type := 0, pos := "l06_passing.go:213", after := #[{ on := 1, ground := Go.Ground.data }, { on := 0, ground := Go.Ground.phase }, { on := 1, ground := Go.Ground.phase }, { on := 2, ground := Go.Ground.phase }, { on := 3, ground := Go.Ground.phase }, { on := 4, ground := Go.Ground.phase }, { on := 5, ground := Go.Ground.phase }, { on := 6, ground := Go.Ground.phase }, { on := 7, ground := Go.Ground.phase }, { on := 8, ground := Go.Ground.phase }, { on := 9, ground := Go.Ground.phase }, { on := 10, ground := Go.Ground.phase }], guard := none }) (v := ?_) rfl (by kernel_rfl) (by kernel_rfl) (by kernel_rfl) (fun _ _ _ h => h) (Or.inl ⟨by rfl, ?_⟩) (by assumption) ?_
          rotate_left
          · (intro w hSw; (try dsimp only at hSw); go_simp); (try with_reducible rfl)
          try simp only [Act.put, List.setIfInBounds_toArray, List.set_cons_zero, List.set_cons_succ]
          refine wpAnyH_ready (rs := [12]) (by kernel_rfl) (by simp) ?_
          refine AllReadyH.cons (o := { dst := none, op := Go.Op.store 26 (Go.Operand.tmp 28) (Go.Operand.tmp 27), type := 0, pos := "l06_passing.go:213", after := #[{ on := 11, ground := Go.Ground.data }, { on := 10, ground := Go.Ground.data }, { on := 10, ground := Go.Ground.chain }, { on := 0, ground := Go.Ground.phase }, { on := 1, ground := Go.Ground.phase }, { on := 2, ground := Go.Ground.phase }, { on := 3, ground := Go.Ground.phase }, { on := 4, ground := Go.Ground.phase }, { on := 5, ground := Go.Ground.phase }, { on := 6, ground := Go.Ground.phase }, { on := 7, ground := Go.Ground.phase }, { on := 8, ground := Go.Ground.phase }, { on := 9, ground := Go.Ground.phase }, { on := 10, ground := Go.Ground.phase }], guard := none }) rfl (fun K hK => ?_) AllReadyH.nil
          have f4 : w4.frozen? ⟨w1.heap.size, 1, none⟩ = false := (HBK.out _ gr4).free 1
          have e4 := (HBK.out _ gr4).cell 1
          simp only [List.getElem?_cons_zero, List.getElem?_cons_succ] at e4
          go_simp
          refine hK.out _ _ ?_ (fun hHeld2 => ?_)
          · (try dsimp only); exact ⟨HST.out _ 0 _ _ (HGR.out _ gr4 0 _ d0), HST.out _ 2 _ _ (HGR.out _ gr4 2 _ d2)⟩
          clear hK K hHeld
          have hHeld := hHeld2
          clear hHeld2
          try simp only [Act.put, List.setIfInBounds_toArray, List.set_cons_zero, List.set_cons_succ]
          refine wpAnyH_done (by kernel_rfl) (Calm.ok ?_) _
          gi_wp2
          have hk4 : KeepsOthers W (w4.setCell ⟨w1.heap.size, 1, none⟩ (.slice (some ⟨g4, 0, none⟩) l4 c4)) := (((KeepsOthers.drew W).trans (KeepsOthers.alloc _ _)).trans (KeepsOthers.of_grownBy gr4 HA.out.row_cells)).trans (KeepsOthers.setCell _ _ _)
          have hb4 : Below w.heap.size W (w4.setCell ⟨w1.heap.size, 1, none⟩ (.slice (some ⟨g4, 0, none⟩) l4 c4)) := (((Below.drew (Below.refl _ W)).alloc (by show w.heap.size ≤ W.heap.size; have := HB1.out.size; omega) _).grown gr4 (by have := HB1.out.size; simp; omega) (by intro q hq; have := HA.out.own_ge hq; omega)).setCell (by show w.heap.size ≤ w1.heap.size; omega) _
          obtain ⟨m1, m2, m3⟩ := heads_app HA.out HO.out hap.symm i4 gr4 ho4 ⟨w1.heap.size, 1, none⟩ rfl (.slice (some ⟨g4, 0, none⟩) l4 c4)
          have hP4 : Blk (w4.setCell ⟨w1.heap.size, 1, none⟩ (.slice (some ⟨g4, 0, none⟩) l4 c4)) w.heap.size _ _ := (Blk.block (w' := w4) (HP1.out.alloc (.cells #[.int .i64 xv] 2)) (gr4.block _ (by have := HP1.out.lt; simp; omega) (fun e => by have := HA.out.own_ge e.symm; omega))).other (by show w.heap.size ≠ w1.heap.size; omega) _
          have hR4 : Res3 w.heap.size (.slice none 0 0) (.slice none 0 0) 0 (w4.setCell ⟨w1.heap.size, 1, none⟩ (.slice (some ⟨g4, 0, none⟩) l4 c4)) := (Res3.grown (W := (W.drew.alloc (.cells #[.int .i64 xv] 2))) (W' := w4) (show Res3 w.heap.size (.slice none 0 0) (.slice none 0 0) 0 (W.drew.alloc (.cells #[.int .i64 xv] 2)) from HR1.out.alloc _) gr4 (fun q e => by have := HA.out.own_ge e; omega)).other (by show w.heap.size + 3 < w1.heap.size; omega) _
          have hU4 := (HBK.out _ gr4).set 1 (.slice (some ⟨g4, 0, none⟩) l4 c4)
          exact ⟨hk4.from _, hb4, ⟨⟨⟨u, (.slice (some ⟨g4, 0, none⟩) l4 c4), hU4, (by rw [HSN.out 0, if_neg (by omega), List.append_nil]; exact m2), (by rw [HSN.out 1, if_pos rfl]; exact m1), m3.symm⟩, hP4⟩, hR4, by rw [HNP.out, HNPP.out, HXP.out]; rfl⟩, HB1.out.trans hb4⟩
        exact AllReadyH.nil
  case done =>
    rintro D zs W hD hzs ⟨⟨⟨hH, bP1⟩, bR1, hnp⟩, hB1⟩ hK
    rw [hzs] at hnp
    rw [hzs, (valM_all len a b).1, (valM_all len a b).2] at hH
    obtain ⟨u, v, hU, iu, iv, hap⟩ := hH
    have c0 := hU.cell 0
    have c1 := hU.cell 1
    have q1 := bR1.1.cell 0
    have q2 := bR1.2.1.cell 0
    have q3 := bR1.2.2.cell 0
    have k1 := bR1.1.free 0
    have k2 := bR1.2.1.free 0
    have k3 := bR1.2.2.free 0
    simp only [List.getElem?_cons_zero, List.getElem?_cons_succ] at c0 c1 q1 q2 q3
    have HR1 := Lib.hid bR1
    obtain ⟨xa, xc, rfl⟩ := ints_slP iu
    obtain ⟨ya, yc, rfl⟩ := ints_slP iv
    clear bS bP bJ hra hrb hok hV b1 b2 hB0 bR HB4 HP4 HR4 bR1
    gi_wp2
    gi_region
    all_goals gi_wp2
    all_goals try (exfalso; contradiction)
    have hR2 := HR1.out.set (.slice xa (valL a len).length xc) (.slice ya (valL b len).length yc) 0
    have hkk : KeepsOthers W (((W.setCell ⟨w.heap.size + 1, 0, none⟩ (.slice xa (valL a len).length xc)).setCell ⟨w.heap.size + 2, 0, none⟩ (.slice ya (valL b len).length yc)).setCell ⟨w.heap.size + 3, 0, none⟩ (.int .i64 0)) := ((KeepsOthers.setCell _ _ _).trans (KeepsOthers.setCell _ _ _)).trans (KeepsOthers.setCell _ _ _)
    have hB2 : Below w.heap.size w (((W.setCell ⟨w.heap.size + 1, 0, none⟩ (.slice xa (valL a len).length xc)).setCell ⟨w.heap.size + 2, 0, none⟩ (.slice ya (valL b len).length yc)).setCell ⟨w.heap.size + 3, 0, none⟩ (.int .i64 0)) := ((hB1.setCell (p := ⟨w.heap.size + 1, 0, none⟩) (by simp) _).setCell (p := ⟨w.heap.size + 2, 0, none⟩) (by simp) _).setCell (p := ⟨w.heap.size + 3, 0, none⟩) (by simp) _
    have hIs : ∀ (x : Value) (xs : List Int), Ints W (w1.heap.size + 1) x xs → Ints (((W.setCell ⟨w.heap.size + 1, 0, none⟩ (.slice xa (valL a len).length xc)).setCell ⟨w.heap.size + 2, 0, none⟩ (.slice ya (valL b len).length yc)).setCell ⟨w.heap.size + 3, 0, none⟩ (.int .i64 0)) (w1.heap.size + 1) x xs := fun x xs hx =>
      ((hx.block fun g hg _ => Below.heap_setCell _ _ _ _ (by have := hx.own_ge hg; show g ≠ w.heap.size + 1; omega)).block fun g hg _ => Below.heap_setCell _ _ _ _ (by have := hx.own_ge hg; show g ≠ w.heap.size + 2; omega)).block fun g hg _ => Below.heap_setCell _ _ _ _ (by have := hx.own_ge hg; show g ≠ w.heap.size + 3; omega)
    have iu2 := hIs _ _ iu
    have iv2 := hIs _ _ iv
    have hK2 := hkk.same D _ hK rfl
    generalize (((W.setCell ⟨w.heap.size + 1, 0, none⟩ (.slice xa (valL a len).length xc)).setCell ⟨w.heap.size + 2, 0, none⟩ (.slice ya (valL b len).length yc)).setCell ⟨w.heap.size + 3, 0, none⟩ (.int .i64 0)) = W3 at *
    have z1 := hR2.1.cell 0
    have z2 := hR2.2.1.cell 0
    have z3 := hR2.2.2.cell 0
    simp only [List.getElem?_cons_zero, List.getElem?_cons_succ] at z1 z2 z3
    have y1 := cell_kept z1 (grownBy_putObj' W3 D (.deferred none)) (fun r e => by cases e; exact ⟨_, hK2, rfl⟩)
    have y2 := cell_kept z2 (grownBy_putObj' W3 D (.deferred none)) (fun r e => by cases e; exact ⟨_, hK2, rfl⟩)
    have y3 := cell_kept z3 (grownBy_putObj' W3 D (.deferred none)) (fun r e => by cases e; exact ⟨_, hK2, rfl⟩)
    have hne : ∀ (x : Value) (B : Nat) (xs : List Int), Ints W3 B x xs → ∀ g, x.ownBlock = some g → g ≠ D := fun x B xs hx g hg e => by
      subst e
      exact absurd (hx.row_cells _ _ hg hK2) (by decide)
    have hIu : Ints (W3.drew.putObj D (.deferred none)) w.heap.size _ (valL a len) := (iu2.block (w' := W3.drew.putObj D (.deferred none)) fun g hg hlt => (grownBy_putObj' W3.drew D (.deferred none)).block g hlt fun e => by cases e; exact hne _ _ _ iu2 _ hg rfl).mono (by omega)
    have hIv : Ints (W3.drew.putObj D (.deferred none)) w.heap.size _ (valL b len) := (iv2.block (w' := W3.drew.putObj D (.deferred none)) fun g hg hlt => (grownBy_putObj' W3.drew D (.deferred none)).block g hlt fun e => by cases e; exact hne _ _ _ iv2 _ hg rfl).mono (by omega)
    have x1 : (W3.drew.putObj D (.deferred none)).cell? ⟨w.heap.size + 1, 0, none⟩ = _ := y1
    have x2 : (W3.drew.putObj D (.deferred none)).cell? ⟨w.heap.size + 2, 0, none⟩ = _ := y2
    have x3 : (W3.drew.putObj D (.deferred none)).cell? ⟨w.heap.size + 3, 0, none⟩ = _ := y3
    refine ⟨by simp, .inl ⟨_, _, rfl, run_takeDeferred (w := W3.drew) hK2, ?_⟩⟩
    exact ⟨.tuple #[.slice xa (valL a len).length xc, .slice ya (valL b len).length yc, .int .i64 0], by simp [results, Try.results21, go_sem, x1, x2, x3], _, _, rfl, hIu, hIv, hap, (Below.drew hB2).trans (belowK_b (w := w) (Nat.le_refl _) W3.drew D _ _ (by omega) hK2 rfl rfl)⟩
  case stop =>
    rintro D c pre W hD hpre ⟨⟨bR1, rfl, hbad⟩, hB1⟩ hK
    clear bS bP bJ hra hrb hok hV b1 b2 hB0 bR HB4 HP4 HR4
    have hv : noPass (mts len a b) = false := by
      cases h : noPass (mts len a b) with
      | false => rfl
      | true =>
        have : noPass (pre.map Subtype.val) = true := List.all_eq_true.2 fun x hx => List.all_eq_true.1 h x (hpre.subset hx)
        rw [hbad] at this; cases this
    have q1 := bR1.1.cell 0
    have q2 := bR1.2.1.cell 0
    have q3 := bR1.2.2.cell 0
    simp only [List.getElem?_cons_zero, List.getElem?_cons_succ] at q1 q2 q3
    have c1 := cell_kept q1 (grownBy_putObj' _ D (.deferred none)) (fun r e => by cases e; exact ⟨_, hK, rfl⟩)
    have c2 := cell_kept q2 (grownBy_putObj' _ D (.deferred none)) (fun r e => by cases e; exact ⟨_, hK, rfl⟩)
    have c3 := cell_kept q3 (grownBy_putObj' _ D (.deferred none)) (fun r e => by cases e; exact ⟨_, hK, rfl⟩)
    gi_wp2
    refine ⟨by simp, .inl ⟨_, _, rfl, run_takeDeferred hK, ?_⟩⟩
    exact ⟨.tuple #[.slice none 0 0, .slice none 0 0, .int .i64 10], by simp [results, Try.results21, go_sem, c1, c2, c3], .slice none 0 0, .slice none 0 0, rfl, Ints.nil _ _, Ints.nil _ _, apart_nil _, hB1.trans (belowK_b (w := w) (Nat.le_refl _) W D _ _ (by omega) hK rfl rfl)⟩
end Go.Proofs.Ytjhhldfhfebboaa
