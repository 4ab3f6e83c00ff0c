/- The program's iterator over the landings, its contract. Conditions: both have n throws, 1 to 8, each as it should be. -/
import Derived.Test.YtjhhldfhfebboaaIterP
namespace Go.Proofs.Ytjhhldfhfebboaa
open Go.RowKit Go.Shelf
set_option linter.unusedSimpArgs false
set_option linter.unusedVariables false
attribute [local go_sem] Oper.semAt_some

/-- what a round that goes on keeps: what lay below n₀, and the block Bj -/
def KpJ (n₀ Bj : Nat) (W W' : World) : Prop := Below n₀ W W' ∧ (∀ cs T, Blk W Bj cs T → Blk W' Bj cs T)

theorem roundIn_wide {n m : Nat} {P : Program} {l k : Nat} {f : FuncId} {tmps : Array Value} {asg bo : Code} {w : World} {R : Ending → World → Prop} (h : RoundIn Fence.wide n P l f tmps asg bo w R) : RoundIn (Fence.wide.inRound k) m P l f tmps asg bo w R := ⟨h.1, fun c cs _ => h.2 c cs (room_wide _)⟩
theorem one_way {e : Ending} {A B : Prop} (h : (e = .returned (.bool true) ∧ A) ∨ (e = .returned (.bool false) ∧ B)) : ∃ bb : Bool, e = .returned (.bool bb) ∧ ((bb = true ∧ A) ∨ (bb = false ∧ B)) := by
  rcases h with ⟨rfl, h⟩ | ⟨rfl, h⟩
  · exact ⟨true, rfl, .inl ⟨rfl, h⟩⟩
  · exact ⟨false, rfl, .inr ⟨rfl, h⟩⟩

set_option maxRecDepth 100000 in
set_option maxHeartbeats 4000000 in
theorem landings_own (Bj n₀ ga gb ca cb len : Nat) (a b : List Pt) (h1 : 1 ≤ len) (hlen : len ≤ 8) (hok : (mts len a b).all (fun x => okPt x.1) = true) (w : World) (hBj : Bj < w.heap.size) (hn₀ : n₀ ≤ w.heap.size)
    (hblk : Blk w Bj [.slice (some ⟨ga, 0, none⟩) len ca, .slice (some ⟨gb, 0, none⟩) len cb] 63) (hra : ReadP n₀ w ga len a) (hrb : ReadP n₀ w gb len b) :
    SeqOwn Fence.wide 6 Try.prog 101 #[.pointer (some ⟨Bj, 0, none⟩)] encL (KpJ n₀ Bj) (fun ys => ys.map Subtype.val = lands len a b) (fun pre => pre.map Subtype.val <+: lands len a b) (2 * len) w := by
  intro l J Jx W hW hJ hJx hY h0
  have hbW := hblk.below hW hBj
  have hbY := hbW.alloc (.cells #[.func (.yield l) #[] #[]] 120)
  have c0 := hbY.cell 0
  have c1 := hbY.cell 1
  simp only [List.getElem?_cons_zero, List.getElem?_cons_succ] at c0 c1
  refine callsIn_of_wp_marks Try.func101 rfl trivial ?_ rfl
  simp only [Try.ntmps101, List.size_toArray, List.length_cons, List.length_nil, Nat.reduceAdd, Nat.reduceSub, Array.replicate_succ, Array.replicate_zero, List.push_toArray, List.append_toArray, List.nil_append, List.cons_append]
  gi_wp2_with (refine ⟨trivial, ?_⟩; gi_at_call 52; refine (throws_in _ _ trivial rfl _ _ _).mono ?_; rintro e w' ⟨rfl, rfl⟩)
  have bY := (Blk.made W #[.func (.yield l) #[] #[]] 120).alloc (.cells #[.slice (some ⟨ga, 0, none⟩) len ca, .slice (some ⟨gb, 0, none⟩) len cb] 63)
  have bC := Blk.made (W.alloc (.cells #[.func (.yield l) #[] #[]] 120)) #[.slice (some ⟨ga, 0, none⟩) len ca, .slice (some ⟨gb, 0, none⟩) len cb] 63
  have bJ := hbY.alloc (.cells #[.slice (some ⟨ga, 0, none⟩) len ca, .slice (some ⟨gb, 0, none⟩) len cb] 63)
  simp only [World.size_alloc] at bC
  have hWs := hW.size
  have hB0 : Below W.heap.size W ((W.alloc (.cells #[.func (.yield l) #[] #[]] 120)).alloc (.cells #[.slice (some ⟨ga, 0, none⟩) len ca, .slice (some ⟨gb, 0, none⟩) len cb] 63)) := ((Below.refl _ W).alloc (Nat.le_refl _) _).alloc (by simp) _
  have hsz : ((W.alloc (.cells #[.func (.yield l) #[] #[]] 120)).alloc (.cells #[.slice (some ⟨ga, 0, none⟩) len ca, .slice (some ⟨gb, 0, none⟩) len cb] 63)).heap.size = W.heap.size + 2 := by simp
  have hJ0 : J [] ((W.alloc (.cells #[.func (.yield l) #[] #[]] 120)).alloc (.cells #[.slice (some ⟨ga, 0, none⟩) len ca, .slice (some ⟨gb, 0, none⟩) len cb] 63)) := hJ.alloc _ (hJ.alloc _ h0)
  obtain ⟨W0, hW0⟩ : ∃ W0, (W.alloc (.cells #[.func (.yield l) #[] #[]] 120)).alloc (.cells #[.slice (some ⟨ga, 0, none⟩) len ca, .slice (some ⟨gb, 0, none⟩) len cb] 63) = W0 := ⟨_, rfl⟩
  rw [hW0] at bY bC bJ hB0 hsz hJ0 ⊢
  clear hW0
  have up : ∀ {β : Type} {I : β → World → Prop}, OwnFrom W.heap.size I → OwnFrom W0.heap.size I := fun h s A B row hs hg hr => h s A B row hs hg fun r e => ⟨by have := (hr r e).1; omega, (hr r e).2⟩
  refine wpIn_rangeFunc_ownH (F := Fence.wide) rfl (by omega) (gf := 87) (lb := #[.pointer (some ⟨W.heap.size + 1, 0, none⟩)]) rfl trivial (enters_of Try.func87 (by kernel_rfl) rfl)
    (throws_stopsS Fence.wide 5 trivial rfl (by omega) (W.heap.size + 1) n₀ ga gb ca cb len a b hlen hok W0 (by omega) (by omega) (by simpa using bC.cell 0) (by simpa using bC.cell 1) ((hra.below (hW.mono hn₀)).below (hB0.mono (by omega))) ((hrb.below (hW.mono hn₀)).below (hB0.mono (by omega)))) belowK_t (belowK_b (by omega)) (Below.refl _ _) (fun _ => rfl)
    (fun pre W' => ((J (pre.map (toLt len ⟨h1, hlen⟩)) W' ∧ Blk W' W.heap.size [.func (.yield l) #[] #[]] 120) ∧ Blk W' Bj [.slice (some ⟨ga, 0, none⟩) len ca, .slice (some ⟨gb, 0, none⟩) len cb] 63) ∧ Below n₀ W W')
    (fun c pre W' => c = .ret ∧ Jx (pre.map (toLt len ⟨h1, hlen⟩)) W')
    (OwnFrom.and (OwnFrom.and (OwnFrom.and (up (fun s A B row hs hg hr => hJ _ A B row hs hg hr)) (Own.from (blk_own _ (fun _ => _) _) _)) (Own.from (blk_own _ (fun _ => _) _) _)) (ownFrom_below (by omega) (by omega)))
    (fun c => OwnFrom.and (fun _ _ _ _ hs _ _ => hs) (up (fun s A B row hs hg hr => hJx _ A B row hs hg hr)))
    ⟨⟨⟨hJ0, bY⟩, bJ⟩, hB0.mono (by omega)⟩
    (fun x a' W' => ∃ Bx, Blk W' Bx [.int .i64 x.1.1.1, .bool x.1.1.2, .int .i64 x.1.2.1, .int .i64 x.1.2.2] 69 ∧ a' = { tmps := #[.func (.yield l) #[] #[], .pointer (some ⟨Bj, 0, none⟩), .pointer (some ⟨W.heap.size, 0, none⟩), .pointer (some ⟨Bx, 0, none⟩), undef, .agg #[.slice (some ⟨ga, 0, none⟩) len ca, .slice (some ⟨gb, 0, none⟩) len cb], .func (.func 87) #[] #[.pointer (some ⟨W.heap.size + 1, 0, none⟩)], .agg #[.int .i64 x.1.1.1, .bool x.1.1.2, .int .i64 x.1.2.1, .int .i64 x.1.2.2], undef, undef, undef, undef, undef, undef, undef, undef, undef, undef, undef, undef, undef, undef, undef, undef], defers := [] })
    (fun x a' _ X Y row hs hg hr => by obtain ⟨Bx, h2, h3⟩ := hs; exact ⟨Bx, blk_own (β := Unit) Bx (fun _ => [.int .i64 x.1.1.1, .bool x.1.1.2, .int .i64 x.1.2.1, .int .i64 x.1.2.2]) _ () X Y row h2 hg (fun r e => (hr r e).2), h3⟩)
    ?assign ?body ?done ?stop
  case assign =>
    rintro l2 pre x W' K ⟨⟨⟨hJ1, bY1⟩, bJ1⟩, hB1⟩ hK
    obtain ⟨⟨⟨x0, x1⟩, x2, x3⟩, hx⟩ := x
    simp only [encS, encM] at hK ⊢
    gi_wp2
    exact hK _ _ ((KeepsOthers.alloc _ _).from _) ((Below.refl _ W').alloc (by have := hB1.size; omega) _) ⟨⟨⟨hJ.alloc _ hJ1, bY1.alloc _⟩, bJ1.alloc _⟩, hB1.alloc (by have := hB1.size; omega) _⟩ ⟨W'.heap.size, Blk.made W' _ _, rfl⟩
  case body =>
    rintro l2 pre x a' W' hl ⟨r, hr⟩ ⟨⟨⟨hJ1, bY1⟩, bJ1⟩, hB1⟩ ⟨Bx, bX, rfl⟩ hlt
    have hland : encL (toLt len ⟨h1, hlen⟩ x) = #[.int .i64 (if x.1.1.2 then 1 - (x.1.2.1 : Int) else (x.1.2.1 : Int)), .int .i64 (((x.1.2.2 : Int) + x.1.1.1) % (len : Int))] := rfl
    have hpre : (pre ++ [x]).map (toLt len ⟨h1, hlen⟩) = pre.map (toLt len ⟨h1, hlen⟩) ++ [toLt len ⟨h1, hlen⟩ x] := by simp
    have hlen2 : (pre.map (toLt len ⟨h1, hlen⟩)).length < 2 * len := by simpa using hlt
    have HYY := Lib.hid (fun W3 (h : J (pre.map (toLt len ⟨h1, hlen⟩)) W3) => hY _ (toLt len ⟨h1, hlen⟩ x) W3 h hlen2)
    rw [hland, ← hpre] at HYY
    obtain ⟨⟨⟨x0, x1⟩, x2, x3⟩, hx⟩ := x
    have hx0 : 0 ≤ x0 ∧ x0 ≤ 15 := by have := hx.1; simp [okPt] at this; omega
    have hx2 : x2 ≤ 1 := hx.2.1
    have hx3 : x3 < 8 := hx.2.2
    have d0 := bX.cell 0
    have d1 := bX.cell 1
    have d2 := bX.cell 2
    have d3 := bX.cell 3
    have e0 := bJ1.cell 0
    simp only [List.getElem?_cons_zero, List.getElem?_cons_succ] at d0 d1 d2 d3 e0
    have yc := bY1.cell 0
    simp only [List.getElem?_cons_zero] at yc
    have HMO := modulo_any ((x3 : Int) + x0) (len : Int) W' (by omega) (by omega) (by omega) (by omega)
    clear hra hrb hY hJx c0 c1 hbY hbW
    gi_wp2_with (refine ⟨trivial, ?_⟩; gi_at_call 65; refine (CallsIn.inRound l2 (callsIn_wide.2 HMO)).mono ?_; rintro e w1 ⟨rfl, rfl⟩)
    have hmx : Try.prog.follows .mixedOrders = true := by kernel_rfl
    have HCA := catcher_any x0 x1 (x2 : Int) (x3 : Int) w1.drew (by omega) (by omega)
    clear hland
    generalize (if x1 = true then 1 - (x2 : Int) else (x2 : Int)) = jv at HCA HYY
    have HJG : Hid (∀ w3, Below w1.drew.heap.size w1.drew w3 → J (pre.map (toLt len ⟨h1, hlen⟩)) w3) := Lib.hid fun w3 b3 => hJ _ w1 w3 none hJ1 ⟨b3.os, b3.tape, b3.output, b3.size, fun k hk _ => b3.block k hk⟩ (fun r e => by cases e)
    have HY0 := Lib.hid bY1
    have HJ0 := Lib.hid bJ1
    have HB1 := Lib.hid hB1
    clear hJ hJ1 bY1 bJ1 hB1 bX e0 HMO
    gi_region_with_o (first
      | (refine ⟨trivial, ?_⟩; gi_at_call 102; refine (CallsIn.inRound l2 (callsIn_wide.2 HCA)).mono ?_; rintro e w3 ⟨rfl, b3⟩; obtain ⟨fn, tmps, assign, body, hy, hR⟩ := HYY.out w3 (HJG.out w3 b3); have yc3 : w3.cell? ⟨W.heap.size, 0, none⟩ = some (.func (.yield l) #[] #[]) := (b3.cell (p := ⟨W.heap.size, 0, none⟩) HY0.out.lt).trans yc)
      | (refine (roundIn_wide hR).mono ?_; rintro e W3 hh; obtain ⟨bb, rfl, hP⟩ := one_way hh; replace hP := Lib.hid hP))
    all_goals (
      have hsw := HB1.out.size
      have e1 : KeepsAll W.heap.size w1 w3 := ⟨b3.size, fun k o _ h0 => (b3.block k (Array.getElem?_eq_some_iff.1 h0).1).trans h0⟩
      have e2 : Below n₀ w1 w3 := ⟨b3.os, b3.tape, b3.output, b3.size, fun k hk => b3.block k (by show k < w1.heap.size; omega)⟩
      have e3 : Blk w3 Bj _ _ := HJ0.out.block (b3.block Bj HJ0.out.lt)
      rcases hP.out with ⟨rfl, hJ3, ⟨hk1, hk2⟩, hk3⟩ | ⟨rfl, hJ3, hk3⟩
      · have E := e1.trans hk3
        gi_wp2
        exact ⟨(E.mono (by omega)).from, e2.trans hk1, ⟨⟨hJ3, E.same _ _ (Nat.le_refl _) HY0.out⟩, hk2 _ _ e3⟩, (HB1.out.trans e2).trans hk1⟩
      · have E := e1.trans hk3
        gi_wp2
        exact ⟨(E.mono (by omega)).from, rfl, hJ3⟩)
  case done =>
    rintro D zs W' hD hzs ⟨⟨⟨hJ1, bY1⟩, bJ1⟩, hB1⟩ hK
    have hv : (zs.map (toLt len ⟨h1, hlen⟩)).map Subtype.val = lands len a b := by
      unfold lands
      rw [← hzs, List.map_map, List.map_map]
      rfl
    gi_wp2
    refine ⟨by simp, .inl ⟨_, _, rfl, run_takeDeferred hK, ?_⟩⟩
    exact ⟨_, results_none rfl _ _ _, ⟨_, rfl⟩, .inl ⟨_, hv, hJ.putObj _ hJ1 (by omega) hK rfl⟩⟩
  case stop =>
    rintro D c pre W' hD hpre ⟨rfl, hJ1⟩ hK
    have hv : (pre.map (toLt len ⟨h1, hlen⟩)).map Subtype.val <+: lands len a b := by
      obtain ⟨t, ht⟩ := hpre
      refine ⟨t.map (landOf len), ?_⟩
      unfold lands
      rw [← ht, List.map_append, List.map_map, List.map_map]
      rfl
    gi_wp2
    refine ⟨by simp, .inl ⟨_, _, rfl, run_takeDeferred hK, ?_⟩⟩
    exact ⟨_, results_none rfl _ _ _, ⟨_, rfl⟩, .inr ⟨_, hv, hJx.putObj _ hJ1 (by omega) hK rfl⟩⟩
end Go.Proofs.Ytjhhldfhfebboaa
