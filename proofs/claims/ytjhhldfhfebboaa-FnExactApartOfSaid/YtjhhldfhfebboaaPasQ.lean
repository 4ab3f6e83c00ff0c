/- PassingProps, the program's. -/
import Derived.Test.YtjhhldfhfebboaaPasP
namespace Go.Proofs.Ytjhhldfhfebboaa
open Go.RowKit Go.Shelf
set_option linter.unusedSimpArgs false
set_option linter.unusedVariables false
attribute [local go_sem] Oper.semAt_some

set_option maxRecDepth 100000 in
set_option maxHeartbeats 4000000 in
theorem passingProps_row (ga gb ca cb len : Nat) (a b : List Pt) (w : World) (h1 : 1 ≤ len) (h8 : len ≤ 8) (hok : (mts len a b).all (fun x => okPt x.1) = true) (hra : ReadP w.heap.size w ga len a) (hrb : ReadP w.heap.size w gb len b)
    (hV : ∀ w', Below w.heap.size w w' → Calls Try.prog 45 #[.agg #[.slice (some ⟨ga, 0, none⟩) len ca, .slice (some ⟨gb, 0, none⟩) len cb]] w' fun e w'' => e = .returned (.bool true) ∧ Below w'.heap.size w' w'') :
    CallsIn Fence.wide 6 Try.prog 37 #[.agg #[.slice (some ⟨ga, 0, none⟩) len ca, .slice (some ⟨gb, 0, none⟩) len cb]] w fun e w' => e = .returned (.tuple #[.int .i64 (propsP len a b), .int .i64 0]) ∧ Below w.heap.size w w' := by
  refine callsIn_of_wp_marks Try.func37 rfl trivial ?_ rfl
  simp only [Try.ntmps37, List.size_toArray, List.length_cons, List.length_nil, Nat.reduceAdd, Nat.reduceSub, Array.replicate_succ, Array.replicate_zero, List.push_toArray, List.append_toArray, List.nil_append, List.cons_append]
  gi_wp2_with (first
    | (refine ⟨trivial, ?_⟩; gi_at_call 45; refine (callsIn_wide.2 (hV _ ?_)).mono ?_; rotate_left; rintro e w1 ⟨rfl, b1⟩; have bP : Blk w1 w.heap.size [.slice (some ⟨ga, 0, none⟩) len ca, .slice (some ⟨gb, 0, none⟩) len cb] 31 := (Blk.made w #[.slice (some ⟨ga, 0, none⟩) len ca, .slice (some ⟨gb, 0, none⟩) len cb] 31).below b1 (by simp); have j0 := (bP.alloc (.cells #[.int .i64 0] 2)).cell 0; have j1 := (bP.alloc (.cells #[.int .i64 0] 2)).cell 1; simp only [List.getElem?_cons_zero, List.getElem?_cons_succ] at j0 j1)
    | (refine ⟨trivial, ?_⟩; gi_at_call 51; refine (callsIn_wide.2 (jugglersOf_any _ _ _ _ _ _ _)).mono ?_; rintro e w2 ⟨rfl, b2⟩)
    | (refine ⟨trivial, ?_⟩; gi_at_call 52; refine (throws_in _ _ trivial rfl _ _ _).mono ?_; rintro e w3 ⟨rfl, rfl⟩))
  rotate_left
  · exact (Below.refl _ w).alloc (Nat.le_refl _) _
  have s1 := b1.size
  have s2 := b2.size
  have bS := (Blk.made w1 #[.int .i64 0] 2).below b2 (by simp)
  have bS := bS.alloc (.cells #[.slice (some ⟨ga, 0, none⟩) len ca, .slice (some ⟨gb, 0, none⟩) len cb] 63)
  have bP := ((bP.alloc (.cells #[.int .i64 0] 2)).below b2 (by simp; have := bP.lt; omega)).alloc (.cells #[.slice (some ⟨ga, 0, none⟩) len ca, .slice (some ⟨gb, 0, none⟩) len cb] 63)
  have bJ := Blk.made w2 #[.slice (some ⟨ga, 0, none⟩) len ca, .slice (some ⟨gb, 0, none⟩) len cb] 63
  simp only [World.size_alloc] at s1 s2
  have hB0 : Below w.heap.size w (w2.alloc (.cells #[.slice (some ⟨ga, 0, none⟩) len ca, .slice (some ⟨gb, 0, none⟩) len cb] 63)) := (((((Below.refl _ w).alloc (Nat.le_refl _) _).trans (b1.mono (by simp))).alloc (by omega) _).trans (b2.mono (by simp; omega))).alloc (by omega) _
  have hsz : (w2.alloc (.cells #[.slice (some ⟨ga, 0, none⟩) len ca, .slice (some ⟨gb, 0, none⟩) len cb] 63)).heap.size = w2.heap.size + 1 := by simp
  obtain ⟨W0, hW0⟩ : ∃ W0, w2.alloc (.cells #[.slice (some ⟨ga, 0, none⟩) len ca, .slice (some ⟨gb, 0, none⟩) len cb] 63) = W0 := ⟨_, rfl⟩
  rw [hW0] at bS bP bJ hB0 hsz ⊢
  clear hW0 j0 j1
  have HOK := Lib.hid hok
  refine wpIn_rangeFunc_ownH (F := Fence.wide) rfl (by omega) (gf := 87) (lb := #[.pointer (some ⟨w2.heap.size, 0, none⟩)]) rfl trivial (enters_of Try.func87 (by kernel_rfl) rfl)
    (throws_stopsS Fence.wide 5 trivial rfl (by omega) w2.heap.size w.heap.size ga gb ca cb len a b h8 hok W0 (by omega) (by omega) (by simpa using bJ.cell 0) (by simpa using bJ.cell 1) (hra.below hB0) (hrb.below hB0)) belowK_t (belowK_b (by omega)) (Below.refl _ _) (fun _ => rfl)
    (fun pre W => (Blk W w1.heap.size [.int .i64 (sumM (pre.map Subtype.val))] 2 ∧ Blk W w.heap.size [.slice (some ⟨ga, 0, none⟩) len ca, .slice (some ⟨gb, 0, none⟩) len cb] 31) ∧ Below w.heap.size w W)
    (fun _ _ _ => False)
    (OwnFrom.and (OwnFrom.and (Own.from (blk_own _ _ _) _) (Own.from (blk_own _ (fun _ => _) _) _)) (ownFrom_below (Nat.le_refl _) (by omega)))
    (fun c => fun _ _ _ _ hs _ _ => hs)
    ⟨⟨bS, bP⟩, hB0⟩
    (fun x a' W => ∃ Bx, Blk W Bx [.int .i64 x.1.1.1, .bool x.1.1.2, .int .i64 x.1.2.1, .int .i64 x.1.2.2] 69 ∧ a' = { tmps := #[.agg #[.slice (some ⟨ga, 0, none⟩) len ca, .slice (some ⟨gb, 0, none⟩) len cb], .pointer (some ⟨w.heap.size, 0, none⟩), .int .i64 0, .int .i64 0, .pointer (some ⟨w1.heap.size, 0, none⟩), .pointer (some ⟨Bx, 0, none⟩), .agg #[.slice (some ⟨ga, 0, none⟩) len ca, .slice (some ⟨gb, 0, none⟩) len cb], .bool true, .bool false, .agg #[.slice (some ⟨ga, 0, none⟩) len ca, .slice (some ⟨gb, 0, none⟩) len cb], .agg #[.slice (some ⟨ga, 0, none⟩) len ca, .slice (some ⟨gb, 0, none⟩) len cb], .func (.func 87) #[] #[.pointer (some ⟨w2.heap.size, 0, none⟩)], .agg #[.int .i64 x.1.1.1, .bool x.1.1.2, .int .i64 x.1.2.1, .int .i64 x.1.2.2], undef, undef, undef, undef, undef, undef, undef, undef, undef, undef], defers := [] })
    (fun x a' _ X Y row hs hg hr => by obtain ⟨Bx, h2, h3⟩ := hs; exact ⟨Bx, blk_own (β := Unit) Bx (fun _ => [.int .i64 x.1.1.1, .bool x.1.1.2, .int .i64 x.1.2.1, .int .i64 x.1.2.2]) _ () X Y row h2 hg (fun r e => (hr r e).2), h3⟩)
    ?assign ?body ?done ?stop
  case assign =>
    rintro l pre x W K ⟨⟨bS1, bP1⟩, hB1⟩ hK
    obtain ⟨⟨⟨x0, x1⟩, x2, x3⟩, hx⟩ := x
    simp only [encS, encM] at hK ⊢
    gi_wp2
    exact hK _ _ ((KeepsOthers.alloc _ _).from _) ((Below.refl _ W).alloc hB1.size _) ⟨⟨bS1.alloc _, bP1.alloc _⟩, hB1.alloc hB1.size _⟩ ⟨W.heap.size, Blk.made W _ _, rfl⟩
  case body =>
    rintro l pre x a' W hl ⟨r, hr⟩ ⟨⟨bS1, bP1⟩, hB1⟩ ⟨Bx, bX, rfl⟩ hlt
    have d0 := bX.cell 0
    have c0 := bS1.cell 0
    have f0 := bS1.free 0
    simp only [List.getElem?_cons_zero, List.getElem?_cons_succ] at d0 c0
    have hsum := sumM_le (pre.map Subtype.val) (fun y hy => by
      obtain ⟨z, _, rfl⟩ := List.mem_map.1 hy
      exact okPt_num z.2.1)
    simp only [List.length_map] at hsum
    have hx := okPt_num x.2.1
    have HSN := Lib.hid (show sumM ((pre ++ [x]).map Subtype.val) = sumM (pre.map Subtype.val) + x.1.1.1 from by rw [List.map_append, List.map_singleton, sumM_snoc])
    have HS1 := Lib.hid bS1
    have HP1 := Lib.hid bP1
    have HB1 := Lib.hid hB1
    clear bX bS1 bP1 hB1 hra hrb hr hok hV b1 b2 bS bP bJ hB0
    generalize sumM (pre.map Subtype.val) = sv at *
    generalize x.1.1.1 = xv at *
    gi_wp2
    exact ⟨(KeepsOthers.setCell _ _ _).from _, (Below.refl _ W).setCell (by show w.heap.size ≤ w1.heap.size; omega) _, ⟨by rw [HSN.out]; exact HS1.out.set 0 _, HP1.out.other (by show w.heap.size ≠ w1.heap.size; omega) _⟩, HB1.out.setCell (by show w.heap.size ≤ w1.heap.size; omega) _⟩
  case done =>
    rintro D zs W hD hzs ⟨⟨bS1, bP1⟩, hB1⟩ hK
    rw [hzs] at bS1
    have c0 := bS1.cell 0
    have e0 := bP1.cell 0
    simp only [List.getElem?_cons_zero] at c0 e0
    have hm := sumM_le (mts len a b) (fun y hy => okPt_num (mts_mem h8 hy HOK.out).1)
    have hml : (mts len a b).length = 2 * len := by simp [mts, mtsOf]; omega
    rw [hml] at hm
    have hn0 : (len : Int) ≠ 0 := by omega
    have htd : Int.tdiv (sumM (mts len a b)) (len : Int) = sumM (mts len a b) / (len : Int) := Int.tdiv_eq_ediv_of_nonneg hm.1
    have hdv0 : 0 ≤ sumM (mts len a b) / (len : Int) := Int.ediv_nonneg hm.1 (by omega)
    have hdv1 : sumM (mts len a b) / (len : Int) ≤ sumM (mts len a b) := Int.ediv_le_self _ hm.1
    have hwr : wrap64 (sumM (mts len a b) / (len : Int)) = sumM (mts len a b) / (len : Int) := IntWalk.wrap64_in _ (by push_cast at hm; omega)
    have HPP := Lib.hid (show propsP len a b = sumM (mts len a b) / (len : Int) from rfl)
    clear bS bP bJ hra hrb hok hV b1 b2 hB0
    gi_wp2
    refine ⟨by simp, .inl ⟨_, _, rfl, run_takeDeferred hK, ?_⟩⟩
    rw [HPP.out]
    exact ⟨.tuple #[.int .i64 (sumM (mts len a b) / (len : Int)), .int .i64 0], by simp [results, Try.results37, go_sem, hwr], rfl, hB1.trans (belowK_b (w := w) (Nat.le_refl _) _ D _ _ (by omega) hK rfl rfl)⟩
  case stop =>
    rintro D c pre W _ _ h _
    exact h.elim
end Go.Proofs.Ytjhhldfhfebboaa
