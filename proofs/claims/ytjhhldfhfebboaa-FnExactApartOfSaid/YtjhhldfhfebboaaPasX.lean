/- ValidPassing, the program's. -/
import Derived.Test.YtjhhldfhfebboaaIterQ
namespace Go.Proofs.Ytjhhldfhfebboaa
open Go.RowKit Go.Shelf
set_option linter.unusedSimpArgs false
set_option linter.unusedVariables false
attribute [local go_sem] Oper.semAt_some

set_option maxRecDepth 100000 in
theorem jugglersOf_any (a b : Option Addr) (la ca lb cb : Nat) (w : World) :
    Calls Try.prog 51 #[.agg #[.slice a la ca, .slice b lb cb]] w fun e w' => e = .returned (.agg #[.slice a la ca, .slice b lb cb]) ∧ Below w.heap.size w w' := by
  go_enter Try.func51, Try.ntmps51
  go_wp2
  refine bodyPost_ret (v := .agg #[.slice a la ca, .slice b lb cb]) (by simp [results, Try.results51, go_sem]) rfl ?_
  exact ⟨rfl, ((Below.refl _ _).alloc (Nat.le_refl _) _).alloc (by simp) _⟩

abbrev noCaught : Array Value := #[.bool false, .bool false, .bool false, .bool false, .bool false, .bool false, .bool false, .bool false, .bool false, .bool false, .bool false, .bool false, .bool false, .bool false, .bool false, .bool false]

/-- which landings are caught -/
def caughtOf (pre : List (Int × Int)) : List Value := (List.range 16).map fun k => .bool (decide ((((k / 8 : Nat) : Int), ((k % 8 : Nat) : Int)) ∈ pre))
theorem caughtOf_nil : caughtOf [] = noCaught.toList := by rfl
theorem caughtOf_get (pre : List (Int × Int)) (k : Nat) (hk : k < 16) : (caughtOf pre)[k]? = some (.bool (decide ((((k / 8 : Nat) : Int), ((k % 8 : Nat) : Int)) ∈ pre))) := by
  unfold caughtOf; simp [hk]
theorem caughtOf_snoc (pre : List (Int × Int)) (k : Nat) (hk : k < 16) : (caughtOf pre).set k (.bool true) = caughtOf (pre ++ [(((k / 8 : Nat) : Int), ((k % 8 : Nat) : Int))]) := by
  apply List.ext_getElem?
  intro m
  unfold caughtOf
  by_cases hm : m < 16
  · by_cases e : m = k
    · subst e; simp [hm]
    · rw [List.getElem?_set_ne (Ne.symm e)]
      have : ¬ ((((m / 8 : Nat) : Int), ((m % 8 : Nat) : Int)) = (((k / 8 : Nat) : Int), ((k % 8 : Nat) : Int))) := by
        intro h; simp only [Prod.mk.injEq] at h; omega
      simp only [List.getElem?_map, List.getElem?_range hm, Option.map_some, List.mem_append, List.mem_singleton, this, or_false]
  · rw [List.getElem?_eq_none (by simp; omega), List.getElem?_eq_none (by simp; omega)]
theorem KeepsAll.setCell {B : Nat} {W : World} {p : Addr} (u : Value) (h : p.block < B) : KeepsAll B W (W.setCell p u) := ⟨by simp, fun k o hk h0 => (Below.heap_setCell W p u k (by omega)).trans h0⟩

set_option maxRecDepth 100000 in
set_option maxHeartbeats 4000000 in
theorem validPassing_row (ga gb ca cb len : Nat) (a b : List Pt) (w : World) (h1 : 1 ≤ len) (hlen : len ≤ 8) (hok : (mts len a b).all (fun x => okPt x.1) = true) (hra : ReadP w.heap.size w ga len a) (hrb : ReadP w.heap.size w gb len b)
    (hL : ∀ w', Below w.heap.size w w' → Calls Try.prog 82 #[.agg #[.slice (some ⟨ga, 0, none⟩) len ca, .slice (some ⟨gb, 0, none⟩) len cb]] w' fun e w'' => e = .returned (.bool true) ∧ Below w'.heap.size w' w'') :
    CallsIn Fence.wide 7 Try.prog 45 #[.agg #[.slice (some ⟨ga, 0, none⟩) len ca, .slice (some ⟨gb, 0, none⟩) len cb]] w fun e w' => e = .returned (.bool (decide (lands len a b).Nodup)) ∧ Below w.heap.size w w' := by
  refine callsIn_of_wp_marks Try.func45 rfl trivial ?_ rfl
  simp only [Try.ntmps45, List.size_toArray, List.length_cons, List.length_nil, Nat.reduceAdd, Nat.reduceSub, Array.replicate_succ, Array.replicate_zero, List.push_toArray, List.append_toArray, List.nil_append, List.cons_append]
  gi_wp2_with (first
    | (refine ⟨trivial, ?_⟩; gi_at_call 51; refine (callsIn_wide.2 (jugglersOf_any _ _ _ _ _ _ _)).mono ?_; rintro e w1 ⟨rfl, b1⟩)
    | (refine ⟨trivial, ?_⟩; gi_at_call 82; refine (callsIn_wide.2 (hL _ ?_)).mono ?_; rotate_left; rintro e w2 ⟨rfl, b2⟩; have bj : Blk w2 w1.heap.size [.slice (some ⟨ga, 0, none⟩) len ca, .slice (some ⟨gb, 0, none⟩) len cb] 63 := (Blk.made w1 #[.slice (some ⟨ga, 0, none⟩) len ca, .slice (some ⟨gb, 0, none⟩) len cb] 63).below b2 (by simp); have j0 := (bj.alloc (.cells noCaught 98)).cell 0; have j1 := (bj.alloc (.cells noCaught 98)).cell 1; simp only [List.getElem?_cons_zero, List.getElem?_cons_succ] at j0 j1)
    | (refine ⟨trivial, ?_⟩; gi_at_call 83; refine (landings_in _ _ trivial rfl _ _ _).mono ?_; rintro e w3 ⟨rfl, rfl⟩))
  rotate_left
  · exact ((((Below.refl _ w).alloc (Nat.le_refl _) _).alloc (by simp) _).trans (b1.mono (by simp; omega))).alloc (by have := b1.size; simp at this; omega) _
  have bR := (((Blk.made (w.alloc (.cells #[.slice (some ⟨ga, 0, none⟩) len ca, .slice (some ⟨gb, 0, none⟩) len cb] 31)) #[.bool false] 4).below b1 (by simp)).alloc (.cells #[.slice (some ⟨ga, 0, none⟩) len ca, .slice (some ⟨gb, 0, none⟩) len cb] 63)).below b2 (by have := b1.size; simp at this ⊢; omega)
  have bR := (bR.alloc (.cells noCaught 98)).alloc (.cells #[.slice (some ⟨ga, 0, none⟩) len ca, .slice (some ⟨gb, 0, none⟩) len cb] 63)
  have bC := (Blk.made w2 noCaught 98).alloc (.cells #[.slice (some ⟨ga, 0, none⟩) len ca, .slice (some ⟨gb, 0, none⟩) len cb] 63)
  have bJ := Blk.made (w2.alloc (.cells noCaught 98)) #[.slice (some ⟨ga, 0, none⟩) len ca, .slice (some ⟨gb, 0, none⟩) len cb] 63
  simp only [World.size_alloc] at bR bJ
  have s1 := b1.size
  have s2 := b2.size
  simp only [World.size_alloc] at s1 s2
  have hB0 : Below w.heap.size w ((w2.alloc (.cells noCaught 98)).alloc (.cells #[.slice (some ⟨ga, 0, none⟩) len ca, .slice (some ⟨gb, 0, none⟩) len cb] 63)) := (((((((Below.refl _ w).alloc (Nat.le_refl _) _).alloc (by simp) _).trans (b1.mono (by simp; omega))).alloc (by omega) _).trans (b2.mono (by simp; omega))).alloc (by omega) _).alloc (by simp; omega) _
  have hsz : ((w2.alloc (.cells noCaught 98)).alloc (.cells #[.slice (some ⟨ga, 0, none⟩) len ca, .slice (some ⟨gb, 0, none⟩) len cb] 63)).heap.size = w2.heap.size + 2 := by simp
  obtain ⟨W0, hW0⟩ : ∃ W0, (w2.alloc (.cells noCaught 98)).alloc (.cells #[.slice (some ⟨ga, 0, none⟩) len ca, .slice (some ⟨gb, 0, none⟩) len cb] 63) = W0 := ⟨_, rfl⟩
  change Code.wpIn _ _ _ _ _ _ ((w2.alloc (.cells noCaught 98)).alloc (.cells #[.slice (some ⟨ga, 0, none⟩) len ca, .slice (some ⟨gb, 0, none⟩) len cb] 63))
  rw [hW0] at bR bC bJ hB0 hsz ⊢
  clear hW0 j0 j1 bj
  refine range_own (F := Fence.wide) rfl (by omega) (gf := 101) (lb := #[.pointer (some ⟨w2.heap.size + 1, 0, none⟩)]) rfl trivial (enters_of Try.func101 (by kernel_rfl) rfl)
    (landings_own (w2.heap.size + 1) w.heap.size ga gb ca cb len a b h1 hlen hok W0 (by omega) (by omega) bJ (hra.below hB0) (hrb.below hB0))
    (fun h1 h2 => ⟨h1.1.trans h2.1, fun cs T h => h2.2 cs T (h1.2 cs T h)⟩)
    (fun W l o o' hl h0 ho => ⟨⟨rfl, rfl, rfl, by simp, fun k hk => World.putObj_heap_other (by omega)⟩, fun cs T h => (World.putObj_heap_other (by have := h.lt; omega)).trans h⟩) (fun _ => rfl)
    (fun pre W => ((Blk W (w.heap.size + 1) [.bool false] 4 ∧ Blk W w2.heap.size (caughtOf (pre.map Subtype.val)) 98) ∧ (pre.map Subtype.val).Nodup) ∧ Below w.heap.size w W)
    (fun c pre W => ((Blk W (w.heap.size + 1) [.bool false] 4 ∧ c = .ret) ∧ ¬ (pre.map Subtype.val).Nodup) ∧ Below w.heap.size w W)
    (OwnFrom.and (OwnFrom.and (OwnFrom.and (Own.from (blk_own _ _ _) _) (Own.from (blk_own _ _ _) _)) (fun _ _ _ _ hs _ _ => hs)) (ownFrom_below (Nat.le_refl _) (by omega)))
    (fun c => OwnFrom.and (OwnFrom.and (OwnFrom.and (Own.from (blk_own _ _ _) _) (fun _ _ _ _ hs _ _ => hs)) (fun _ _ _ _ hs _ _ => hs)) (ownFrom_below (Nat.le_refl _) (by omega)))
    ⟨⟨⟨bR, bC⟩, List.nodup_nil⟩, hB0⟩
    (fun x => { tmps := #[.agg #[.slice (some ⟨ga, 0, none⟩) len ca, .slice (some ⟨gb, 0, none⟩) len cb], .pointer (some ⟨w.heap.size, 0, none⟩), .pointer (some ⟨w.heap.size + 1, 0, none⟩), .pointer (some ⟨w1.heap.size, 0, none⟩), .pointer (some ⟨w2.heap.size, 0, none⟩), .int .i64 x.1.1, .int .i64 x.1.2, .agg #[.slice (some ⟨ga, 0, none⟩) len ca, .slice (some ⟨gb, 0, none⟩) len cb], .agg #[.slice (some ⟨ga, 0, none⟩) len ca, .slice (some ⟨gb, 0, none⟩) len cb], .agg #[.slice (some ⟨ga, 0, none⟩) len ca, .slice (some ⟨gb, 0, none⟩) len cb], .bool true, .bool false, .agg #[.slice (some ⟨ga, 0, none⟩) len ca, .slice (some ⟨gb, 0, none⟩) len cb], .func (.func 101) #[] #[.pointer (some ⟨w2.heap.size + 1, 0, none⟩)], .int .i64 x.1.1, .int .i64 x.1.2, undef, undef, undef, undef, undef, undef, undef, undef, undef], defers := [] })
    ?assign ?body ?done ?stop
  case assign =>
    intro l x W K hK
    simp only [encL] at hK ⊢
    gi_wp2
    exact hK
  case body =>
    rintro l pre ⟨⟨ja, ia⟩, ⟨hj0, hj1⟩, hi0, hi1⟩ W ⟨⟨⟨bR1, bC1⟩, hnd⟩, hB1⟩ hlen2
    obtain ⟨k, hk, hja, hia⟩ : ∃ k : Nat, k < 16 ∧ ja = ((k / 8 : Nat) : Int) ∧ ia = ((k % 8 : Nat) : Int) := ⟨(ja * 8 + ia).toNat, by omega, by omega, by omega⟩
    have cK := bC1.cell k
    rw [caughtOf_get _ k hk, ← hja, ← hia] at cK
    have fK := bC1.free k
    have rK := bR1.free 0
    have rC := bR1.cell 0
    simp only [List.getElem?_cons_zero] at rC
    have HS0 := bC1.set k (.bool true)
    rw [caughtOf_snoc _ k hk, ← hja, ← hia] at HS0
    have HS := Lib.hid HS0
    have HR := Lib.hid bR1
    have HB := Lib.hid hB1
    have hmap : (pre ++ [(⟨(ja, ia), ⟨hj0, hj1⟩, hi0, hi1⟩ : Lt)]).map Subtype.val = pre.map Subtype.val ++ [(ja, ia)] := by simp
    by_cases hm : (ja, ia) ∈ pre.map Subtype.val
    · rw [decide_eq_true hm] at cK
      have HN := Lib.hid (show ¬ ((pre ++ [(⟨(ja, ia), ⟨hj0, hj1⟩, hi0, hi1⟩ : Lt)]).map Subtype.val).Nodup from by
        rw [hmap]; intro h; exact (List.nodup_append.1 h).2.2 _ hm _ (by simp) rfl)
      clear hm bR1 bC1 hnd hB1 hlen2 HS0 hmap hra hrb hok HS hL b1 b2 hB0 bR bC bJ
      obtain rfl | rfl | rfl | rfl | rfl | rfl | rfl | rfl | rfl | rfl | rfl | rfl | rfl | rfl | rfl | rfl : k = 0 ∨ k = 1 ∨ k = 2 ∨ k = 3 ∨ k = 4 ∨ k = 5 ∨ k = 6 ∨ k = 7 ∨ k = 8 ∨ k = 9 ∨ k = 10 ∨ k = 11 ∨ k = 12 ∨ k = 13 ∨ k = 14 ∨ k = 15 := by omega
      all_goals (
        simp at hja hia
        subst hja hia
        gi_wp2
        exact ⟨KeepsAll.setCell _ (by show w.heap.size + 1 < w2.heap.size + 2; omega), ⟨⟨HR.out.set 0 (.bool false), rfl⟩, HN.out⟩, HB.out.setCell (p := ⟨w.heap.size + 1, 0, none⟩) (by simp) _⟩)
    · rw [decide_eq_false hm] at cK
      have HN := Lib.hid (show ((pre ++ [(⟨(ja, ia), ⟨hj0, hj1⟩, hi0, hi1⟩ : Lt)]).map Subtype.val).Nodup from by
        rw [hmap, List.nodup_append]; exact ⟨hnd, by simp, fun x hx y hy e => hm (by rw [List.mem_singleton.1 hy] at e; rw [← e]; exact hx)⟩)
      rw [← hmap] at HS
      clear hm bR1 bC1 hnd hB1 hlen2 HS0 hmap hra hrb hok hL b1 b2 hB0 bR bC bJ
      obtain rfl | rfl | rfl | rfl | rfl | rfl | rfl | rfl | rfl | rfl | rfl | rfl | rfl | rfl | rfl | rfl : k = 0 ∨ k = 1 ∨ k = 2 ∨ k = 3 ∨ k = 4 ∨ k = 5 ∨ k = 6 ∨ k = 7 ∨ k = 8 ∨ k = 9 ∨ k = 10 ∨ k = 11 ∨ k = 12 ∨ k = 13 ∨ k = 14 ∨ k = 15 := by omega
      all_goals (
        simp at hja hia
        subst hja hia
        gi_wp2
        exact ⟨KeepsAll.setCell _ (by show w2.heap.size < w2.heap.size + 2; omega), ⟨(Below.refl _ W).setCell (by show w.heap.size ≤ w2.heap.size; omega) _, fun cs T h => h.other (by show w2.heap.size + 1 ≠ w2.heap.size; omega) _⟩, ⟨⟨HR.out.other (by show w.heap.size + 1 ≠ w2.heap.size; omega) _, HS.out⟩, HN.out⟩, HB.out.setCell (by show w.heap.size ≤ w2.heap.size; omega) _⟩)
  case done =>
    rintro D zs W hD hzs ⟨⟨⟨bR1, bC1⟩, hnd⟩, hB1⟩ hK
    have cR := bR1.cell 0
    have fR := bR1.free 0
    simp at cR
    have hv : decide ((lands len a b).Nodup) = true := by rw [← hzs]; exact decide_eq_true hnd
    have hK2 := (KeepsOthers.setCell W ⟨w.heap.size + 1, 0, none⟩ (.bool true)).same D _ hK rfl
    have bR2 := bR1.set 0 (.bool true)
    have hB2 := hB1.setCell (p := ⟨w.heap.size + 1, 0, none⟩) (by simp) (.bool true)
    gi_wp2
    refine ⟨by simp, .inl ⟨_, _, rfl, run_takeDeferred hK2, ?_⟩⟩
    have hcell := cell_kept (by simpa using bR2.cell 0 : (W.setCell ⟨w.heap.size + 1, 0, none⟩ (.bool true)).cell? ⟨w.heap.size + 1, 0, none⟩ = some (.bool true)) (grownBy_putObj' _ D (.deferred none)) (fun r e => by cases e; exact ⟨_, hK2, rfl⟩)
    exact ⟨.bool true, by simp [results, Try.results45, go_sem, hcell], by first | rfl | rw [hv], hB2.trans (belowK_b (w := w) (Nat.le_refl _) _ D _ _ (by omega) hK2 rfl rfl)⟩
  case stop =>
    rintro D c pre W hD hpre ⟨⟨⟨bR1, rfl⟩, hnd⟩, hB1⟩ hK
    have hv : decide ((lands len a b).Nodup) = false := decide_eq_false fun h => hnd (hpre.sublist.nodup h)
    gi_wp2
    refine ⟨by simp, .inl ⟨_, _, rfl, run_takeDeferred hK, ?_⟩⟩
    have hcell := cell_kept (by simpa using bR1.cell 0 : W.cell? ⟨w.heap.size + 1, 0, none⟩ = some (.bool false)) (grownBy_putObj' _ D (.deferred none)) (fun r e => by cases e; exact ⟨_, hK, rfl⟩)
    exact ⟨.bool false, by simp [results, Try.results45, go_sem, hcell], by first | rfl | rw [hv], hB1.trans (belowK_b (w := w) (Nat.le_refl _) _ D _ _ (by omega) hK rfl rfl)⟩
end Go.Proofs.Ytjhhldfhfebboaa
