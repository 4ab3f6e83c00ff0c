/- The orbits of a pattern, the program's: orbitsOf joins each throw with the one where it lands. Condition: a pattern. -/
import Derived.Test.YtlpeigeadjojnabOrI
import Derived.Test.YtlpeigeadjojnabImpl02
import Derived.Test.YtlpeigeadjojnabSees
import Derived.Deep.DeepCutAuto
import Derived.Deep.RegionHeld3
namespace Go.Proofs.Ytlpeigeadjojnab
open Go.RowKit
set_option linter.unusedSimpArgs false
set_option linter.unusedVariables false

theorem Try.infoLk : (Try.prog.info? 58).map (fun i => (i.zero, i.size, i.bytes)) = some (some (.agg #[.int .i64 0, .pointer none]), 2, 16) := by kernel_rfl

/-- links, the first k of which bear their indices -/
def lksK (n k : Nat) : List Lnk := (List.range n).map fun j : Nat => (if j < k then (j : Int) else 0, none)
theorem lksK_len (n k : Nat) : (lksK n k).length = n := by simp [lksK]
theorem lksK_zero (n : Nat) : lksK n 0 = List.replicate n lk0 := by
  apply List.ext_getElem
  · simp [lksK]
  · intro i h1 h2
    simp [lksK, lk0]
theorem lksK_all (n : Nat) : lksK n n = lksL n (fun _ => none) := by
  apply List.ext_getElem
  · simp [lksK, lksL]
  · intro i h1 h2
    have : i < n := by simpa [lksK] using h1
    simp [lksK, lksL, this]
theorem lksK_at (n k j : Nat) (hj : j < n) : (lksK n k).getD j lk0 = (if j < k then (j : Int) else 0, none) := by simp [lksK, hj]
theorem lksK_set (n k : Nat) (hk : k < n) : (lksK n k).set k ((k : Int), none) = lksK n (k + 1) := by
  apply List.ext_getElem
  · simp [lksK]
  · intro i h1 h2
    simp only [lksK, List.getElem_set, List.getElem_map, List.getElem_range]
    by_cases e : k = i
    · subst e; simp
    · rw [if_neg e]
      by_cases hl : i < k
      · rw [if_pos hl, if_pos (by omega)]
      · rw [if_neg hl, if_neg (by omega)]
theorem lks_index {w : World} {B g n cap k : Nat} (h : OwnK 58 2 (lkV g) w B (.slice (some ⟨g, 0, none⟩) n cap) (lksK n k)) (hk : k < n) :
    OwnK 58 2 (lkV g) (w.setCell ⟨g, k * 2, none⟩ (.int .i64 k)) B (.slice (some ⟨g, 0, none⟩) n cap) (lksK n (k + 1)) := by
  have := h.put (lkV_len g) lk0 k 0 (.int .i64 k) ((k : Int), none) (by rw [lksK_len]; exact hk) (by decide) (by rw [lksK_at n k k hk]; rfl)
  rw [lksK_set n k hk] at this
  exact this

theorem stc_setO {w : World} {b : Nat} {p q : Value} (u v : Value) (h0 : w.cell? ⟨b, 0, none⟩ = some p) (h1 : w.cell? ⟨b, 1, none⟩ = some q) :
    ((w.setCell ⟨b, 0, none⟩ u).setCell ⟨b, 1, none⟩ v).cell? ⟨b, 0, none⟩ = some u ∧ ((w.setCell ⟨b, 0, none⟩ u).setCell ⟨b, 1, none⟩ v).cell? ⟨b, 1, none⟩ = some v := by
  refine ⟨?_, ?_⟩
  · exact (World.cell?_setCell_other _ _ _ _ (by simp)).trans (World.cell?_setCell_same _ _ _ h0)
  · exact World.cell?_setCell_same _ _ _ (u := q) ((World.cell?_setCell_other _ _ _ _ (by simp)).trans h1)
/-- the links, the struct that holds them, and the result's variable lie in a world -/
def LkAt (w : World) (B g n : Nat) (u : Nat → Option Nat) (O g0 cap N : Nat) : Prop :=
  Lks w B g n n u ∧ Blk w O [.slice (some ⟨g0, 0, none⟩) n cap, .slice (some ⟨g, 0, none⟩) n n] 52 ∧ Blk w N [.slice none 0 0, .slice none 0 0] 52

set_option maxRecDepth 10000 in
set_option maxHeartbeats 2000000 in
theorem orbitsOf_any (v : Value) (B : Nat) (p : List Int) (w : World) (h : Ints w B v p) (hok : okPat p = true) :
    Calls Try.prog 29 #[v] w fun e w' => ∃ g u, e = .returned (.agg #[v, .slice (some ⟨g, 0, none⟩) p.length p.length]) ∧ Links p u p.length ∧ Lks w' w.heap.size g p.length p.length u ∧ Below w.heap.size w w' := by
  obtain ⟨i0, hi0, hz0, hz1, hz2⟩ := info_parts Try.infoLk
  obtain ⟨l1, l2⟩ := okPat_len hok
  have HPA := Lib.hid (fun j (hj : j < p.length) => okPat_at hok j hj)
  obtain ⟨g0, cap, e, _, hg0, _, _⟩ := h.shape2 l1
  subst e
  have HC := Lib.hid (fun W (hW : Below w.heap.size w W) j (hj : j < p.length) => (h.below hW).cell j hj)
  have HNX := Lib.hid (fun (j : Nat) => show (((j : Int) + p.getD j 0) % (p.length : Int)) = ((nxt p j : Nat) : Int) from (nxt_cast hok j).symm)
  have HNL := Lib.hid (fun (j : Nat) => nxt_lt hok j)
  have HSM := Lib.hid (fun u t (hL : Links p u t) a (h1 : Rt u t a) (h2 : Rt u (nxt p t) a) => hL.same h1 h2)
  have HTD := Lib.hid (fun u t (hL : Links p u t) (ht : t < p.length) a b lo hi h1 h2 hlo hs => hL.tied hok ht (a := a) (b := b) (lo := lo) (hi := hi) h1 h2 hlo hs)
  clear h hok hg0
  go_enter Try.func29, Try.ntmps29
  have Q0 := Blk.made w #[.slice none 0 0, .slice none 0 0] 52
  go_wp2_with (at_make; refine wpList_make_full _ rfl _ _ 50 rfl (w.heap.size + 1) 58 i0 (.agg #[.int .i64 0, .pointer none]) 2 Try.underlying50 hi0 hz0 hz1 _ _ _ _ p.length rfl rfl rfl rfl (by rw [hz2]; omega) (by unfold maxLen; omega) (by simp) ?_; intro w1 hown hgr; refine Hid.out ?_)
  have hO : OwnK 58 2 (lkV (w.heap.size + 1)) w1 (w.heap.size + 1) (.slice (some ⟨w.heap.size + 1, 0, none⟩) p.length p.length) (lksK p.length 0) := by
    have e := made_flat (lkV_len (w.heap.size + 1)) lk0 p.length (by decide)
    unfold OwnK
    rw [lksK_zero, List.length_replicate, ← e]
    simp at hown
    exact hown
  have hb1 : Below w.heap.size w w1 := ((Below.refl _ _).alloc (Nat.le_refl _) _).grown hgr (by simp) (by simp)
  have Q1 : Blk w1 w.heap.size [.slice none 0 0, .slice none 0 0] 52 := Q0.block (hgr.block _ (by simp) (by simp))
  have hs1 : w.heap.size + 2 ≤ w1.heap.size := by
    have := hO.under (w.heap.size + 1) rfl
    omega
  clear hown hgr hi0 hz0 hz1 hz2 Q0
  have QO := Blk.made w1 #[.slice (some ⟨g0, 0, none⟩) p.length cap, .slice (some ⟨w.heap.size + 1, 0, none⟩) p.length p.length] 52
  have Q1 := Q1.alloc (.cells #[.slice (some ⟨g0, 0, none⟩) p.length cap, .slice (some ⟨w.heap.size + 1, 0, none⟩) p.length p.length] 52)
  have hO := hO.alloc (.cells #[.slice (some ⟨g0, 0, none⟩) p.length cap, .slice (some ⟨w.heap.size + 1, 0, none⟩) p.length p.length] 52)
  have hb1 := hb1.alloc (by omega) (.cells #[.slice (some ⟨g0, 0, none⟩) p.length cap, .slice (some ⟨w.heap.size + 1, 0, none⟩) p.length p.length] 52)
  generalize hn : p.length = n at *
  have HNE := Lib.hid hn
  clear hn
  obtain ⟨O, hOE⟩ : ∃ O, w1.heap.size = O := ⟨_, rfl⟩
  have HOE := Lib.hid hOE
  rw [hOE] at QO hs1
  clear hOE
  refine Lib.hid ?_
  go_wp2
  rw [HOE.out]
  go_loopw [14] (fun i wr => ∃ k : Nat, k ≤ n ∧ i = .int .i64 k ∧ OwnK 58 2 (lkV (w.heap.size + 1)) wr (w.heap.size + 1) (.slice (some ⟨w.heap.size + 1, 0, none⟩) n n) (lksK n k) ∧
    Blk wr O [.slice (some ⟨g0, 0, none⟩) n cap, .slice (some ⟨w.heap.size + 1, 0, none⟩) n n] 52 ∧ Blk wr w.heap.size [.slice none 0 0, .slice none 0 0] 52 ∧ Below w.heap.size w wr) (fun i _ => n - (intOf i).toNat)
  case atStart => exact ⟨0, Nat.zero_le _, rfl, hO, QO, Q1, hb1⟩
  case round =>
    obtain ⟨k, hk, rfl, hr, qo, q1, hb⟩ := hrel
    clear hO QO Q1 hb1
    by_cases hlt : k < n
    · have c0 := hr.cell (lkV_len _) lk0 k 0 (by rw [lksK_len]; exact hlt) (by decide)
      rw [lksK_at n k k hlt, if_neg (Nat.lt_irrefl k)] at c0
      have c0' : wr.cell? ⟨w.heap.size + 1, k * 2, none⟩ = some (.int .i64 0) := c0
      have f0 := hr.free (k * 2)
      have o1 := qo.cell 1
      have o1' : wr.cell? ⟨O, 1, none⟩ = some (.slice (some ⟨w.heap.size + 1, 0, none⟩) n n) := o1
      have hn1 := lks_index hr hlt
      have qo2 := qo.other (p := ⟨w.heap.size + 1, k * 2, none⟩) (show O ≠ w.heap.size + 1 by omega) (.int .i64 k)
      have q12 := q1.other (p := ⟨w.heap.size + 1, k * 2, none⟩) (show w.heap.size ≠ w.heap.size + 1 by omega) (.int .i64 k)
      have hb2 := hb.setCell (p := ⟨w.heap.size + 1, k * 2, none⟩) (by simp) (.int .i64 k)
      clear c0 o1 hr qo q1 hb HPA HC HNX HNL HSM HTD
      go_wp2
      go_roundw
      case rel => exact ⟨k + 1, by omega, by go_num, hn1, qo2, q12, hb2⟩
      case measure => simp [intOf]; omega
    · obtain rfl : k = n := by omega
      rw [lksK_all] at hr
      have o1 := qo.cell 1
      have o1' : wr.cell? ⟨O, 1, none⟩ = some (.slice (some ⟨w.heap.size + 1, 0, none⟩) k k) := o1
      have hL0 : Links p (fun _ => none) 0 := Links.start
      clear o1
      go_wp2
      go_loopw [27] (fun i wr => ∃ t : Nat, t ≤ k ∧ i = .int .i64 t ∧ ∃ u, Links p u t ∧ Lks wr (w.heap.size + 1) (w.heap.size + 1) k k u ∧
        Blk wr O [.slice (some ⟨g0, 0, none⟩) k cap, .slice (some ⟨w.heap.size + 1, 0, none⟩) k k] 52 ∧ Blk wr w.heap.size [.slice none 0 0, .slice none 0 0] 52 ∧ Below w.heap.size w wr) (fun i _ => k - (intOf i).toNat)
      case atStart => exact ⟨0, Nat.zero_le _, rfl, _, hL0, hr, qo, q1, hb⟩
      case round =>
        clear hr qo q1 hb o1' hL0
        obtain ⟨t, ht, rfl, u, hL, hr, qo, q1, hb⟩ := hrel
        have o0 : wr.cell? ⟨O, 0, none⟩ = some (.slice (some ⟨g0, 0, none⟩) k cap) := qo.cell 0
        have o1 : wr.cell? ⟨O, 1, none⟩ = some (.slice (some ⟨w.heap.size + 1, 0, none⟩) k k) := qo.cell 1
        by_cases hlt : t < k
        · obtain ⟨a, ha⟩ := Rt.ex hL.down t
          obtain ⟨b, hbr⟩ := Rt.ex hL.down (nxt p t)
          have hnl := HNL.out t
          have HJU : Hid (Links p (jnU u a b) (t + 1)) := Lib.hid (by
            unfold jnU
            by_cases h1 : a < b
            · rw [if_pos h1]
              exact HTD.out u t hL (by omega) a b a b ha hbr h1 (.inl ⟨rfl, rfl⟩)
            · rw [if_neg h1]
              by_cases h2 : b < a
              · rw [if_pos h2]
                exact HTD.out u t hL (by omega) a b b a ha hbr h2 (.inr ⟨rfl, rfl⟩)
              · rw [if_neg h2]
                obtain rfl : a = b := by omega
                exact HSM.out u t hL a ha hbr)
          have HJ := Lib.hid (fun W (hW : LkAt W (w.heap.size + 1) (w.heap.size + 1) k u O g0 cap w.heap.size) (hB : Below w.heap.size w W) => show Calls Try.prog 45 #[.pointer (some ⟨w.heap.size + 1, t * 2, none⟩), .pointer (some ⟨w.heap.size + 1, nxt p t * 2, none⟩)] W fun e W' => e = .returned (.tuple #[]) ∧ Below w.heap.size w W' ∧ W'.cell? ⟨O, 1, none⟩ = some (.slice (some ⟨w.heap.size + 1, 0, none⟩) k k) ∧ LkAt W' (w.heap.size + 1) (w.heap.size + 1) k (jnU u a b) O g0 cap w.heap.size from by
            refine (join_any (w.heap.size + 1) (w.heap.size + 1) k k u t (nxt p t) a b W hW.1 hL.down hlt hnl ha hbr (by omega)).mono ?_
            rintro e W' ⟨rfl, h1, h2⟩
            have q2 : Blk W' O [.slice (some ⟨g0, 0, none⟩) k cap, .slice (some ⟨w.heap.size + 1, 0, none⟩) k k] 52 := hW.2.1.block (h2.block O hW.2.1.lt (by simp; omega))
            have q3 : Blk W' w.heap.size [.slice none 0 0, .slice none 0 0] 52 := hW.2.2.block (h2.block _ hW.2.2.lt (by simp))
            exact ⟨rfl, hB.trans ⟨h2.os, h2.tape, h2.output, h2.size, fun j hj => h2.block j (by have := hB.size; omega) (by simp; omega)⟩, q2.cell 1, h1, q2, q3⟩)
          have HLA := Lib.hid (fun W (hB : Below w.heap.size w W) => show Calls Try.prog 46 #[.slice (some ⟨g0, 0, none⟩) k cap, .int .i64 t] W fun e W' => e = .returned (.int .i64 (nxt p t : Nat)) ∧ ∃ m, W' = W.drewN m from by
            have := landing_core g0 k cap t (p.getD t 0) W l1 l2 hlt (HPA.out t hlt) (HC.out W hB t hlt)
            rwa [HNX.out t] at this)
          have HLB : Hid (LkAt wr (w.heap.size + 1) (w.heap.size + 1) k u O g0 cap w.heap.size) := Lib.hid ⟨hr, qo, q1⟩
          clear hr qo q1 HPA HC HNX HNL HSM HTD hL ha hbr o0
          generalize nxt p t = nt at *
          go_wp2
          go_region_held3 (fun W => Below w.heap.size w W ∧ W.cell? ⟨O, 1, none⟩ = some (.slice (some ⟨w.heap.size + 1, 0, none⟩) k k)) (refine ⟨?_, ?_⟩ <;> (repeat (first | assumption | exact Below.refl _ _ | refine Below.drew ?_ | refine below_drewN ?_ _))) (first | (go_at_call 46; (with_reducible refine (HLA.out _ ?_).mono ?_); (repeat (first | assumption | exact Below.refl _ _ | refine Below.drew ?_ | refine below_drewN ?_ _)); rintro e x8 ⟨rfl, m8, rfl⟩) | (go_at_call 45; (with_reducible refine (HJ.out _ ?_ ?_).mono ?_); (exact HLB.out); (repeat (first | assumption | exact Below.refl _ _ | refine Below.drew ?_ | refine below_drewN ?_ _)); rintro e x9 ⟨rfl, y1, y2, y3⟩))
          all_goals go_wp2
          all_goals go_roundw
          case rel => exact ⟨t + 1, by omega, by go_num, _, HJU.out, y3.1, y3.2.1, y3.2.2, y1⟩
          case measure => simp [intOf]; omega
        · obtain rfl : t = k := by omega
          have c0 := q1.cell 0
          have c1 := q1.cell 1
          have f0 := q1.free 0
          have f1 := q1.free 1
          simp only [List.getElem?_cons_zero, List.getElem?_cons_succ] at c0 c1
          obtain ⟨r0, r1⟩ := stc_setO (.slice (some ⟨g0, 0, none⟩) t cap) (.slice (some ⟨w.heap.size + 1, 0, none⟩) t t) c0 c1
          have HR := Lib.hid hr
          clear HPA HC HNX HNL HSM HTD hr qo q1
          go_wp2
          refine bodyPost_ret (v := .agg #[.slice (some ⟨g0, 0, none⟩) t cap, .slice (some ⟨w.heap.size + 1, 0, none⟩) t t]) (by simp [results, Try.results29, go_sem, r0, r1]) rfl ?_
          have hgN := HNE.out
          rw [hgN]
          refine ⟨_, u, rfl, hL, ?_, (hb.setCell (Nat.le_refl _) _).setCell (Nat.le_refl _) _⟩
          have hL2 : Lks ((wr.setCell ⟨w.heap.size, 0, none⟩ (.slice (some ⟨g0, 0, none⟩) t cap)).setCell ⟨w.heap.size, 1, none⟩ (.slice (some ⟨w.heap.size + 1, 0, none⟩) t t)) (w.heap.size + 1) (w.heap.size + 1) t t u :=
            HR.out.block fun j hj _ => by
              have hj' : w.heap.size + 1 = j := by simpa [Value.ownBlock] using hj
              rw [Below.heap_setCell _ _ _ _ (by simp; omega), Below.heap_setCell _ _ _ _ (by simp; omega)]
          exact hL2.mono (by omega)
end Go.Proofs.Ytlpeigeadjojnab
